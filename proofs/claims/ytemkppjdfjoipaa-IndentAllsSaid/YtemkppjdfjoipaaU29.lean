/- Texts of package regs, one behind the other. -/
import Derived.Test.YtemkppjdfjoipaaProg
import Derived.Test.YtemkppjdfjoipaaU28
import Derived.WalkKit
import Derived.WalkLawsBesides
import Derived.WalkSpells
import Derived.Outline
import Derived.Lib.Walk
import Derived.Lib.Hide
import Derived.Lib.Slices
import Derived.Lib.Strings
import Derived.RegionTactic
import Derived.LoopTactic
import Derived.Below
import Derived.IntWalk
import Derived.Deep.QuietTactic
import Derived.BigQuiet
import Derived.Deep.MidRow
import Derived.Maps.AppendAt
import Derived.Laws.Rows
import Derived.Laws.Tables
import Derived.Deep.WholeRow
import Derived.Deep.Cut
import Derived.Deep.CutRange
import Derived.Lib.SliceRun
import Derived.Laws.MakeOwn
import Derived.Deep.RegionLaw
import Derived.Deep.RegionLawGrows
import Derived.Deep.RegionHeld3
import Derived.RegionCalls
import Derived.Deep.RegionWith
import Derived.Deep.Light
import Derived.Laws.CopyOwn
import Derived.Laws.ResultCell
import Derived.BigFrame
section
/- Packages dfa, mini, munch. -/
namespace Go.Proofs.Ytemkppjdfjoipaa
set_option linter.unusedSimpArgs false
set_option linter.unusedVariables false
set_option maxRecDepth 100000
open Go.RowKit
/- rowsMay, may, Check. -/
set_option maxHeartbeats 4000000 in
theorem rowsMay_any {D : Nat → Prop} {w : World} {d : Df} {ds : Array Value} {p q : Option Addr} {c f : Nat} (hd : DC d ds p q c f) (hm : DM D w d p q c f) (hpos : 0 < d.nx.length) :
    Calls Try.prog 96 #[.agg ds] w fun e w' => e = .returned (.bool (rowsOk d)) ∧ Below w.heap.size w w' := by
  have S0 := Lib.hid ((Below.refl w.heap.size w).alloc (Nat.le_refl _) (.cells ds 61))
  have HB0 : Hid (BX (w.alloc (.cells ds 61)) w.heap.size ds) := Lib.hid (BX.new w ds)
  have c257 : (w.alloc (.cells ds 61)).cell? ⟨w.heap.size, 257, none⟩ = some (.slice p d.nx.length c) := ((BX.new w ds).cell 257).trans hd.nx
  have H257 := Lib.hid hd.nx
  obtain ⟨p', c', he, hh⟩ := hm.nx
  injection he with e1 e2 e3
  subst e1 e3
  obtain ⟨b, o, rfl, hb, hc⟩ := hh (by intro e; rw [e] at hpos; simp at hpos)
  obtain ⟨q0, f0, -, hc0⟩ := hc 0 hpos
  have e0 : d.nx[0] = row0 d := by
    unfold row0
    obtain ⟨st, cl, nx, rl⟩ := d
    cases nx with
    | nil => simp at hpos
    | cons r t => rfl
  rw [e0, Nat.add_zero] at hc0
  have HC0 := Lib.hid hc0
  have HC := Lib.hid hc
  have HLT := Lib.hid hm.lt
  have HDB := Lib.hid hb
  have HL3 := Lib.hid hm.l3
  have hl1 := hm.l1
  unfold rowsOk
  clear hd hm hh hc hc0 e0 e2 hpos
  generalize (row0 d).length = m at *
  generalize d.nx = ls at *
  obtain ⟨k, hk⟩ : ∃ k, ls.length = k := ⟨_, rfl⟩
  rw [hk] at H257 c257 hl1 ⊢
  have HK := Lib.hid hk
  clear hk
  go_enter Try.func96, Try.ntmps96
  go_wp2_with fail
  clear c257
  go_loopw [10] (fun i wr => ∃ j : Nat, i = .int .i64 (j : Nat) ∧ j ≤ k ∧ Hid ((ls.take j).all (rowOk k m) = true) ∧ Hid (BX wr w.heap.size ds) ∧ Hid (Below w.heap.size w wr)) (fun i _ => k - (intOf i).toNat)
  case atStart => exact ⟨0, rfl, by omega, Lib.hid (by simp), HB0, S0⟩
  case round =>
  clear S0 HB0
  obtain ⟨j, rfl, hj, HAL, HBX, HS⟩ := hrel
  by_cases hlt : j < k
  · have hlt2 : j < ls.length := by rw [HK.out]; exact hlt
    obtain ⟨qf, ff, hiv, hcj⟩ := HC.out j hlt2
    have cx : wr.cell? ⟨b, o + j, none⟩ = some (.slice qf ls[j].length ff) := (cell_same (HS.out.block b (HLT.out b HDB.out)) _).trans hcj
    have c0 : wr.cell? ⟨b, o, none⟩ = some (.slice q0 m f0) := (cell_same (HS.out.block b (HLT.out b HDB.out)) _).trans HC0.out
    have c257 : wr.cell? ⟨w.heap.size, 257, none⟩ = some (.slice (some ⟨b, o, none⟩) k c) := (HBX.out.cell 257).trans H257.out
    have hal := all_take (rowOk k m) ls j hlt2
    have HNO := Lib.hid fun h => all_no (p := rowOk k m) (l := ls) hlt2 h
    have hfl := HL3.out ls[j] (List.getElem_mem hlt2)
    rw [HAL.out, Bool.true_and] at hal
    have hro : rowOk k m ls[j] = (decide (ls[j].length = m) && ls[j].all fun x => decide (x < (k : Int))) := rfl
    clear hcj
    generalize hsx : rowOk k m ls[j] = rok at *
    clear hsx
    generalize ls[j] = r at *
    obtain ⟨rn, hrn⟩ : ∃ rn, r.length = rn := ⟨_, rfl⟩
    rw [hrn] at cx hiv hfl hro
    have HRN := Lib.hid hrn
    have HIV := Lib.hid hiv
    have HAL2 := Lib.hid hal
    have HRO := Lib.hid hro
    have hltI : (j : Int) < (k : Int) := by omega
    have hpI : (0 : Int) < (k : Int) := by omega
    have hjI : ¬ (j : Int) < 0 := by omega
    clear hiv hal hrn hro hlt2 HAL
    by_cases hrm : rn = m
    · subst hrm
      go_wp2_with fail
      clear c0 cx c257
      go_loopw [24] (fun i wr => ∃ x : Nat, i = .int .i64 (x : Nat) ∧ x ≤ rn ∧ Hid ((r.take x).all (fun x => decide (x < (k : Int))) = true) ∧ Hid (BX wr w.heap.size ds) ∧ Hid (Below w.heap.size w wr)) (fun i _ => rn - (intOf i).toNat)
      case atStart => exact ⟨0, rfl, by omega, Lib.hid (by simp), HBX, HS⟩
      case round =>
      clear HS HBX
      obtain ⟨x, rfl, hx, HAX, HBX, HS⟩ := hrel
      by_cases hxl : x < rn
      · have hxl2 : x < r.length := by rw [HRN.out]; exact hxl
        obtain ⟨p', c', he, hh⟩ := HIV.out
        injection he with e1 e2 e3
        subst e1 e3
        clear e2
        obtain ⟨bf, of, rfl, hbf, hcf⟩ := hh (by intro e; rw [e] at hxl2; simp at hxl2)
        have cy : wr.cell? ⟨bf, of + x, none⟩ = some (.int .i64 r[x]) := (cell_same (HS.out.block bf (HLT.out bf hbf)) _).trans (hcf x hxl2)
        have c257 : wr.cell? ⟨w.heap.size, 257, none⟩ = some (.slice (some ⟨b, o, none⟩) k c) := (HBX.out.cell 257).trans H257.out
        have hak := all_take (fun x => decide (x < (k : Int))) r x hxl2
        rw [HAX.out, Bool.true_and] at hak
        have hnok := fun h => all_no (p := fun x => decide (x < (k : Int))) (l := r) hxl2 h
        generalize r[x] = y at *
        have hkI : ¬ (x : Int) < 0 := by omega
        have hklI : (x : Int) < (rn : Int) := by omega
        clear hh hcf
        by_cases hy : y < (k : Int)
        · have hy1 : ¬ (k : Int) ≤ y := by omega
          have HAK : Hid ((r.take (x + 1)).all (fun x => decide (x < (k : Int))) = true) := Lib.hid (by rw [hak]; simp [hy])
          clear hak hnok
          go_wp2_with fail
          go_roundw
          case rel => exact ⟨x + 1, by go_num, by omega, HAK, HBX, HS⟩
          case measure => simp [intOf]; omega
        · have hy1 : (k : Int) ≤ y := by omega
          have HRES : Hid (ls.all (rowOk k rn) = false) := Lib.hid (HNO.out (by rw [HRO.out, hnok (by simp [hy1])]; simp))
          clear hak hnok
          go_wp2_with fail
          go_ret
          exact ⟨vbool HRES.out.symm, HS.out⟩
      · obtain rfl : x = rn := by omega
        have hall : r.all (fun x => decide (x < (k : Int))) = true := by
          have := HAX.out
          rwa [← HRN.out, List.take_length] at this
        have HAL3 : Hid ((ls.take (j + 1)).all (rowOk k x) = true) := Lib.hid (by rw [HAL2.out, HRO.out, hall]; simp)
        have hklI : ¬ (x : Int) < (x : Int) := by omega
        clear hall HAX HAL2 HNO HRO
        go_wp2_with fail
        go_roundw
        case rel => exact ⟨j + 1, by go_num, by omega, HAL3, HBX, HS⟩
        case measure => simp [intOf]; omega
    · have hrm' : ¬ (rn : Int) = (m : Int) := by omega
      have HRES : Hid (ls.all (rowOk k m) = false) := Lib.hid (HNO.out (by rw [HRO.out]; simp [hrm]))
      go_wp2_with fail
      go_ret
      exact ⟨vbool HRES.out.symm, HS.out⟩
  · obtain rfl : j = k := by omega
    have hall := HAL.out
    rw [← HK.out, List.take_length, HK.out] at hall
    have HRES := Lib.hid hall
    have hltI : ¬ (j : Int) < (j : Int) := by omega
    clear hall HAL
    go_wp2_with fail
    go_ret
    exact ⟨vbool HRES.out.symm, HS.out⟩
end Go.Proofs.Ytemkppjdfjoipaa
end
section
/- Packages dfa, mini, munch. -/
namespace Go.Proofs.Ytemkppjdfjoipaa
set_option linter.unusedSimpArgs false
set_option linter.unusedVariables false
set_option maxRecDepth 100000
open Go.RowKit
/- may, Check. -/
theorem info26 : (Try.prog.info? 61).map (·.size) = some 259 := by kernel_rfl
theorem wp_load_D {op : Oper} {a : Act} {w : World} {K : Act → World → Prop} {Q : Exit → Act → World → Prop} (x : Operand) (ho : op.op = .load 61 x) (b : Nat) (ds : Array Value) (hx : a.eval x = .pointer (some ⟨b, 0, none⟩)) (hc : BX w b ds) (hs : ds.size = 259)
    (h : K (a.put op.dst (.agg ds)) w) : op.wp Try.prog a w K Q :=
  wp_load_mid 61 x ho b 0 hx ds.toList _ (fun j v hj => by rw [Nat.zero_add, hc.cell]; simpa using hj) Try.underlying61 rfl (by rw [info26]; simp [hs]) (by simpa using h)
theorem wpList_load_Dg {ops : Array Oper} {rest : List Oper} {op : Oper} {a : Act} {w : World} {Q : Exit → Act → World → Prop} (x : Operand) (ho : op.op = .load 61 x) (b : Nat) (ds : Array Value) (hx : a.eval x = .pointer (some ⟨b, 0, none⟩)) (hc : BX w b ds) (hs : ds.size = 259)
    (hw : Region.wanted op (yielded ops a.tmps) = true) (h : wpList Try.prog ops Q rest (a.put op.dst (.agg ds)) w) : wpList Try.prog ops Q (op :: rest) a w :=
  BigFrame.wpList_want hw fun K hK => wp_load_D x ho b ds hx hc hs (hK _ _ h)
set_option maxHeartbeats 4000000 in
theorem may_any {D : Nat → Prop} {w : World} {d : Df} {ds : Array Value} {p q : Option Addr} {c f : Nat} (hd : DC d ds p q c f) (hm : DM D w d p q c f) :
    Calls Try.prog 87 #[.agg ds] w fun e w' => e = .returned (.bool (mayD d)) ∧ Below w.heap.size w w' := by
  have S0 := Lib.hid ((Below.refl w.heap.size w).alloc (Nat.le_refl _) (.cells ds 61))
  have c0 : (w.alloc (.cells ds 61)).cell? ⟨w.heap.size, 0, none⟩ = some (.int .i64 d.st) := ((BX.new w ds).cell 0).trans hd.st
  have c257 : (w.alloc (.cells ds 61)).cell? ⟨w.heap.size, 257, none⟩ = some (.slice p d.nx.length c) := ((BX.new w ds).cell 257).trans hd.nx
  have c258 : (w.alloc (.cells ds 61)).cell? ⟨w.heap.size, 258, none⟩ = some (.slice q d.rl.length f) := ((BX.new w ds).cell 258).trans hd.rl
  have HSZ := Lib.hid hd.sz
  have HI := Lib.hid fun z => isState_any (D := D) (w := z) hd d.st
  have HBX : Hid (BX (w.alloc (.cells ds 61)) w.heap.size ds) := Lib.hid (BX.new w ds)
  have HCM := Lib.hid fun z (hp : 0 < d.nx.length) (hb : Below w.heap.size w z) => classesMay_any (w := z) hd (hm.up hb) hp
  have HRM := Lib.hid fun z (hp : 0 < d.nx.length) (hb : Below w.heap.size w z) => rowsMay_any (w := z) hd (hm.up hb) hp
  have HLM := Lib.hid fun z (hb : Below w.heap.size w z) => rulesMay_any (w := z) hd (hm.up hb)
  have hst : stOk d = (decide (0 ≤ d.st) && decide (d.st < (d.nx.length : Int))) := rfl
  unfold mayD
  have HPOS : Hid (stOk d = true → 0 < d.nx.length) := Lib.hid fun h => by rw [hst] at h; simp at h; omega
  rw [← hst] at HI
  generalize stOk d = a1 at *
  generalize (decide ((row0 d).length ≤ 256) && clsOk d) = a2 at *
  generalize rowsOk d = a3 at *
  generalize rlsOk d = a4 at *
  generalize d.st = st at *
  generalize d.nx.length = n at *
  generalize d.rl.length = m at *
  clear hd hm hst
  go_enter Try.func87, Try.ntmps87
  by_cases hnm : n = m
  · subst hnm
    go_wp2_with (refine wpList_load_Dg _ rfl w.heap.size ds rfl HBX.out HSZ.out rfl ?_)
    refine (HI.out _).mono ?_
    rintro _ w1 ⟨rfl, hb1⟩
    have S1 := Lib.hid (S0.out.trans (hb1.mono S0.out.size))
    have HBX1 := Lib.hid (HBX.out.up hb1)
    clear hb1 c0 c257 c258 HI S0 HBX
    cases a1
    · go_wp2_with fail
      go_ret
      exact ⟨vbool (by simp), S1.out⟩
    · have hpos := Lib.hid (HPOS.out rfl)
      go_wp2_with (refine wpList_load_Dg _ rfl w.heap.size ds rfl HBX1.out HSZ.out rfl ?_)
      refine (HCM.out _ hpos.out S1.out).mono ?_
      rintro _ w2 ⟨rfl, hb2⟩
      have S2 := Lib.hid (S1.out.trans (hb2.mono S1.out.size))
      have HBX2 := Lib.hid (HBX1.out.up hb2)
      clear hb2 HCM S1 HBX1
      cases a2
      · go_wp2_with fail
        go_ret
        exact ⟨vbool (by simp), S2.out⟩
      · go_wp2_with (refine wpList_load_Dg _ rfl w.heap.size ds rfl HBX2.out HSZ.out rfl ?_)
        refine (HRM.out _ hpos.out S2.out).mono ?_
        rintro _ w3 ⟨rfl, hb3⟩
        have S3 := Lib.hid (S2.out.trans (hb3.mono S2.out.size))
        have HBX3 := Lib.hid (HBX2.out.up hb3)
        clear hb3 HRM S2 HBX2
        cases a3
        · go_wp2_with fail
          go_ret
          exact ⟨vbool (by simp), S3.out⟩
        · go_wp2_with (refine wpList_load_Dg _ rfl w.heap.size ds rfl HBX3.out HSZ.out rfl ?_)
          refine (HLM.out _ S3.out).mono ?_
          rintro _ w4 ⟨rfl, hb4⟩
          have S4 := Lib.hid (S3.out.trans (hb4.mono S3.out.size))
          clear hb4 HLM S3 HBX3
          go_wp2_with fail
          go_ret
          exact ⟨vbool (by simp), S4.out⟩
  · have hnm' : ¬ (n : Int) = (m : Int) := by omega
    go_wp2_with fail
    go_ret
    exact ⟨vbool (by simp [hnm]), S0.out⟩
set_option maxHeartbeats 4000000 in
theorem check_any {D : Nat → Prop} {w : World} {d : Df} {ds : Array Value} {p q : Option Addr} {c f : Nat} (hd : DC d ds p q c f) (hm : DM D w d p q c f) :
    Calls Try.prog 73 #[.agg ds] w fun e w' => e = .returned (.int .i64 (chkD d)) ∧ Below w.heap.size w w' := by
  have S0 := Lib.hid ((Below.refl w.heap.size w).alloc (Nat.le_refl _) (.cells ds 61))
  have c257 : (w.alloc (.cells ds 61)).cell? ⟨w.heap.size, 257, none⟩ = some (.slice p d.nx.length c) := ((BX.new w ds).cell 257).trans hd.nx
  have c258 : (w.alloc (.cells ds 61)).cell? ⟨w.heap.size, 258, none⟩ = some (.slice q d.rl.length f) := ((BX.new w ds).cell 258).trans hd.rl
  have HSZ := Lib.hid hd.sz
  have HM := Lib.hid (may_any hd (hm.up S0.out))
  have HBX : Hid (BX (w.alloc (.cells ds 61)) w.heap.size ds) := Lib.hid (BX.new w ds)
  have ht : tooD d = (decide (2048 < d.nx.length) || decide (2048 < d.rl.length)) := rfl
  have hc : chkD d = if tooD d = true then 3 else if mayD d = true then 0 else 2 := rfl
  rw [hc, ht]
  generalize mayD d = a at *
  generalize d.nx.length = n at *
  generalize d.rl.length = m at *
  obtain ⟨k, hk⟩ : ∃ k : Int, (if (decide (2048 < n) || decide (2048 < m)) = true then 3 else if a = true then 0 else 2) = k := ⟨_, rfl⟩
  rw [hk]
  have HK := Lib.hid hk
  clear hd hm ht hc hk
  go_enter Try.func73, Try.ntmps73
  by_cases h1 : 2048 < n
  · have h1' : (2048 : Int) < (n : Int) := by omega
    go_wp2_with fail
    go_ret
    exact ⟨by rw [← HK.out]; simp [h1], S0.out⟩
  · have h1' : ¬ (2048 : Int) < (n : Int) := by omega
    by_cases h2 : 2048 < m
    · have h2' : (2048 : Int) < (m : Int) := by omega
      go_wp2_with fail
      go_ret
      exact ⟨by rw [← HK.out]; simp [h2], S0.out⟩
    · have h2' : ¬ (2048 : Int) < (m : Int) := by omega
      go_wp2_with (refine wpList_load_Dg _ rfl w.heap.size ds rfl HBX.out HSZ.out rfl ?_)
      refine HM.out.mono ?_
      rintro _ w1 ⟨rfl, hb1⟩
      have S1 := Lib.hid (S0.out.trans (hb1.mono S0.out.size))
      clear hb1 c257 c258 S0 HBX
      cases a
      · go_wp2_with fail
        go_ret
        exact ⟨by rw [← HK.out]; simp [h1, h2], S1.out⟩
      · go_wp2_with fail
        go_ret
        exact ⟨by rw [← HK.out]; simp [h1, h2], S1.out⟩
end Go.Proofs.Ytemkppjdfjoipaa
end
section
/- Packages dfa, mini, munch. -/
namespace Go.Proofs.Ytemkppjdfjoipaa
set_option linter.unusedSimpArgs false
set_option linter.unusedVariables false
set_option maxRecDepth 100000
open Go.RowKit
/- DfaBig. -/
end Go.Proofs.Ytemkppjdfjoipaa
end
