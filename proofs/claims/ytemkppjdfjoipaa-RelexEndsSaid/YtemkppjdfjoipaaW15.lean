/- Texts of package regs, one behind the other. -/
import Derived.Test.YtemkppjdfjoipaaProg
import Derived.Test.YtemkppjdfjoipaaW14
import Derived.WalkKit
import Derived.BigFrame
import Derived.WalkLawsBesides
import Derived.WalkSpells
import Derived.Outline
import Derived.Lib.Walk
import Derived.Lib.Hide
import Derived.Lib.Slices
import Derived.Lib.Strings
import Derived.RegionTactic
import Derived.LoopTactic
import Derived.Below
import Derived.IntWalk
import Derived.Deep.QuietTactic
import Derived.BigQuiet
import Derived.Deep.MidRow
import Derived.Maps.AppendAt
import Derived.Laws.Rows
import Derived.Laws.Tables
import Derived.Deep.WholeRow
import Derived.Deep.Cut
import Derived.Deep.CutRange
import Derived.Lib.SliceRun
import Derived.Laws.MakeOwn
import Derived.Deep.RegionLaw
import Derived.Deep.RegionLawGrows
import Derived.Deep.RegionHeld3
import Derived.RegionCalls
import Derived.Deep.RegionWith
import Derived.Deep.Light
import Derived.Laws.CopyOwn
import Derived.Laws.ResultCell
section
/- Packages dfa, mini, munch. -/
namespace Go.Proofs.Ytemkppjdfjoipaa
set_option linter.unusedSimpArgs false
set_option linter.unusedVariables false
set_option maxRecDepth 100000
open Go.RowKit
/- may, Check. -/
theorem info26 : (Try.prog.info? 61).map (·.size) = some 259 := by kernel_rfl
theorem wp_load_D {op : Oper} {a : Act} {w : World} {K : Act → World → Prop} {Q : Exit → Act → World → Prop} (x : Operand) (ho : op.op = .load 61 x) (b : Nat) (ds : Array Value) (hx : a.eval x = .pointer (some ⟨b, 0, none⟩)) (hc : BX w b ds) (hs : ds.size = 259)
    (h : K (a.put op.dst (.agg ds)) w) : op.wp Try.prog a w K Q :=
  wp_load_mid 61 x ho b 0 hx ds.toList _ (fun j v hj => by rw [Nat.zero_add, hc.cell]; simpa using hj) Try.underlying61 rfl (by rw [info26]; simp [hs]) (by simpa using h)
theorem wpList_load_Dg {ops : Array Oper} {rest : List Oper} {op : Oper} {a : Act} {w : World} {Q : Exit → Act → World → Prop} (x : Operand) (ho : op.op = .load 61 x) (b : Nat) (ds : Array Value) (hx : a.eval x = .pointer (some ⟨b, 0, none⟩)) (hc : BX w b ds) (hs : ds.size = 259)
    (hw : Region.wanted op (yielded ops a.tmps) = true) (h : wpList Try.prog ops Q rest (a.put op.dst (.agg ds)) w) : wpList Try.prog ops Q (op :: rest) a w :=
  BigFrame.wpList_want hw fun K hK => wp_load_D x ho b ds hx hc hs (hK _ _ h)
set_option maxHeartbeats 4000000 in
theorem may_any {D : Nat → Prop} {w : World} {d : Df} {ds : Array Value} {p q : Option Addr} {c f : Nat} (hd : DC d ds p q c f) (hm : DM D w d p q c f) :
    Calls Try.prog 87 #[.agg ds] w fun e w' => e = .returned (.bool (mayD d)) ∧ Below w.heap.size w w' := by
  have S0 := Lib.hid ((Below.refl w.heap.size w).alloc (Nat.le_refl _) (.cells ds 61))
  have c0 : (w.alloc (.cells ds 61)).cell? ⟨w.heap.size, 0, none⟩ = some (.int .i64 d.st) := ((BX.new w ds).cell 0).trans hd.st
  have c257 : (w.alloc (.cells ds 61)).cell? ⟨w.heap.size, 257, none⟩ = some (.slice p d.nx.length c) := ((BX.new w ds).cell 257).trans hd.nx
  have c258 : (w.alloc (.cells ds 61)).cell? ⟨w.heap.size, 258, none⟩ = some (.slice q d.rl.length f) := ((BX.new w ds).cell 258).trans hd.rl
  have HSZ := Lib.hid hd.sz
  have HI := Lib.hid fun z => isState_any (D := D) (w := z) hd d.st
  have HBX : Hid (BX (w.alloc (.cells ds 61)) w.heap.size ds) := Lib.hid (BX.new w ds)
  have HCM := Lib.hid fun z (hp : 0 < d.nx.length) (hb : Below w.heap.size w z) => classesMay_any (w := z) hd (hm.up hb) hp
  have HRM := Lib.hid fun z (hp : 0 < d.nx.length) (hb : Below w.heap.size w z) => rowsMay_any (w := z) hd (hm.up hb) hp
  have HLM := Lib.hid fun z (hb : Below w.heap.size w z) => rulesMay_any (w := z) hd (hm.up hb)
  have hst : stOk d = (decide (0 ≤ d.st) && decide (d.st < (d.nx.length : Int))) := rfl
  unfold mayD
  have HPOS : Hid (stOk d = true → 0 < d.nx.length) := Lib.hid fun h => by rw [hst] at h; simp at h; omega
  rw [← hst] at HI
  generalize stOk d = a1 at *
  generalize (decide ((row0 d).length ≤ 256) && clsOk d) = a2 at *
  generalize rowsOk d = a3 at *
  generalize rlsOk d = a4 at *
  generalize d.st = st at *
  generalize d.nx.length = n at *
  generalize d.rl.length = m at *
  clear hd hm hst
  go_enter Try.func87, Try.ntmps87
  by_cases hnm : n = m
  · subst hnm
    go_wp2_with (refine wpList_load_Dg _ rfl w.heap.size ds rfl HBX.out HSZ.out rfl ?_)
    refine (HI.out _).mono ?_
    rintro _ w1 ⟨rfl, hb1⟩
    have S1 := Lib.hid (S0.out.trans (hb1.mono S0.out.size))
    have HBX1 := Lib.hid (HBX.out.up hb1)
    clear hb1 c0 c257 c258 HI S0 HBX
    cases a1
    · go_wp2_with fail
      go_ret
      exact ⟨vbool (by simp), S1.out⟩
    · have hpos := Lib.hid (HPOS.out rfl)
      go_wp2_with (refine wpList_load_Dg _ rfl w.heap.size ds rfl HBX1.out HSZ.out rfl ?_)
      refine (HCM.out _ hpos.out S1.out).mono ?_
      rintro _ w2 ⟨rfl, hb2⟩
      have S2 := Lib.hid (S1.out.trans (hb2.mono S1.out.size))
      have HBX2 := Lib.hid (HBX1.out.up hb2)
      clear hb2 HCM S1 HBX1
      cases a2
      · go_wp2_with fail
        go_ret
        exact ⟨vbool (by simp), S2.out⟩
      · go_wp2_with (refine wpList_load_Dg _ rfl w.heap.size ds rfl HBX2.out HSZ.out rfl ?_)
        refine (HRM.out _ hpos.out S2.out).mono ?_
        rintro _ w3 ⟨rfl, hb3⟩
        have S3 := Lib.hid (S2.out.trans (hb3.mono S2.out.size))
        have HBX3 := Lib.hid (HBX2.out.up hb3)
        clear hb3 HRM S2 HBX2
        cases a3
        · go_wp2_with fail
          go_ret
          exact ⟨vbool (by simp), S3.out⟩
        · go_wp2_with (refine wpList_load_Dg _ rfl w.heap.size ds rfl HBX3.out HSZ.out rfl ?_)
          refine (HLM.out _ S3.out).mono ?_
          rintro _ w4 ⟨rfl, hb4⟩
          have S4 := Lib.hid (S3.out.trans (hb4.mono S3.out.size))
          clear hb4 HLM S3 HBX3
          go_wp2_with fail
          go_ret
          exact ⟨vbool (by simp), S4.out⟩
  · have hnm' : ¬ (n : Int) = (m : Int) := by omega
    go_wp2_with fail
    go_ret
    exact ⟨vbool (by simp [hnm]), S0.out⟩
set_option maxHeartbeats 4000000 in
theorem check_any {D : Nat → Prop} {w : World} {d : Df} {ds : Array Value} {p q : Option Addr} {c f : Nat} (hd : DC d ds p q c f) (hm : DM D w d p q c f) :
    Calls Try.prog 73 #[.agg ds] w fun e w' => e = .returned (.int .i64 (chkD d)) ∧ Below w.heap.size w w' := by
  have S0 := Lib.hid ((Below.refl w.heap.size w).alloc (Nat.le_refl _) (.cells ds 61))
  have c257 : (w.alloc (.cells ds 61)).cell? ⟨w.heap.size, 257, none⟩ = some (.slice p d.nx.length c) := ((BX.new w ds).cell 257).trans hd.nx
  have c258 : (w.alloc (.cells ds 61)).cell? ⟨w.heap.size, 258, none⟩ = some (.slice q d.rl.length f) := ((BX.new w ds).cell 258).trans hd.rl
  have HSZ := Lib.hid hd.sz
  have HM := Lib.hid (may_any hd (hm.up S0.out))
  have HBX : Hid (BX (w.alloc (.cells ds 61)) w.heap.size ds) := Lib.hid (BX.new w ds)
  have ht : tooD d = (decide (2048 < d.nx.length) || decide (2048 < d.rl.length)) := rfl
  have hc : chkD d = if tooD d = true then 3 else if mayD d = true then 0 else 2 := rfl
  rw [hc, ht]
  generalize mayD d = a at *
  generalize d.nx.length = n at *
  generalize d.rl.length = m at *
  obtain ⟨k, hk⟩ : ∃ k : Int, (if (decide (2048 < n) || decide (2048 < m)) = true then 3 else if a = true then 0 else 2) = k := ⟨_, rfl⟩
  rw [hk]
  have HK := Lib.hid hk
  clear hd hm ht hc hk
  go_enter Try.func73, Try.ntmps73
  by_cases h1 : 2048 < n
  · have h1' : (2048 : Int) < (n : Int) := by omega
    go_wp2_with fail
    go_ret
    exact ⟨by rw [← HK.out]; simp [h1], S0.out⟩
  · have h1' : ¬ (2048 : Int) < (n : Int) := by omega
    by_cases h2 : 2048 < m
    · have h2' : (2048 : Int) < (m : Int) := by omega
      go_wp2_with fail
      go_ret
      exact ⟨by rw [← HK.out]; simp [h2], S0.out⟩
    · have h2' : ¬ (2048 : Int) < (m : Int) := by omega
      go_wp2_with (refine wpList_load_Dg _ rfl w.heap.size ds rfl HBX.out HSZ.out rfl ?_)
      refine HM.out.mono ?_
      rintro _ w1 ⟨rfl, hb1⟩
      have S1 := Lib.hid (S0.out.trans (hb1.mono S0.out.size))
      clear hb1 c257 c258 S0 HBX
      cases a
      · go_wp2_with fail
        go_ret
        exact ⟨by rw [← HK.out]; simp [h1, h2], S1.out⟩
      · go_wp2_with fail
        go_ret
        exact ⟨by rw [← HK.out]; simp [h1, h2], S1.out⟩
end Go.Proofs.Ytemkppjdfjoipaa
end
section
/- Packages dfa, mini, munch. -/
namespace Go.Proofs.Ytemkppjdfjoipaa
set_option linter.unusedSimpArgs false
set_option linter.unusedVariables false
set_option maxRecDepth 100000
open Go.RowKit
/- DfaBig. -/
theorem vint {a b : Int} (h : a = b) : Value.int .i64 a = .int .i64 b := by rw [h]
def bigF (m : Nat) : Nat → List (List Int) → Nat
  | k, [] => k
  | k, r :: rs => if k ≤ m then bigF m (k + min r.length (m + 1)) rs else k
def bigD (m : Nat) (d : Df) : Bool := decide (m < bigF m (min d.nx.length (m + 1) + min d.rl.length (m + 1)) d.nx)
def sumL : List (List Int) → Nat
  | [] => 0
  | r :: rs => r.length + sumL rs
theorem bigF_no (m : Nat) : ∀ (rs : List (List Int)) (k : Nat), bigF m k rs ≤ m → k + sumL rs ≤ m
  | [], k, h => by rw [bigF] at h; simpa [sumL] using h
  | r :: rs, k, h => by
    rw [bigF] at h
    by_cases hk : k ≤ m
    · rw [if_pos hk] at h
      have h1 := bigF_no m rs _ h
      rw [sumL]
      have : min r.length (m + 1) = r.length := by
        have : k + min r.length (m + 1) ≤ m := by omega
        omega
      omega
    · rw [if_neg hk] at h; omega
theorem bigD_no {m : Nat} {d : Df} (h : bigD m d = false) : d.nx.length + d.rl.length + sumL d.nx ≤ m := by
  unfold bigD at h
  rw [decide_eq_false_iff_not, Nat.not_lt] at h
  have h1 := bigF_no m _ _ h
  omega
theorem bigF_done {m k : Nat} {rs : List (List Int)} (h : m < k) : bigF m k rs = k := by
  cases rs with
  | nil => rfl
  | cons r rs => rw [bigF, if_neg (by omega)]
set_option maxHeartbeats 4000000 in
theorem big_any {D : Nat → Prop} {w : World} {d : Df} {ds : Array Value} {p q : Option Addr} {c f : Nat} (m : Nat) (hm9 : m ≤ 10000000) (hd : DC d ds p q c f) (hm : DM D w d p q c f) :
    Calls Try.prog 44 #[.agg ds, .int .i64 (m : Nat)] w fun e w' => e = .returned (.bool (bigD m d)) ∧ Below w.heap.size w w' := by
  have S0 := Lib.hid ((Below.refl w.heap.size w).alloc (Nat.le_refl _) (.cells ds 61))
  have HB0 : Hid (BX (w.alloc (.cells ds 61)) w.heap.size ds) := Lib.hid (BX.new w ds)
  have c257 : (w.alloc (.cells ds 61)).cell? ⟨w.heap.size, 257, none⟩ = some (.slice p d.nx.length c) := ((BX.new w ds).cell 257).trans hd.nx
  have c258 : (w.alloc (.cells ds 61)).cell? ⟨w.heap.size, 258, none⟩ = some (.slice q d.rl.length f) := ((BX.new w ds).cell 258).trans hd.rl
  have H257 := Lib.hid hd.nx
  have HNV := Lib.hid hm.nx
  have HLT := Lib.hid hm.lt
  have HL3 := Lib.hid hm.l3
  have hl1 := hm.l1
  have hl2 := hm.l2
  obtain ⟨B, hB⟩ : ∃ B, bigF m (min d.nx.length (m + 1) + min d.rl.length (m + 1)) d.nx = B := ⟨_, rfl⟩
  have hres : bigD m d = decide (m < B) := by unfold bigD; rw [hB]
  rw [hres]
  generalize d.nx = ls at *
  obtain ⟨k, hk⟩ : ∃ k, ls.length = k := ⟨_, rfl⟩
  rw [hk] at H257 c257 hl1 hB
  generalize d.rl.length = n2 at *
  have HK := Lib.hid hk
  have HBB := Lib.hid hB
  clear hk hd hm hres hB
  go_enter Try.func44, Try.ntmps44
  go_wp2_with fail
  clear c257 c258
  go_loopw [5, 6] (fun a i wr => ∃ j x : Nat, i = .int .i64 (j : Nat) ∧ a = .int .i64 (x : Nat) ∧ j ≤ k ∧ Hid (bigF m x (ls.drop j) = B) ∧ x ≤ 3 * m + 3 ∧ Hid (BX wr w.heap.size ds) ∧ Hid (Below w.heap.size w wr)) (fun _ i _ => k - (intOf i).toNat)
  case atStart => exact ⟨0, min k (m + 1) + min n2 (m + 1), rfl, vint (by omega), by omega, Lib.hid (by rw [List.drop_zero]; exact HBB.out), by omega, HB0, S0⟩
  case round =>
  clear S0 HB0 HBB
  obtain ⟨j, x, rfl, rfl, hj, HF, hx, HBX, HS⟩ := hrel
  have c257 : wr.cell? ⟨w.heap.size, 257, none⟩ = some (.slice p k c) := (HBX.out.cell 257).trans H257.out
  by_cases hgo : j < k ∧ x ≤ m
  · obtain ⟨hlt, hxm⟩ := hgo
    have hlt2 : j < ls.length := by rw [HK.out]; exact hlt
    obtain ⟨p', c', he, hh⟩ := HNV.out
    injection he with e1 e2 e3
    subst e1 e3
    clear e2
    obtain ⟨b, o, rfl, hb, hc⟩ := hh (by intro e; rw [e] at hlt2; simp at hlt2)
    obtain ⟨qf, ff, hiv, hcj⟩ := hc j hlt2
    have cx : wr.cell? ⟨b, o + j, none⟩ = some (.slice qf ls[j].length ff) := (cell_same (HS.out.block b (HLT.out b hb)) _).trans hcj
    have hfl := HL3.out ls[j] (List.getElem_mem hlt2)
    have hf := HF.out
    rw [List.drop_eq_getElem_cons hlt2, bigF, if_pos hxm] at hf
    generalize ls[j].length = rn at *
    have HF2 := Lib.hid hf
    have hltI : (j : Int) < (k : Int) := by omega
    have hjI : ¬ (j : Int) < 0 := by omega
    have hxI : (x : Int) ≤ (m : Int) := by omega
    clear hh hc hcj hf HF hiv
    go_wp2_with fail
    go_roundw
    case rel => exact ⟨j + 1, x + min rn (m + 1), by go_num, vint (by omega), by omega, HF2, by omega, HBX, HS⟩
    case measure => simp [intOf]; omega
  · have hr : B = x := by
      rw [← HF.out]
      by_cases hlt : j < k
      · exact bigF_done (by have : ¬ x ≤ m := fun h => hgo ⟨hlt, h⟩
                            omega)
      · rw [List.drop_eq_nil_of_le (by rw [HK.out]; omega)]; rfl
    have HRES := Lib.hid hr
    clear hr HF
    by_cases hlt : j < k
    · have hxm : m < x := by
        by_cases h : x ≤ m
        · exact absurd ⟨hlt, h⟩ hgo
        · omega
      have hltI : (j : Int) < (k : Int) := by omega
      have hxI : ¬ (x : Int) ≤ (m : Int) := by omega
      have hxI2 : (m : Int) < (x : Int) := by omega
      clear hgo
      go_wp2_with fail
      go_ret
      exact ⟨vbool (by rw [HRES.out]; simp [hxm]), HS.out⟩
    · have hltI : ¬ (j : Int) < (k : Int) := by omega
      clear hgo
      by_cases hxm : m < x
      · have hxI2 : (m : Int) < (x : Int) := by omega
        go_wp2_with fail
        go_ret
        exact ⟨vbool (by rw [HRES.out]; simp [hxm]), HS.out⟩
      · have hxI2 : ¬ (m : Int) < (x : Int) := by omega
        go_wp2_with fail
        go_ret
        exact ⟨vbool (by rw [HRES.out]; simp; omega), HS.out⟩
end Go.Proofs.Ytemkppjdfjoipaa
end
