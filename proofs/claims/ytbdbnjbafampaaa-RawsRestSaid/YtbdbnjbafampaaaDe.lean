/- Packages dfa, mini, munch. -/
import Derived.Test.YtbdbnjbafampaaaProg
import Derived.Test.YtbdbnjbafampaaaDd
import Derived.WalkKit
import Derived.WalkLawsBesides
import Derived.WalkSpells
import Derived.Outline
import Derived.Lib.Walk
import Derived.Lib.Hide
import Derived.Lib.Slices
import Derived.Lib.Strings
import Derived.RegionTactic
import Derived.LoopTactic
import Derived.Below
import Derived.IntWalk
import Derived.Deep.QuietTactic
import Derived.BigQuiet
import Derived.Deep.MidRow
import Derived.Maps.AppendAt
import Derived.Laws.Rows
import Derived.Laws.Tables
import Derived.Deep.WholeRow
import Derived.Deep.Cut
import Derived.Deep.CutRange
import Derived.Lib.SliceRun
import Derived.Laws.MakeOwn
import Derived.Deep.RegionLaw
import Derived.Deep.RegionLawGrows
import Derived.Deep.RegionHeld3
import Derived.RegionCalls
import Derived.Deep.RegionWith
import Derived.Deep.Light
import Derived.Laws.CopyOwn
import Derived.Laws.ResultCell
namespace Go.Proofs.Ytbdbnjbafampaaa
set_option linter.unusedSimpArgs false
set_option linter.unusedVariables false
set_option maxRecDepth 100000
open Go.RowKit
/- rowsMay, may, Check. -/
set_option maxHeartbeats 4000000 in
theorem rowsMay_any {D : Nat → Prop} {w : World} {d : Df} {ds : Array Value} {p q : Option Addr} {c f : Nat} (hd : DC d ds p q c f) (hm : DM D w d p q c f) (hpos : 0 < d.nx.length) :
    Calls Try.prog 83 #[.agg ds] w fun e w' => e = .returned (.bool (rowsOk d)) ∧ Below w.heap.size w w' := by
  have S0 := Lib.hid ((Below.refl w.heap.size w).alloc (Nat.le_refl _) (.cells ds 26))
  have HB0 : Hid (BX (w.alloc (.cells ds 26)) w.heap.size ds) := Lib.hid (BX.new w ds)
  have c257 : (w.alloc (.cells ds 26)).cell? ⟨w.heap.size, 257, none⟩ = some (.slice p d.nx.length c) := ((BX.new w ds).cell 257).trans hd.nx
  have H257 := Lib.hid hd.nx
  obtain ⟨p', c', he, hh⟩ := hm.nx
  injection he with e1 e2 e3
  subst e1 e3
  obtain ⟨b, o, rfl, hb, hc⟩ := hh (by intro e; rw [e] at hpos; simp at hpos)
  obtain ⟨q0, f0, -, hc0⟩ := hc 0 hpos
  have e0 : d.nx[0] = row0 d := by
    unfold row0
    obtain ⟨st, cl, nx, rl⟩ := d
    cases nx with
    | nil => simp at hpos
    | cons r t => rfl
  rw [e0, Nat.add_zero] at hc0
  have HC0 := Lib.hid hc0
  have HC := Lib.hid hc
  have HLT := Lib.hid hm.lt
  have HDB := Lib.hid hb
  have HL3 := Lib.hid hm.l3
  have hl1 := hm.l1
  unfold rowsOk
  clear hd hm hh hc hc0 e0 e2 hpos
  generalize (row0 d).length = m at *
  generalize d.nx = ls at *
  obtain ⟨k, hk⟩ : ∃ k, ls.length = k := ⟨_, rfl⟩
  rw [hk] at H257 c257 hl1 ⊢
  have HK := Lib.hid hk
  clear hk
  go_enter Try.func83, Try.ntmps83
  go_wp2_with fail
  clear c257
  go_loopw [10] (fun i wr => ∃ j : Nat, i = .int .i64 (j : Nat) ∧ j ≤ k ∧ Hid ((ls.take j).all (rowOk k m) = true) ∧ Hid (BX wr w.heap.size ds) ∧ Hid (Below w.heap.size w wr)) (fun i _ => k - (intOf i).toNat)
  case atStart => exact ⟨0, rfl, by omega, Lib.hid (by simp), HB0, S0⟩
  case round =>
  clear S0 HB0
  obtain ⟨j, rfl, hj, HAL, HBX, HS⟩ := hrel
  by_cases hlt : j < k
  · have hlt2 : j < ls.length := by rw [HK.out]; exact hlt
    obtain ⟨qf, ff, hiv, hcj⟩ := HC.out j hlt2
    have cx : wr.cell? ⟨b, o + j, none⟩ = some (.slice qf ls[j].length ff) := (cell_same (HS.out.block b (HLT.out b HDB.out)) _).trans hcj
    have c0 : wr.cell? ⟨b, o, none⟩ = some (.slice q0 m f0) := (cell_same (HS.out.block b (HLT.out b HDB.out)) _).trans HC0.out
    have c257 : wr.cell? ⟨w.heap.size, 257, none⟩ = some (.slice (some ⟨b, o, none⟩) k c) := (HBX.out.cell 257).trans H257.out
    have hal := all_take (rowOk k m) ls j hlt2
    have HNO := Lib.hid fun h => all_no (p := rowOk k m) (l := ls) hlt2 h
    have hfl := HL3.out ls[j] (List.getElem_mem hlt2)
    rw [HAL.out, Bool.true_and] at hal
    have hro : rowOk k m ls[j] = (decide (ls[j].length = m) && ls[j].all fun x => decide (x < (k : Int))) := rfl
    clear hcj
    generalize hsx : rowOk k m ls[j] = rok at *
    clear hsx
    generalize ls[j] = r at *
    obtain ⟨rn, hrn⟩ : ∃ rn, r.length = rn := ⟨_, rfl⟩
    rw [hrn] at cx hiv hfl hro
    have HRN := Lib.hid hrn
    have HIV := Lib.hid hiv
    have HAL2 := Lib.hid hal
    have HRO := Lib.hid hro
    have hltI : (j : Int) < (k : Int) := by omega
    have hpI : (0 : Int) < (k : Int) := by omega
    have hjI : ¬ (j : Int) < 0 := by omega
    clear hiv hal hrn hro hlt2 HAL
    by_cases hrm : rn = m
    · subst hrm
      go_wp2_with fail
      clear c0 cx c257
      go_loopw [24] (fun i wr => ∃ x : Nat, i = .int .i64 (x : Nat) ∧ x ≤ rn ∧ Hid ((r.take x).all (fun x => decide (x < (k : Int))) = true) ∧ Hid (BX wr w.heap.size ds) ∧ Hid (Below w.heap.size w wr)) (fun i _ => rn - (intOf i).toNat)
      case atStart => exact ⟨0, rfl, by omega, Lib.hid (by simp), HBX, HS⟩
      case round =>
      clear HS HBX
      obtain ⟨x, rfl, hx, HAX, HBX, HS⟩ := hrel
      by_cases hxl : x < rn
      · have hxl2 : x < r.length := by rw [HRN.out]; exact hxl
        obtain ⟨p', c', he, hh⟩ := HIV.out
        injection he with e1 e2 e3
        subst e1 e3
        clear e2
        obtain ⟨bf, of, rfl, hbf, hcf⟩ := hh (by intro e; rw [e] at hxl2; simp at hxl2)
        have cy : wr.cell? ⟨bf, of + x, none⟩ = some (.int .i64 r[x]) := (cell_same (HS.out.block bf (HLT.out bf hbf)) _).trans (hcf x hxl2)
        have c257 : wr.cell? ⟨w.heap.size, 257, none⟩ = some (.slice (some ⟨b, o, none⟩) k c) := (HBX.out.cell 257).trans H257.out
        have hak := all_take (fun x => decide (x < (k : Int))) r x hxl2
        rw [HAX.out, Bool.true_and] at hak
        have hnok := fun h => all_no (p := fun x => decide (x < (k : Int))) (l := r) hxl2 h
        generalize r[x] = y at *
        have hkI : ¬ (x : Int) < 0 := by omega
        have hklI : (x : Int) < (rn : Int) := by omega
        clear hh hcf
        by_cases hy : y < (k : Int)
        · have hy1 : ¬ (k : Int) ≤ y := by omega
          have HAK : Hid ((r.take (x + 1)).all (fun x => decide (x < (k : Int))) = true) := Lib.hid (by rw [hak]; simp [hy])
          clear hak hnok
          go_wp2_with fail
          go_roundw
          case rel => exact ⟨x + 1, by go_num, by omega, HAK, HBX, HS⟩
          case measure => simp [intOf]; omega
        · have hy1 : (k : Int) ≤ y := by omega
          have HRES : Hid (ls.all (rowOk k rn) = false) := Lib.hid (HNO.out (by rw [HRO.out, hnok (by simp [hy1])]; simp))
          clear hak hnok
          go_wp2_with fail
          go_ret
          exact ⟨vbool HRES.out.symm, HS.out⟩
      · obtain rfl : x = rn := by omega
        have hall : r.all (fun x => decide (x < (k : Int))) = true := by
          have := HAX.out
          rwa [← HRN.out, List.take_length] at this
        have HAL3 : Hid ((ls.take (j + 1)).all (rowOk k x) = true) := Lib.hid (by rw [HAL2.out, HRO.out, hall]; simp)
        have hklI : ¬ (x : Int) < (x : Int) := by omega
        clear hall HAX HAL2 HNO HRO
        go_wp2_with fail
        go_roundw
        case rel => exact ⟨j + 1, by go_num, by omega, HAL3, HBX, HS⟩
        case measure => simp [intOf]; omega
    · have hrm' : ¬ (rn : Int) = (m : Int) := by omega
      have HRES : Hid (ls.all (rowOk k m) = false) := Lib.hid (HNO.out (by rw [HRO.out]; simp [hrm]))
      go_wp2_with fail
      go_ret
      exact ⟨vbool HRES.out.symm, HS.out⟩
  · obtain rfl : j = k := by omega
    have hall := HAL.out
    rw [← HK.out, List.take_length, HK.out] at hall
    have HRES := Lib.hid hall
    have hltI : ¬ (j : Int) < (j : Int) := by omega
    clear hall HAL
    go_wp2_with fail
    go_ret
    exact ⟨vbool HRES.out.symm, HS.out⟩
end Go.Proofs.Ytbdbnjbafampaaa
