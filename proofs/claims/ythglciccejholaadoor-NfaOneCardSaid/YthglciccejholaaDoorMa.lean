/- Package nfa. -/
import Derived.Test.YthglciccejholaaDoorProg
import Derived.Test.YthglciccejholaaDoorLf
import Derived.WalkKit
import Derived.WalkLawsBesides
import Derived.WalkSpells
import Derived.Outline
import Derived.Lib.Walk
import Derived.Lib.Hide
import Derived.Lib.Slices
import Derived.Lib.Strings
import Derived.RegionTactic
import Derived.LoopTactic
import Derived.Below
import Derived.IntWalk
import Derived.Deep.QuietTactic
import Derived.BigQuiet
import Derived.Deep.MidRow
import Derived.Maps.AppendAt
import Derived.Laws.Rows
import Derived.Laws.Tables
import Derived.Deep.WholeRow
import Derived.Deep.Cut
import Derived.Deep.CutRange
import Derived.Lib.SliceRun
import Derived.Laws.MakeOwn
import Derived.Deep.RegionLaw
import Derived.Deep.RegionLawGrows
import Derived.Deep.RegionHeld3
import Derived.RegionCalls
import Derived.Deep.RegionWith
import Derived.Deep.Light
namespace Go.Proofs.YthglciccejholaaDoor
set_option linter.unusedSimpArgs false
set_option linter.unusedVariables false
set_option maxRecDepth 100000
open Go.RowKit
/- matchesSome of any pattern. -/
mutual
def msF : RT → Bool
  | .mk k u ps => if k = 0 then false else if k = 2 then !zeroU u else if k = 3 ∨ k = 6 then msAll ps else if k = 4 then msAny ps else true
def msAll : List RT → Bool
  | [] => true
  | q :: r => msF q && msAll r
def msAny : List RT → Bool
  | [] => false
  | q :: r => msF q || msAny r
end
theorem msAll_eq : ∀ ps, msAll ps = ps.all msF
  | [] => rfl
  | q :: r => by rw [msAll, List.all_cons, msAll_eq r]
theorem msAny_eq : ∀ ps, msAny ps = ps.any msF
  | [] => rfl
  | q :: r => by rw [msAny, List.any_cons, msAny_eq r]
theorem any_drop {f : RT → Bool} {ps : List RT} {j : Nat} (h : j < ps.length) : (ps.drop j).any f = (f ps[j] || (ps.drop (j + 1)).any f) := by
  rw [List.drop_eq_getElem_cons h, List.any_cons]
set_option maxHeartbeats 8000000 in
theorem index_66 {D : Nat → Prop} {w : World} {ps : List RT} {kk : Int} {uu : Nat → Int} {p : Option Addr} {c : Nat} (f : RT → Bool) (hD : ∀ b, D b → b < w.heap.size) (hl : ps.length ≤ 1000000) (hv : RV D w (.mk kk uu ps) (.agg (nodeC kk uu (.slice p ps.length c))))
    (HG : Hid (∀ q ∈ ps, ∀ z v, Below w.heap.size w z → RV D z q v → Calls Tryd.prog 109 #[v] z fun e z' => e = .returned (.bool (f q)) ∧ Below z.heap.size z z')) :
    Calls Tryd.prog 120 #[.slice p ps.length c, .func (.func 109) #[] #[]] w fun e w' => (∃ i : Int, e = .returned (.int .i64 i) ∧ decide (0 ≤ i) = ps.any f) ∧ Below w.heap.size w w' := by
  have HRV := Lib.hid hv
  have HD := Lib.hid hD
  have S0 := Lib.hid (Below.refl w.heap.size w)
  obtain ⟨R, hR⟩ : ∃ R, ps.any f = R := ⟨_, rfl⟩
  rw [hR]
  have HR0 : Hid ((ps.drop 0).any f = R) := Lib.hid (by rw [List.drop_zero]; exact hR)
  clear hv hD hR
  go_enter Tryd.func120, Tryd.ntmps120
  go_wp2_with fail
  go_loopw [8] (fun i wr => ∃ j : Nat, i = .int .i64 (j : Nat) ∧ j ≤ ps.length ∧ Hid ((ps.drop j).any f = R) ∧ Hid (Below w.heap.size w wr)) (fun i _ => ps.length - (intOf i).toNat)
  case atStart => exact ⟨0, rfl, by omega, HR0, S0⟩
  case round =>
  clear HR0 S0
  obtain ⟨j, rfl, hj, HR, HS⟩ := hrel
  obtain ⟨wo, rfl⟩ : ∃ wo : World, wo = wr := ⟨_, rfl⟩
  by_cases hlt : j < ps.length
  · obtain ⟨b, o, rfl, hPb, hx⟩ := rv_part HRV.out (by intro e; subst e; simp at hlt)
    obtain ⟨k, u, p2, n, c2, hpv, hcell⟩ := hx j hlt
    have hbw := HD.out b hPb
    have ce : ∀ i v, (nodeC k u (.slice p2 n c2))[i]? = some v → wo.cell? ⟨b, o + j * 6 + i, none⟩ = some v := fun i v hv => (cell_same (HS.out.block b hbw) _).trans (hcell i v hv)
    have d0 : wo.cell? ⟨b, o + j * 6, none⟩ = some (.int .i64 k) := ce 0 _ rfl
    have d1 : wo.cell? ⟨b, o + j * 6 + 1, none⟩ = some (.int .u64 (u 0)) := ce 1 _ rfl
    have d2 : wo.cell? ⟨b, o + j * 6 + 2, none⟩ = some (.int .u64 (u 1)) := ce 2 _ rfl
    have d3 : wo.cell? ⟨b, o + j * 6 + 3, none⟩ = some (.int .u64 (u 2)) := ce 3 _ rfl
    have d4 : wo.cell? ⟨b, o + j * 6 + 4, none⟩ = some (.int .u64 (u 3)) := ce 4 _ rfl
    have d5 : wo.cell? ⟨b, o + j * 6 + 5, none⟩ = some (.slice p2 n c2) := ce 5 _ rfl
    have hC := HG.out ps[j] (List.getElem_mem hlt) wo _ HS.out (hpv.mono (w' := wo) (fun b h => h) (fun b hb _ => HS.out.block b (HD.out b hb)))
    have hdr := any_drop (f := f) hlt
    rw [HR.out] at hdr
    obtain ⟨fj, hfj⟩ : ∃ fj, f ps[j] = fj := ⟨_, rfl⟩
    rw [hfj] at hC hdr
    unfold nodeC at hC
    have HC := Lib.hid hC
    have HDR := Lib.hid hdr
    have hltI : (j : Int) < (ps.length : Int) := by omega
    have hjI : ¬ (j : Int) < 0 := by omega
    clear hx hpv hcell ce hC hdr hfj HR
    go_wp2_with fail
    refine HC.out.mono ?_
    rintro _ y1 ⟨rfl, hb1⟩
    have HS1 := Lib.hid (HS.out.trans (hb1.mono HS.out.size))
    clear hb1 HC d0 d1 d2 d3 d4 d5 HS
    cases fj with
    | true =>
      have HR1 : Hid (R = true) := Lib.hid (by rw [HDR.out, Bool.true_or])
      clear HDR
      go_wp2_with fail
      go_ret
      exact ⟨⟨(j : Int), rfl, by rw [HR1.out]; simp⟩, HS1.out⟩
    | false =>
      have HR1 : Hid ((ps.drop (j + 1)).any f = R) := Lib.hid (by rw [HDR.out, Bool.false_or])
      clear HDR
      go_wp2_with fail
      go_roundw
      case rel => exact ⟨j + 1, by go_num, by omega, HR1, HS1⟩
      case measure => simp [intOf]; omega
  · obtain rfl : j = ps.length := by omega
    have HR1 : Hid (R = false) := Lib.hid (by rw [← HR.out, List.drop_length]; rfl)
    have hltI : ¬ (ps.length : Int) < (ps.length : Int) := by omega
    clear HR
    go_wp2_with fail
    go_ret
    exact ⟨⟨-1, rfl, by rw [HR1.out]; rfl⟩, HS.out⟩
set_option maxHeartbeats 4000000 in
theorem contains_66 {D : Nat → Prop} {w : World} {ps : List RT} {kk : Int} {uu : Nat → Int} {p : Option Addr} {c : Nat} (f : RT → Bool) (hD : ∀ b, D b → b < w.heap.size) (hl : ps.length ≤ 1000000) (hv : RV D w (.mk kk uu ps) (.agg (nodeC kk uu (.slice p ps.length c))))
    (HG : Hid (∀ q ∈ ps, ∀ z v, Below w.heap.size w z → RV D z q v → Calls Tryd.prog 109 #[v] z fun e z' => e = .returned (.bool (f q)) ∧ Below z.heap.size z z')) :
    Calls Tryd.prog 108 #[.slice p ps.length c, .func (.func 109) #[] #[]] w fun e w' => e = .returned (.bool (ps.any f)) ∧ Below w.heap.size w w' := by
  have HC := Lib.hid (index_66 f hD hl hv HG)
  obtain ⟨R, hR⟩ : ∃ R, ps.any f = R := ⟨_, rfl⟩
  rw [hR] at HC ⊢
  clear hv hD HG hR
  go_enter Tryd.func108, Tryd.ntmps108
  go_wp2_with fail
  refine HC.out.mono ?_
  rintro _ y1 ⟨⟨i, rfl, hi⟩, hb1⟩
  have HI := Lib.hid hi
  have HB := Lib.hid hb1
  clear hi hb1 HC
  by_cases h0 : 0 ≤ i
  · go_wp2_with fail
    go_ret
    exact ⟨vbool6 (by first | (rw [← HI.out]; done) | (rw [← HI.out]; simp [h0])), HB.out⟩
  · go_wp2_with fail
    go_ret
    exact ⟨vbool6 (by first | (rw [← HI.out]; done) | (rw [← HI.out]; simp [h0])), HB.out⟩
set_option maxHeartbeats 8000000 in
theorem index_53 {D : Nat → Prop} {w : World} {ps : List RT} {kk : Int} {uu : Nat → Int} {p : Option Addr} {c : Nat} (f : RT → Bool) (hD : ∀ b, D b → b < w.heap.size) (hl : ps.length ≤ 1000000) (hv : RV D w (.mk kk uu ps) (.agg (nodeC kk uu (.slice p ps.length c))))
    (HG : Hid (∀ q ∈ ps, ∀ z v, Below w.heap.size w z → RV D z q v → Calls Tryd.prog 75 #[v] z fun e z' => e = .returned (.bool (f q)) ∧ Below z.heap.size z z')) :
    Calls Tryd.prog 120 #[.slice p ps.length c, .func (.func 75) #[] #[]] w fun e w' => (∃ i : Int, e = .returned (.int .i64 i) ∧ decide (0 ≤ i) = ps.any f) ∧ Below w.heap.size w w' := by
  have HRV := Lib.hid hv
  have HD := Lib.hid hD
  have S0 := Lib.hid (Below.refl w.heap.size w)
  obtain ⟨R, hR⟩ : ∃ R, ps.any f = R := ⟨_, rfl⟩
  rw [hR]
  have HR0 : Hid ((ps.drop 0).any f = R) := Lib.hid (by rw [List.drop_zero]; exact hR)
  clear hv hD hR
  go_enter Tryd.func120, Tryd.ntmps120
  go_wp2_with fail
  go_loopw [8] (fun i wr => ∃ j : Nat, i = .int .i64 (j : Nat) ∧ j ≤ ps.length ∧ Hid ((ps.drop j).any f = R) ∧ Hid (Below w.heap.size w wr)) (fun i _ => ps.length - (intOf i).toNat)
  case atStart => exact ⟨0, rfl, by omega, HR0, S0⟩
  case round =>
  clear HR0 S0
  obtain ⟨j, rfl, hj, HR, HS⟩ := hrel
  obtain ⟨wo, rfl⟩ : ∃ wo : World, wo = wr := ⟨_, rfl⟩
  by_cases hlt : j < ps.length
  · obtain ⟨b, o, rfl, hPb, hx⟩ := rv_part HRV.out (by intro e; subst e; simp at hlt)
    obtain ⟨k, u, p2, n, c2, hpv, hcell⟩ := hx j hlt
    have hbw := HD.out b hPb
    have ce : ∀ i v, (nodeC k u (.slice p2 n c2))[i]? = some v → wo.cell? ⟨b, o + j * 6 + i, none⟩ = some v := fun i v hv => (cell_same (HS.out.block b hbw) _).trans (hcell i v hv)
    have d0 : wo.cell? ⟨b, o + j * 6, none⟩ = some (.int .i64 k) := ce 0 _ rfl
    have d1 : wo.cell? ⟨b, o + j * 6 + 1, none⟩ = some (.int .u64 (u 0)) := ce 1 _ rfl
    have d2 : wo.cell? ⟨b, o + j * 6 + 2, none⟩ = some (.int .u64 (u 1)) := ce 2 _ rfl
    have d3 : wo.cell? ⟨b, o + j * 6 + 3, none⟩ = some (.int .u64 (u 2)) := ce 3 _ rfl
    have d4 : wo.cell? ⟨b, o + j * 6 + 4, none⟩ = some (.int .u64 (u 3)) := ce 4 _ rfl
    have d5 : wo.cell? ⟨b, o + j * 6 + 5, none⟩ = some (.slice p2 n c2) := ce 5 _ rfl
    have hC := HG.out ps[j] (List.getElem_mem hlt) wo _ HS.out (hpv.mono (w' := wo) (fun b h => h) (fun b hb _ => HS.out.block b (HD.out b hb)))
    have hdr := any_drop (f := f) hlt
    rw [HR.out] at hdr
    obtain ⟨fj, hfj⟩ : ∃ fj, f ps[j] = fj := ⟨_, rfl⟩
    rw [hfj] at hC hdr
    unfold nodeC at hC
    have HC := Lib.hid hC
    have HDR := Lib.hid hdr
    have hltI : (j : Int) < (ps.length : Int) := by omega
    have hjI : ¬ (j : Int) < 0 := by omega
    clear hx hpv hcell ce hC hdr hfj HR
    go_wp2_with fail
    refine HC.out.mono ?_
    rintro _ y1 ⟨rfl, hb1⟩
    have HS1 := Lib.hid (HS.out.trans (hb1.mono HS.out.size))
    clear hb1 HC d0 d1 d2 d3 d4 d5 HS
    cases fj with
    | true =>
      have HR1 : Hid (R = true) := Lib.hid (by rw [HDR.out, Bool.true_or])
      clear HDR
      go_wp2_with fail
      go_ret
      exact ⟨⟨(j : Int), rfl, by rw [HR1.out]; simp⟩, HS1.out⟩
    | false =>
      have HR1 : Hid ((ps.drop (j + 1)).any f = R) := Lib.hid (by rw [HDR.out, Bool.false_or])
      clear HDR
      go_wp2_with fail
      go_roundw
      case rel => exact ⟨j + 1, by go_num, by omega, HR1, HS1⟩
      case measure => simp [intOf]; omega
  · obtain rfl : j = ps.length := by omega
    have HR1 : Hid (R = false) := Lib.hid (by rw [← HR.out, List.drop_length]; rfl)
    have hltI : ¬ (ps.length : Int) < (ps.length : Int) := by omega
    clear HR
    go_wp2_with fail
    go_ret
    exact ⟨⟨-1, rfl, by rw [HR1.out]; rfl⟩, HS.out⟩
set_option maxHeartbeats 4000000 in
theorem contains_53 {D : Nat → Prop} {w : World} {ps : List RT} {kk : Int} {uu : Nat → Int} {p : Option Addr} {c : Nat} (f : RT → Bool) (hD : ∀ b, D b → b < w.heap.size) (hl : ps.length ≤ 1000000) (hv : RV D w (.mk kk uu ps) (.agg (nodeC kk uu (.slice p ps.length c))))
    (HG : Hid (∀ q ∈ ps, ∀ z v, Below w.heap.size w z → RV D z q v → Calls Tryd.prog 75 #[v] z fun e z' => e = .returned (.bool (f q)) ∧ Below z.heap.size z z')) :
    Calls Tryd.prog 108 #[.slice p ps.length c, .func (.func 75) #[] #[]] w fun e w' => e = .returned (.bool (ps.any f)) ∧ Below w.heap.size w w' := by
  have HC := Lib.hid (index_53 f hD hl hv HG)
  obtain ⟨R, hR⟩ : ∃ R, ps.any f = R := ⟨_, rfl⟩
  rw [hR] at HC ⊢
  clear hv hD HG hR
  go_enter Tryd.func108, Tryd.ntmps108
  go_wp2_with fail
  refine HC.out.mono ?_
  rintro _ y1 ⟨⟨i, rfl, hi⟩, hb1⟩
  have HI := Lib.hid hi
  have HB := Lib.hid hb1
  clear hi hb1 HC
  by_cases h0 : 0 ≤ i
  · go_wp2_with fail
    go_ret
    exact ⟨vbool6 (by first | (rw [← HI.out]; done) | (rw [← HI.out]; simp [h0])), HB.out⟩
  · go_wp2_with fail
    go_ret
    exact ⟨vbool6 (by first | (rw [← HI.out]; done) | (rw [← HI.out]; simp [h0])), HB.out⟩
end Go.Proofs.YthglciccejholaaDoor
