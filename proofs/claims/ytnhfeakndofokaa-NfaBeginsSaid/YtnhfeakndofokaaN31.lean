/- Package nfa. -/
import Derived.Test.YtnhfeakndofokaaProg
import Derived.Test.YtnhfeakndofokaaN30
import Derived.WalkKit
import Derived.WalkLawsBesides
import Derived.WalkSpells
import Derived.Outline
import Derived.Lib.Walk
import Derived.Lib.Hide
import Derived.Lib.Slices
import Derived.Lib.Strings
import Derived.RegionTactic
import Derived.LoopTactic
import Derived.Below
import Derived.IntWalk
import Derived.Deep.QuietTactic
import Derived.BigQuiet
import Derived.Deep.MidRow
import Derived.Maps.AppendAt
import Derived.Laws.Rows
import Derived.Laws.Tables
import Derived.Deep.WholeRow
import Derived.Deep.Cut
import Derived.Deep.CutRange
import Derived.Lib.SliceRun
import Derived.Laws.MakeOwn
import Derived.Deep.RegionLaw
import Derived.Deep.RegionLawGrows
namespace Go.Proofs.Ytnhfeakndofokaa
set_option linter.unusedSimpArgs false
set_option linter.unusedVariables false
set_option maxRecDepth 100000
open Go.RowKit
/- LeftInts. -/
theorem zi_len (l : List Int) : (zi l).length = l.length := by simp [zi]
theorem mk7_get {k : Nat} (h : k < 3) (l : List Int) : (zi (l ++ mk7 3))[l.length + k]? = some (.int .i64 (-7000 - (k : Int))) := by
  rw [zi, List.getElem?_map, List.getElem?_append_right (by omega), show l.length + k - l.length = k by omega]
  rcases (by omega : k = 0 ∨ k = 1 ∨ k = 2) with rfl | rfl | rfl <;> rfl
theorem ti_row {B g cap : Nat} {w : World} {l : List Int} (h : w.ownsRow B 3 1 (.slice (some ⟨g, 0, none⟩) (l.length + 3) cap) (l.length + 3) (zi (l ++ mk7 3))) :
    (∀ i (hi : i < l.length), w.cell? ⟨g, i, none⟩ = some (.int .i64 l[i])) ∧ (∀ k, k < 3 → w.cell? ⟨g, l.length + k, none⟩ = some (.int .i64 (-7000 - (k : Int)))) ∧ l.length + 3 ≤ cap ∧ B ≤ g ∧ g < w.heap.size := by
  refine ⟨fun i hi => ?_, fun k hk => ?_, ?_, (h.lt g rfl).1, (h.lt g rfl).2⟩
  · have := h.cells (g := g) rfl i (.int .i64 l[i]) (by
      rw [zi, List.getElem?_map, List.getElem?_append_left hi, List.getElem?_eq_getElem hi]; rfl)
    rwa [Addr.add_mid, Nat.zero_add] at this
  · have := h.cells (g := g) rfl (l.length + k) _ (mk7_get hk l)
    rwa [Addr.add_mid, Nat.zero_add] at this
  · obtain ⟨g', cap', he, hc⟩ := row_own h (by omega)
    injection he with e1 e2 e3
    omega
theorem ti_iv {B g cap : Nat} {w : World} {l : List Int} (h : w.ownsRow B 3 1 (.slice (some ⟨g, 0, none⟩) (l.length + 3) cap) (l.length + 3) (zi (l ++ mk7 3))) : IV (fun b => b = g) w l (.slice (some ⟨g, 0, none⟩) l.length cap) := by
  obtain ⟨h1, _⟩ := ti_row h
  exact ⟨_, _, rfl, fun _ => ⟨g, 0, rfl, rfl, fun i hi => by rw [Nat.zero_add]; exact h1 i hi⟩⟩
set_option maxHeartbeats 8000000 in
theorem left_ints {E : Nat → Prop} {B : Nat} {w : World} {l : List Int} {v : Value} {pb : Option Addr} {cb : Nat} (hl : l.length ≤ 1000000) (hE : ∀ b, E b → b < w.heap.size) (ht : TI B w l v) (h : IV E w l (.slice pb l.length cb)) :
    Calls Try.prog 29 #[v, .slice pb l.length cb] w fun e w' => e = .returned (.bool true) ∧ Below w.heap.size w w' := by
  obtain ⟨g, cap, rfl, hrow⟩ := ht
  obtain ⟨h1, h2, h3, h4, h5⟩ := ti_row hrow
  have HC := Lib.hid (same_any (D := fun b => b = g) (by omega) (fun b hb => by rw [hb]; exact h5) hE (ti_iv hrow) h)
  have HM := Lib.hid h2
  have HG := Lib.hid h5
  have c1 : ¬ (cap : Int) < (l.length : Int) + 3 := by omega
  have c2 : (l.length : Int) + 3 ≤ (cap : Int) := by omega
  have c3 : l.length + 3 ≤ cap := h3
  have c4 : (0 : Int) ≤ (l.length : Int) + 3 := by omega
  have c5 : ¬ (l.length : Int) + 3 < 0 := by omega
  clear hrow h h1 h2 h4 h5 h3 hE
  go_enter Try.func29, Try.ntmps29
  go_wp2_with fail
  refine HC.out.mono ?_
  rintro _ w1 ⟨rfl, hb1⟩
  rw [decide_true]
  have HB := Lib.hid hb1
  clear hb1 HC
  go_wp2_with fail
  go_loopw [6] (fun i wr => ∃ k : Nat, k ≤ 3 ∧ i = .int .i64 (k : Nat) ∧ Hid (Below w.heap.size w wr)) (fun i _ => 3 - (intOf i).toNat)
  case atStart => exact ⟨0, by omega, rfl, HB⟩
  case round =>
  clear HB
  obtain ⟨k, hk, rfl, HB⟩ := hrel
  by_cases hk3 : k < 3
  · have hk3I : (k : Int) < 3 := by omega
    have cm : wr.cell? ⟨g, l.length + k, none⟩ = some (.int .i64 (-7000 - (k : Int))) := (cell_same (HB.out.block g HG.out) _).trans (HM.out k hk3)
    go_wp2_with fail
    go_roundw
    case rel => exact ⟨k + 1, by omega, by go_num, HB⟩
    case measure => simp [intOf]; omega
  · obtain rfl : k = 3 := by omega
    go_wp2_with fail
    go_ret
    exact ⟨rfl, HB.out⟩
end Go.Proofs.Ytnhfeakndofokaa
