/- Package nfa. -/
import Derived.Test.YtnhfeakndofokaaProg
import Derived.Test.YtnhfeakndofokaaRg
import Derived.Test.YtnhfeakndofokaaN20
import Derived.WalkKit
import Derived.WalkLawsBesides
import Derived.WalkSpells
import Derived.Outline
import Derived.Lib.Walk
import Derived.Lib.Hide
import Derived.Lib.Slices
import Derived.Lib.Strings
import Derived.RegionTactic
import Derived.LoopTactic
import Derived.Below
import Derived.IntWalk
import Derived.Deep.QuietTactic
import Derived.BigQuiet
import Derived.Deep.MidRow
import Derived.Maps.AppendAt
import Derived.Laws.Rows
import Derived.Laws.Tables
import Derived.Deep.WholeRow
import Derived.Deep.Cut
import Derived.Deep.CutRange
import Derived.Lib.SliceRun
import Derived.Laws.MakeOwn
import Derived.Deep.RegionLaw
import Derived.Deep.RegionLawGrows
namespace Go.Proofs.Ytnhfeakndofokaa
set_option linter.unusedSimpArgs false
set_option linter.unusedVariables false
set_option maxRecDepth 100000
open Go.RowKit
/- matchesSome of a set, of a star; refused, where every pattern may be. -/
set_option maxHeartbeats 4000000 in
theorem some_set (u : Nat → Int) (p : Option Addr) (n c : Nat) (w : World) : Calls Try.prog 53 #[.agg (nodeC 2 u (.slice p n c))] w fun e w' => e = .returned (.bool (!zeroU u)) ∧ Below w.heap.size w w' := by
  have hnq := neq24g u
  have S0 := Lib.hid (((Below.refl w.heap.size w).alloc (Nat.le_refl _) (.cells (nodeC 2 u (.slice p n c)) 56)))
  generalize zeroU u = zb at *
  unfold nodeC at *
  go_enter Try.func53, Try.ntmps53
  go_wp2_with fail
  go_ret
  exact ⟨rfl, S0.out⟩
set_option maxHeartbeats 4000000 in
theorem some_star (u : Nat → Int) (p : Option Addr) (n c : Nat) (w : World) : Calls Try.prog 53 #[.agg (nodeC 5 u (.slice p n c))] w fun e w' => e = .returned (.bool true) ∧ Below w.heap.size w w' := by
  have S0 := Lib.hid (((Below.refl w.heap.size w).alloc (Nat.le_refl _) (.cells (nodeC 5 u (.slice p n c)) 56)))
  unfold nodeC at *
  go_enter Try.func53, Try.ntmps53
  go_wp2_with fail
  go_ret
  exact ⟨rfl, S0.out⟩
set_option maxHeartbeats 4000000 in
theorem some_none (u : Nat → Int) (p : Option Addr) (n c : Nat) (w : World) : Calls Try.prog 53 #[.agg (nodeC 0 u (.slice p n c))] w fun e w' => e = .returned (.bool false) ∧ Below w.heap.size w w' := by
  have S0 := Lib.hid (((Below.refl w.heap.size w).alloc (Nat.le_refl _) (.cells (nodeC 0 u (.slice p n c)) 56)))
  unfold nodeC at *
  go_enter Try.func53, Try.ntmps53
  go_wp2_with fail
  go_ret
  exact ⟨rfl, S0.out⟩
end Go.Proofs.Ytnhfeakndofokaa
