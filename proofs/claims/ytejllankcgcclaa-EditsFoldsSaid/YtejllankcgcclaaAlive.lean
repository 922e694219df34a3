/- The three examples that each statement ends with come out; what the document's Apply answers. -/
import Derived.Test.YtejllankcgcclaaRef
import Derived.Deep.RegionHeld3
import Derived.Deep.QuietTactic
import Derived.BigQuiet
namespace Go.Proofs.Ytejllankcgcclaa
open Go.RowKit
set_option linter.unusedVariables false

theorem alive1 (w : World) : Calls Try.prog 17 #[.string ⟨#[97, 98, 99, 100, 101, 102]⟩, ed 1 3 ⟨#[88, 89, 90]⟩] w fun r w' => r = .returned (.tuple #[.string ⟨#[97, 88, 89, 90, 100, 101, 102]⟩, .int .i64 0]) ∧ Below w.heap.size w w' :=
  apply_ok ⟨#[97, 98, 99, 100, 101, 102]⟩ 1 3 ⟨#[88, 89, 90]⟩ w (by decide) (by decide) (by decide)
theorem alive2 (w : World) : Calls Try.prog 17 #[.string ⟨#[97, 98, 99, 100, 101, 102]⟩, ed 2 1 .empty] w fun r w' => r = .returned (.tuple #[.string .empty, .int .i64 10]) ∧ Below w.heap.size w w' :=
  apply_err ⟨#[97, 98, 99, 100, 101, 102]⟩ 2 1 .empty w (by decide) (by decide) (by decide)
theorem alive3 (w : World) : Calls Try.prog 24 #[ed 1 5 ⟨#[88]⟩, .int .i64 4] w fun r w' => r = .returned (.int .i64 2) ∧ Below w.heap.size w w' :=
  at_any 1 5 ⟨#[88]⟩ 4 w (by decide)

theorem alive_any (w : World) : Calls Try.prog 16 #[] w fun r w' => r = .returned (.bool true) ∧ Below w.heap.size w w' := by
  go_enter Try.func16, Try.ntmps16
  go_wp2_with fail
  refine (alive1 _).mono ?_
  rintro _ w1 ⟨rfl, hb1⟩
  go_wp2_with fail
  refine (alive2 _).mono ?_
  rintro _ w2 ⟨rfl, hb2⟩
  go_wp2_with fail
  refine (alive3 _).mono ?_
  rintro _ w3 ⟨rfl, hb3⟩
  go_wp2
  go_ret
  exact ⟨rfl, (hb1.trans (hb2.mono hb1.size)).trans (hb3.mono (Nat.le_trans hb1.size hb2.size))⟩
end Go.Proofs.Ytejllankcgcclaa
