/- The document's Count: of 256 flags. -/
import Derived.Test.YtennflnfjjhgpaaProg
import Derived.Test.YtennflnfjjhgpaaSb
import Derived.WalkKit
import Derived.WalkLawsBesides
import Derived.WalkSpells
import Derived.Outline
import Derived.Lib.Walk
import Derived.Lib.Hide
import Derived.RegionTactic
import Derived.LoopTactic
import Derived.Below
import Derived.IntWalk
namespace Go.Proofs.Ytennflnfjjhgpaa
set_option linter.unusedSimpArgs false
set_option linter.unusedVariables false
open Go.RowKit

set_option maxHeartbeats 2000000 in
theorem rcount_any (f : Nat → Bool) (w : World) :
    Calls Try.prog 14 #[.agg (fl f)] w fun e w' => e = .returned (.int .i64 (cntF f 256 : Nat)) ∧ Below w.heap.size w w' := by
  have S0 := Lib.hid ((Sb.start w).alloc (.cells (fl f) 27))
  go_enter Try.func14, Try.ntmps14
  go_wp2
  go_loopw [3, 4] (fun n i wr => ∃ k : Nat, k ≤ 256 ∧ i = .int .i64 k ∧ n = .int .i64 (cntF f k : Nat) ∧ Sb w wr [(w.heap.size, .cells (fl f) 27)]) (fun _ i _ => 256 - (intOf i).toNat)
  case atStart => exact ⟨0, by omega, rfl, rfl, S0.out⟩
  case round =>
    obtain ⟨k, hk, rfl, rfl, hS⟩ := hrel
    have HS := Lib.hid hS
    clear hS
    by_cases hlt : k < 256
    · have hlt' : (k : Int) < 256 := by omega
      have c0 := HS.out.flag k hlt
      have hc := cnt_le f k
      have hs : cntF f (k + 1) = cntF f k + (f k).toNat := rfl
      cases hf : f k
      · rw [hf] at c0 hs
        have hs' := Lib.hid hs
        clear hs hf
        go_wp2
        go_roundw
        case rel => exact ⟨k + 1, by omega, by go_num, by rw [hs'.out]; simp, HS.out⟩
        case measure => simp [intOf]; omega
      · rw [hf] at c0 hs
        have hs' := Lib.hid hs
        clear hs hf
        go_wp2
        go_roundw
        case rel => exact ⟨k + 1, by omega, by go_num, by rw [hs'.out]; simp, HS.out⟩
        case measure => simp [intOf]; omega
    · obtain rfl : k = 256 := by omega
      go_wp2
      go_ret
      exact ⟨rfl, HS.out.1⟩
end Go.Proofs.Ytennflnfjjhgpaa
