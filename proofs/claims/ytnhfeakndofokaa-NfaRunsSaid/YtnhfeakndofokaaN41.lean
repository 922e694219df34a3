/- Package nfa. -/
import Derived.Test.YtnhfeakndofokaaProg
import Derived.Test.YtnhfeakndofokaaN40
import Derived.Test.YtnhfeakndofokaaN38a
import Derived.WalkKit
import Derived.WalkLawsBesides
import Derived.WalkSpells
import Derived.Outline
import Derived.Lib.Walk
import Derived.Lib.Hide
import Derived.Lib.Slices
import Derived.Lib.Strings
import Derived.RegionTactic
import Derived.LoopTactic
import Derived.Below
import Derived.IntWalk
import Derived.Deep.QuietTactic
import Derived.BigQuiet
import Derived.Deep.MidRow
import Derived.Maps.AppendAt
import Derived.Laws.Rows
import Derived.Laws.Tables
import Derived.Deep.WholeRow
import Derived.Deep.Cut
import Derived.Deep.CutRange
import Derived.Lib.SliceRun
import Derived.Laws.MakeOwn
import Derived.Deep.RegionLaw
import Derived.Deep.RegionLawGrows
import Derived.Deep.RegionHeld3
import Derived.RegionCalls
import Derived.Deep.RegionWith
import Derived.Deep.Light
namespace Go.Proofs.Ytnhfeakndofokaa
set_option linter.unusedSimpArgs false
set_option linter.unusedVariables false
set_option maxRecDepth 100000
open Go.RowKit
/- The document's Has. -/
theorem half_step (K j : Nat) : ((K / 2 ^ j : Nat) : Int) / 2 = ((K / 2 ^ (j + 1) : Nat) : Int) := by
  rw [Nat.pow_succ, ← Nat.div_div_eq_div_mul]; omega
set_option maxHeartbeats 4000000 in
theorem refhas_any {u : Nat → Int} (hu : okW u) (b : UInt8) (w : World) : Calls Try.prog 61 #[uV u, .int .u8 b.toNat] w fun e w' => e = .returned (.bool (hasU u b)) ∧ Below w.heap.size w w' := by
  obtain ⟨n, hn⟩ : ∃ n, b.toNat = n := ⟨_, rfl⟩
  have hb : n < 256 := by have := b.toNat_lt; omega
  have hhas : hasU u b = ((u (n / 64)).toNat / 2 ^ (n % 64) % 2 == 1) := by
    unfold hasU
    rw [hn, Nat.testBit_eq_decide_div_mod_eq]
    rw [Bool.eq_iff_iff]; simp
  rw [hhas, hn]
  clear hhas hn b
  have hv : [Value.int IntKind.u64 (u 0), Value.int IntKind.u64 (u 1), Value.int IntKind.u64 (u 2), Value.int IntKind.u64 (u 3)][n / 64]? = some (.int .u64 (u (n / 64))) := by
    rcases (by omega : n / 64 = 0 ∨ n / 64 = 1 ∨ n / 64 = 2 ∨ n / 64 = 3) with h | h | h | h <;> rw [h] <;> rfl
  have hub := hu (n / 64)
  obtain ⟨K, hK⟩ : ∃ K : Nat, u (n / 64) = (K : Nat) := ⟨(u (n / 64)).toNat, by omega⟩
  rw [hK] at hv hub ⊢
  rw [Int.toNat_natCast]
  have S0 := Lib.hid ((Below.refl w.heap.size w).alloc (Nat.le_refl _) (.cells #[.int .u64 (u 0), .int .u64 (u 1), .int .u64 (u 2), .int .u64 (u 3)] 47))
  clear hK
  unfold uV
  go_enter Try.func61, Try.ntmps61
  go_wp2_with fail
  go_loopw [5, 6] (fun v i wr => ∃ j : Nat, i = .int .i64 (j : Nat) ∧ v = .int .u64 ((K / 2 ^ j : Nat) : Int) ∧ j ≤ n % 64 ∧ Hid (Below w.heap.size w wr)) (fun _ i _ => n % 64 - (intOf i).toNat)
  case atStart => exact ⟨0, rfl, by simp, by omega, S0⟩
  case round =>
  clear S0 hv
  obtain ⟨j, rfl, rfl, hj, HB⟩ := hrel
  have hs := half_step K j
  have hle : K / 2 ^ j ≤ K := Nat.div_le_self _ _
  have hle2 : K / 2 ^ (j + 1) ≤ K := Nat.div_le_self _ _
  by_cases hlt : j < n % 64
  · have hI : (j : Int) < (n : Int) % 64 := by omega
    obtain ⟨b, hb⟩ : ∃ b, K / 2 ^ (j + 1) = b := ⟨_, rfl⟩
    rw [hb] at hs hle2
    have HBB := Lib.hid hb
    clear hb
    generalize K / 2 ^ j = a at *
    go_wp2_with fail
    go_roundw
    case rel => exact ⟨j + 1, by go_num, by rw [HBB.out], by omega, HB⟩
    case measure => simp [intOf]; omega
  · obtain rfl : j = n % 64 := by omega
    have hI : ¬ ((n % 64 : Nat) : Int) < (n : Int) % 64 := by omega
    clear hs hle2
    obtain ⟨a, ha⟩ : ∃ a, K / 2 ^ (n % 64) = a := ⟨_, rfl⟩
    rw [ha] at hle ⊢
    have HAA := Lib.hid ha
    clear ha
    go_wp2_with fail
    go_ret
    exact ⟨vbool6 (by rw [HAA.out, Bool.eq_iff_iff]; simp; omega), HB.out⟩
end Go.Proofs.Ytnhfeakndofokaa
