/- Union, Meet, Not, Count: word by word. -/
import Derived.Test.YtennflnfjjhgpaaProg
import Derived.Test.YtennflnfjjhgpaaHas
import Derived.Test.YtennflnfjjhgpaaOnes
import Derived.WalkKit
import Derived.WalkLawsBesides
import Derived.WalkSpells
import Derived.Outline
import Derived.Lib.Walk
import Derived.Lib.Hide
import Derived.RegionTactic
import Derived.LoopTactic
import Derived.Below
namespace Go.Proofs.Ytennflnfjjhgpaa
set_option linter.unusedSimpArgs false
set_option linter.unusedVariables false
open Go.RowKit

set_option maxHeartbeats 2000000 in
theorem not_any (f : Nat → Bool) (w : World) :
    Calls Try.prog 23 #[setV f] w fun e w' => e = .returned (setV (fun b => !f b)) ∧ Below w.heap.size w w' := by
  have h0 := W_not f 0; have h1 := W_not f 1; have h2 := W_not f 2; have h3 := W_not f 3
  have hsg : IntKind.u64.signed = false := rfl
  have hmx : (18446744073709551615 : Int) = IntKind.u64.max := rfl
  rw [hmx] at h0 h1 h2 h3
  clear hmx
  unfold setV
  generalize W (fun b => !f b) 0 = r0 at h0 ⊢
  generalize W (fun b => !f b) 1 = r1 at h1 ⊢
  generalize W (fun b => !f b) 2 = r2 at h2 ⊢
  generalize W (fun b => !f b) 3 = r3 at h3 ⊢
  generalize W f 0 = a0 at *
  generalize W f 1 = a1 at *
  generalize W f 2 = a2 at *
  generalize W f 3 = a3 at *
  go_enter Try.func23, Try.ntmps23
  go_wp2
  refine wp_loop_rounds 5 ?_
  rw [rounds_succ]
  go_wp2
  rw [rounds_succ]
  go_wp2
  rw [rounds_succ]
  go_wp2
  rw [rounds_succ]
  go_wp2
  rw [rounds_succ]
  go_wp2
  refine bodyPost_ret (v := _) (by simp [results, Try.results23, go_sem]) rfl ⟨rfl, ?_⟩
  exact (((Below.refl _ _).alloc (Nat.le_refl _) _).alloc (by simp) _)

set_option maxHeartbeats 2000000 in
theorem count_any (f : Nat → Bool) (w : World) :
    Calls Try.prog 13 #[setV f] w fun e w' => e = .returned (.int .i64 (cntF f 256 : Nat)) ∧ Below w.heap.size w w' := by
  rw [cnt_256]
  have c0 := Lib.hid (ones_any (W f 0) (W_lt f 0))
  have c1 := Lib.hid (ones_any (W f 1) (W_lt f 1))
  have c2 := Lib.hid (ones_any (W f 2) (W_lt f 2))
  have c3 := Lib.hid (ones_any (W f 3) (W_lt f 3))
  have l0 := cnt_le (Nat.testBit (W f 0)) 64
  have l1 := cnt_le (Nat.testBit (W f 1)) 64
  have l2 := cnt_le (Nat.testBit (W f 2)) 64
  have l3 := cnt_le (Nat.testBit (W f 3)) 64
  generalize cntF (Nat.testBit (W f 0)) 64 = r0 at *
  generalize cntF (Nat.testBit (W f 1)) 64 = r1 at *
  generalize cntF (Nat.testBit (W f 2)) 64 = r2 at *
  generalize cntF (Nat.testBit (W f 3)) 64 = r3 at *
  unfold setV
  generalize W f 0 = a0 at *
  generalize W f 1 = a1 at *
  generalize W f 2 = a2 at *
  generalize W f 3 = a3 at *
  have i0 : ∀ w, (Instr.index 24 (.agg #[.int .u64 a0, .int .u64 a1, .int .u64 a2, .int .u64 a3]) (.int .i64 0)).run Try.prog w = .ok (.int .u64 a0) w := fun _ => by kernel_rfl
  have i1 : ∀ w, (Instr.index 24 (.agg #[.int .u64 a0, .int .u64 a1, .int .u64 a2, .int .u64 a3]) (.int .i64 1)).run Try.prog w = .ok (.int .u64 a1) w := fun _ => by kernel_rfl
  have i2 : ∀ w, (Instr.index 24 (.agg #[.int .u64 a0, .int .u64 a1, .int .u64 a2, .int .u64 a3]) (.int .i64 2)).run Try.prog w = .ok (.int .u64 a2) w := fun _ => by kernel_rfl
  have i3 : ∀ w, (Instr.index 24 (.agg #[.int .u64 a0, .int .u64 a1, .int .u64 a2, .int .u64 a3]) (.int .i64 3)).run Try.prog w = .ok (.int .u64 a3) w := fun _ => by kernel_rfl
  go_enter Try.func13, Try.ntmps13
  go_wp2
  refine wp_loop_rounds 5 ?_
  rw [rounds_succ]
  go_wp2_with fail
  refine (c0.out _).mono ?_
  rintro _ _ ⟨rfl, rfl⟩
  go_wp2
  rw [rounds_succ]
  go_wp2_with fail
  refine (c1.out _).mono ?_
  rintro _ _ ⟨rfl, rfl⟩
  go_wp2
  rw [rounds_succ]
  go_wp2_with fail
  refine (c2.out _).mono ?_
  rintro _ _ ⟨rfl, rfl⟩
  go_wp2
  rw [rounds_succ]
  go_wp2_with fail
  refine (c3.out _).mono ?_
  rintro _ _ ⟨rfl, rfl⟩
  go_wp2
  rw [rounds_succ]
  go_wp2
  go_ret
  exact ⟨by simp, (Below.refl _ _).alloc (Nat.le_refl _) _⟩
end Go.Proofs.Ytennflnfjjhgpaa
