/- Has, with, Union, Meet, Not: byte by byte. -/
import Derived.Test.YtennflnfjjhgpaaProg
import Derived.Test.YtennflnfjjhgpaaBits
import Derived.WalkKit
import Derived.WalkLawsBesides
import Derived.WalkSpells
import Derived.Outline
import Derived.Lib.Walk
import Derived.Lib.Hide
import Derived.RegionTactic
import Derived.LoopTactic
import Derived.Below
namespace Go.Proofs.Ytennflnfjjhgpaa
set_option linter.unusedSimpArgs false
set_option linter.unusedVariables false
open Go.RowKit

theorem ret_agg {a b : Value} (h : a = b) : Ending.returned a = .returned b := by rw [h]
set_option maxHeartbeats 1000000 in
theorem has_any (f : Nat → Bool) (n : Nat) (hn : n < 256) (w : World) :
    Calls Try.prog 12 #[setV f, .int .u8 n] w fun e w' => e = .returned (.bool (f n)) ∧ Below w.heap.size w w' := by
  have hv : [Value.int IntKind.u64 (W f 0), Value.int IntKind.u64 (W f 1), Value.int IntKind.u64 (W f 2), Value.int IntKind.u64 (W f 3)][n / 64]? = some (.int .u64 (W f (n / 64))) := by
    rcases (by omega : n / 64 = 0 ∨ n / 64 = 1 ∨ n / 64 = 2 ∨ n / 64 = 3) with h | h | h | h <;> rw [h] <;> rfl
  have hr := W_has f (n / 64) (n % 64) (Nat.mod_lt _ (by omega))
  rw [Nat.div_add_mod] at hr
  generalize f n = v at hr ⊢
  go_enter Try.func12, Try.ntmps12
  go_wp2
  go_ret
  exact ⟨rfl, (Below.refl _ _).alloc (Nat.le_refl _) _⟩

set_option maxHeartbeats 1000000 in
theorem with_q (f : Nat → Bool) (n q : Nat) (hq : n / 64 = q) (hq4 : q = 0 ∨ q = 1 ∨ q = 2 ∨ q = 3) (w : World) :
    Calls Try.prog 31 #[setV f, .int .u8 n] w fun e w' => e = .returned (setV (fun b => f b || b == n)) ∧ Below w.heap.size w w' := by
  have hn : n < 256 := by omega
  have hr := W_with f q (n % 64) (Nat.mod_lt _ (by omega))
  rw [← hq, Nat.div_add_mod, hq] at hr
  have hs : ∀ i, i ≠ q → W (fun b => f b || b == n) i = W f i := fun i hi => W_skip f i n fun k hk e => by omega
  have HS := Lib.hid hs
  clear hs
  unfold setV
  rcases hq4 with rfl | rfl | rfl | rfl
  · rw [HS.out 1 (by decide), HS.out 2 (by decide), HS.out 3 (by decide)]
    generalize W (fun b => f b || b == n) 0 = g at hr ⊢
    clear HS
    go_enter Try.func31, Try.ntmps31
    go_wp2
    refine bodyPost_ret (v := _) (by simp [results, Try.results31, go_sem]) rfl ⟨rfl, ?_⟩
    exact (((Below.refl _ _).alloc (Nat.le_refl _) _).alloc (by simp) _)
  · rw [HS.out 0 (by decide), HS.out 2 (by decide), HS.out 3 (by decide)]
    generalize W (fun b => f b || b == n) 1 = g at hr ⊢
    clear HS
    go_enter Try.func31, Try.ntmps31
    go_wp2
    refine bodyPost_ret (v := _) (by simp [results, Try.results31, go_sem]) rfl ⟨rfl, ?_⟩
    exact (((Below.refl _ _).alloc (Nat.le_refl _) _).alloc (by simp) _)
  · rw [HS.out 1 (by decide), HS.out 0 (by decide), HS.out 3 (by decide)]
    generalize W (fun b => f b || b == n) 2 = g at hr ⊢
    clear HS
    go_enter Try.func31, Try.ntmps31
    go_wp2
    refine bodyPost_ret (v := _) (by simp [results, Try.results31, go_sem]) rfl ⟨rfl, ?_⟩
    exact (((Below.refl _ _).alloc (Nat.le_refl _) _).alloc (by simp) _)
  · rw [HS.out 1 (by decide), HS.out 2 (by decide), HS.out 0 (by decide)]
    generalize W (fun b => f b || b == n) 3 = g at hr ⊢
    clear HS
    go_enter Try.func31, Try.ntmps31
    go_wp2
    refine bodyPost_ret (v := _) (by simp [results, Try.results31, go_sem]) rfl ⟨rfl, ?_⟩
    exact (((Below.refl _ _).alloc (Nat.le_refl _) _).alloc (by simp) _)
theorem with_any (f : Nat → Bool) (n : Nat) (hn : n < 256) (w : World) :
    Calls Try.prog 31 #[setV f, .int .u8 n] w fun e w' => e = .returned (setV (fun b => f b || b == n)) ∧ Below w.heap.size w w' := with_q f n (n / 64) rfl (by omega) w
end Go.Proofs.Ytennflnfjjhgpaa
