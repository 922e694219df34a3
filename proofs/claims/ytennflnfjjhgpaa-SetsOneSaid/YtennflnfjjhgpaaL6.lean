/- SetsOne. -/
import Derived.Test.YtennflnfjjhgpaaProg
import Derived.Test.YtennflnfjjhgpaaL5
import Derived.Test.YtennflnfjjhgpaaRd
import Derived.Test.YtennflnfjjhgpaaIt
import Derived.WalkKit
import Derived.WalkLawsBesides
import Derived.WalkSpells
import Derived.Outline
import Derived.Lib.Walk
import Derived.Lib.Hide
import Derived.RegionTactic
import Derived.LoopTactic
import Derived.Below
import Derived.IntWalk
import Derived.Deep.RegionHeld3
import Derived.RegionCalls
import Derived.Deep.RegionWith
import Derived.Lib.Slices
import Derived.Lib.Strings
namespace Go.Proofs.Ytennflnfjjhgpaa
set_option linter.unusedSimpArgs false
set_option linter.unusedVariables false
open Go.RowKit


theorem cnt_one (n : Nat) : ∀ m, cntF (rangeF n 1) m = if n < m then 1 else 0
  | 0 => by simp [cntF]
  | m + 1 => by
    have ih := cnt_one n m
    simp only [cntF, ih]
    by_cases h : n = m
    · subst h; simp [rangeF]
    · have hr : rangeF n 1 m = false := by unfold rangeF; rw [Bool.eq_false_iff]; simp; omega
      rw [hr]
      by_cases h1 : n < m
      · rw [if_pos h1, if_pos (by omega)]; rfl
      · rw [if_neg h1, if_neg (by omega)]; rfl
theorem rng_self (n : Nat) : rangeF n 1 n = true := by unfold rangeF; simp
theorem rng_other (n c : Nat) (h : c ≠ n) : rangeF n 1 c = false := by unfold rangeF; rw [Bool.eq_false_iff]; simp; omega
def Pr (x : Nat → Int) (p : ByteArray) : Prop := ∃ f, x = wf f ∧ p = bs (pr f)
theorem pr_c (x : Nat → Int) (p : ByteArray) (h : Pr x p) (w : World) : Calls Try.prog 24 #[vv x] w fun e w' => e = .returned (.string p) ∧ Below w.heap.size w w' := by
  obtain ⟨f, rfl, rfl⟩ := h; exact print_any f w
theorem law_one (f : Nat → Bool) (n c : Nat) (hn : n < 256) (hc : c < 256) (w : World) : Calls Try.prog 10 #[setV f, .int .u8 n, .int .u8 c] w fun e w' => e = .returned (.bool true) ∧ Below w.heap.size w w' := by
  have hrng : ∀ w, Calls Try.prog 19 #[.int .u8 n, .int .u8 n] w fun e w' => e = .returned (vv (wf (rangeF n 1))) ∧ Below w.heap.size w w' := fun w => by
    have h := range_any n n hn hn w
    rw [show n + 1 - n = 1 by omega] at h
    exact h
  have hun : ∀ w, Calls Try.prog 21 #[vv (wf f), vv (wf (rangeF n 1))] w fun e w' => e = .returned (vv (wf fun b => f b || rangeF n 1 b)) ∧ Below w.heap.size w w' := fun w => union_any f (rangeF n 1) w
  have hco : ∀ w, Calls Try.prog 13 #[vv (wf (rangeF n 1))] w fun e w' => e = .returned (.int .i64 1) ∧ Below w.heap.size w w' := fun w => by
    have h := count_any (rangeF n 1) w
    rw [cnt_one, if_pos hn] at h
    exact h
  have hmt : ∀ w, Calls Try.prog 22 #[vv (wf fun b => f b || rangeF n 1 b), vv (wf (rangeF n 1))] w fun e w' => e = .returned (vv (wf (rangeF n 1))) ∧ Below w.heap.size w w' := fun w => by
    have h := meet_any (fun b => f b || rangeF n 1 b) (rangeF n 1) w
    rw [show (fun b => (f b || rangeF n 1 b) && rangeF n 1 b) = rangeF n 1 from funext fun b => by cases f b <;> cases rangeF n 1 b <;> rfl] at h
    exact h
  have hnu : ∀ w, Calls Try.prog 23 #[vv (wf f)] w fun e w' => e = .returned (vv (wf fun b => !f b)) ∧ Below w.heap.size w w' := fun w => not_any f w
  have hcu : ∀ w, Calls Try.prog 13 #[vv (wf f)] w fun e w' => e = .returned (.int .i64 (cntF f 256 : Nat)) ∧ Below w.heap.size w w' := fun w => count_any f w
  have h1 : Hs (wf fun b => f b || rangeF n 1 b) n true := ⟨_, n, hn, rfl, rfl, by simp [rng_self]⟩
  have hl1 := pr_len f
  have hl2 := pr_len (fun b => !f b)
  have s1 : (bs (pr f)).size = (pr f).length := rfl
  have s2 : (bs (pr fun b => !f b)).size = (pr fun b => !f b).length := rfl
  have hpos : ∀ g : Nat → Bool, 1 ≤ (pr g).length := fun g => by unfold pr; split <;> simp
  have hk : (cntF f 256 < 128 ∧ (bs (pr fun b => !f b)).size = (bs (pr f)).size + 1 ∧ bs [91, 94] ++ (bs (pr f)).extract 1 (bs (pr f)).size = bs (pr fun b => !f b)) ∨ (128 < cntF f 256 ∧ (bs (pr f)).size = (bs (pr fun b => !f b)).size + 1 ∧ bs [91, 94] ++ (bs (pr fun b => !f b)).extract 1 (bs (pr fun b => !f b)).size = bs (pr f)) ∨ cntF f 256 = 128 := by
    rcases Nat.lt_trichotomy (cntF f 256) 128 with h | h | h
    · left
      obtain ⟨a, b⟩ := pr_less f h
      rw [a, b]
      refine ⟨h, by simp [bsz], ?_⟩
      have ht := bs_tail 91 (txt (runsF f 256) ++ [93])
      rw [show [91] ++ (txt (runsF f 256) ++ [93]) = 91 :: (txt (runsF f 256) ++ [93]) from rfl, ht, bs_app]
    · exact .inr (.inr h)
    · right; left
      obtain ⟨a, b⟩ := pr_more f h
      rw [a, b]
      refine ⟨h, by simp [bsz], ?_⟩
      have ht := bs_tail 91 (txt (runsF (fun b => !f b) 256) ++ [93])
      rw [show [91] ++ (txt (runsF (fun b => !f b) 256) ++ [93]) = 91 :: (txt (runsF (fun b => !f b) 256) ++ [93]) from rfl, ht, bs_app]
  by_cases he : c = n
  · subst he
    exact one_eq (wf f) (wf (rangeF c 1)) (wf fun b => f b || rangeF c 1 b) (wf fun b => !f b) c (cntF f 256) (bs (pr f)) (bs (pr fun b => !f b)) (by omega) (by omega) (Lib.hid hrng) (Lib.hid hun) (Lib.hid hco) (Lib.hid hmt) Hs (Lib.hid hs_c) Pr (Lib.hid pr_c) (Lib.hid hnu) (Lib.hid hcu) h1 ⟨_, rfl, rfl⟩ ⟨_, rfl, rfl⟩ hk (by have := hpos f; omega) (by have := hpos (fun b => !f b); omega) w
  · exact one_ne (wf f) (wf (rangeF n 1)) (wf fun b => f b || rangeF n 1 b) (wf fun b => !f b) n c (f c) (cntF f 256) (bs (pr f)) (bs (pr fun b => !f b)) (by omega) (by omega) (Lib.hid hrng) (Lib.hid hun) (Lib.hid hco) (Lib.hid hmt) Hs (Lib.hid hs_c) Pr (Lib.hid pr_c) (Lib.hid hnu) (Lib.hid hcu) h1 ⟨_, rfl, rfl⟩ ⟨_, rfl, rfl⟩ (by rw [beq_eq_false_iff_ne]; omega) ⟨_, c, hc, rfl, rfl, by simp [rng_other n c he]⟩ ⟨f, c, hc, rfl, rfl, rfl⟩ hk (by have := hpos f; omega) (by have := hpos (fun b => !f b); omega) w
end Go.Proofs.Ytennflnfjjhgpaa
