/- SetsOf: the walk. -/
import Derived.Test.YtennflnfjjhgpaaProg
import Derived.Test.YtennflnfjjhgpaaVv
import Derived.WalkKit
import Derived.WalkLawsBesides
import Derived.WalkSpells
import Derived.Outline
import Derived.Lib.Walk
import Derived.Lib.Hide
import Derived.RegionTactic
import Derived.LoopTactic
import Derived.Below
import Derived.IntWalk
import Derived.Deep.RegionHeld3
import Derived.RegionCalls
import Derived.Deep.RegionWith
import Derived.Lib.Slices
namespace Go.Proofs.Ytennflnfjjhgpaa
set_option linter.unusedSimpArgs false
set_option linter.unusedVariables false
open Go.RowKit

set_option maxHeartbeats 8000000 in
set_option maxRecDepth 100000 in
theorem of_abs (u : Nat → Int) (m : ByteArray) (hm : m.size ≤ 256) (hme : Hid (∀ w, Calls Try.prog 15 #[vv u] w fun e w' => e = .returned (.string m) ∧ Below w.heap.size w w')) (hhas : Hid (∀ i (h : i < m.size) w, Calls Try.prog 12 #[vv u, .int .u8 (m[i]'h).toNat] w fun e w' => e = .returned (.bool true) ∧ Below w.heap.size w w'))
    (hri : Hid (∀ i (h : i + 1 < m.size), (m[i]'(by omega)).toNat < (m[i + 1]'h).toNat)) (hct : Hid (∀ w, Calls Try.prog 13 #[vv u] w fun e w' => e = .returned (.int .i64 (m.size : Nat)) ∧ Below w.heap.size w w')) (hof : Hid (∀ w, Calls Try.prog 17 #[.string m] w fun e w' => e = .returned (vv u) ∧ Below w.heap.size w w')) (w : World) :
    Calls Try.prog 9 #[vv u] w fun e w' => e = .returned (.bool true) ∧ Below w.heap.size w w' := by
  have S0 := Lib.hid ((Sb.start w).alloc (.cells (vc u) 24))
  have hal := Lib.hid alive_any
  have heq := eq24
  go_enter Try.func9, Try.ntmps9
  go_wp2_with fail
  refine (hme.out _).mono ?_
  rintro _ w1 ⟨rfl, hb⟩
  have HS1 := Lib.hid (S0.out.up hb)
  clear hb S0
  go_wp2
  go_loopw [4] (fun i wr => ∃ k : Nat, k ≤ m.size ∧ i = .int .i64 k ∧ Sb w wr [(w.heap.size, .cells (vc u) 24)]) (fun i _ => m.size - (intOf i).toNat)
  case atStart => exact ⟨0, by omega, rfl, HS1.out⟩
  case round =>
    obtain ⟨i, hi, rfl, hS⟩ := hrel
    have HS := Lib.hid hS
    clear hS HS1
    by_cases hlt : i < m.size
    · have hlt' : (i : Int) < (m.size : Int) := by omega
      have hh := Lib.hid (hhas.out i hlt)
      have j0 : (0 : Int) ≤ (i : Int) := by omega
      by_cases h0 : 0 < i
      · obtain ⟨j, hj⟩ : ∃ j, i = j + 1 := ⟨i - 1, by omega⟩
        have hjs : j < m.size := by omega
        have hjs' : (j : Int) < (m.size : Int) := by omega
        have j1 : (0 : Int) ≤ (j : Int) := by omega
        have hgt : (0 : Int) < (i : Int) := by omega
        have hgd : decide ((0 : Int) < (i : Int)) = true := by simpa using hgt
        have hgd2 : decide (0 < i) = true := by simpa using h0
        have hgt2 : 0 < i := h0
        have hri2 : ¬ (m[i]'hlt).toNat ≤ (m[j]'hjs).toNat := by subst hj; have := hri.out j hlt; omega
        have hri3 : ¬ ((m[i]'hlt).toNat : Int) ≤ ((m[j]'hjs).toNat : Int) := by omega
        have hsub : IntKind.i64.wrap ((i : Int) - 1) = (j : Int) := by rw [IntWalk.i64_in _ (by omega)]; omega
        have HJ := Lib.hid hj
        clear hj h0
        go_wp2_with fail
        first
        | (
          go_region_held3 (fun w' => w'.cell? ⟨w.heap.size, 0, none⟩ = some (.int .u64 (u 0)) ∧ w'.cell? ⟨w.heap.size, 1, none⟩ = some (.int .u64 (u 1)) ∧ w'.cell? ⟨w.heap.size, 2, none⟩ = some (.int .u64 (u 2)) ∧ w'.cell? ⟨w.heap.size, 3, none⟩ = some (.int .u64 (u 3)) ∧ w.heap.size < w'.heap.size ∧ Sb w w' [(w.heap.size, .cells (vc u) 24)])
            (first | assumption | exact mv1 HS.out.drew | exact mv1 HS.out | exact kv1 (by assumption) hb | exact kv1 (by assumption) ((Below.refl _ _).alloc (Nat.le_refl _) _))
            (first | (go_at_call 12; refine (hh.out _).mono ?_; rintro _ w' ⟨rfl, hb⟩))
          )
        | fail
        all_goals
          (have HS2 := Lib.hid (uv1 (by assumption))
           clear hb
           go_wp2
           go_roundw
           case rel => exact ⟨i + 1, by omega, by go_num, HS2.out⟩
           case measure => simp [intOf]; omega)
      · have hgt : ¬ (0 : Int) < (i : Int) := by omega
        have hgd : decide ((0 : Int) < (i : Int)) = false := by simpa using hgt
        have hgd2 : decide (0 < i) = false := by simpa using h0
        clear h0
        go_wp2_with fail
        refine wp_region_held_drew (S := fun w' => w'.cell? ⟨w.heap.size, 0, none⟩ = some (.int .u64 (u 0)) ∧ w'.cell? ⟨w.heap.size, 1, none⟩ = some (.int .u64 (u 1)) ∧ w'.cell? ⟨w.heap.size, 2, none⟩ = some (.int .u64 (u 2)) ∧ w'.cell? ⟨w.heap.size, 3, none⟩ = some (.int .u64 (u 3)) ∧ w.heap.size < w'.heap.size ∧ Sb w w' [(w.heap.size, .cells (vc u) 24)]) (by kernel_rfl) (mv1 HS.out.drew) (fun hHeld => ?_)
        refine wpAnyH_take (i := 0) (v := .agg #[.int .u64 (u 0), .int .u64 (u 1), .int .u64 (u 2), .int .u64 (u 3)]) rfl (by kernel_rfl) (by kernel_rfl) (by kernel_rfl) (fun _ _ _ h => h) (Or.inl ⟨by rfl, by (intro w hSw; (try dsimp only at hSw); go_simp)⟩) (by assumption) ?_
        (try simp only [Act.put, List.getElem_toArray, List.getElem_cons_zero, List.getElem_cons_succ, List.setIfInBounds_toArray, List.set_cons_zero, List.set_cons_succ])
        refine wpAnyH_take (i := 1) (v := .string m) rfl (by kernel_rfl) (by kernel_rfl) (by kernel_rfl) (fun _ _ _ h => h) (Or.inl ⟨by rfl, by (intro w hSw; (try dsimp only at hSw); go_simp)⟩) (by assumption) ?_
        (try simp only [Act.put, List.getElem_toArray, List.getElem_cons_zero, List.getElem_cons_succ, List.setIfInBounds_toArray, List.set_cons_zero, List.set_cons_succ])
        refine wpAnyH_take (i := 2) (v := .int .i64 i) rfl (by kernel_rfl) (by kernel_rfl) (by kernel_rfl) (fun _ _ _ h => h) (Or.inl ⟨by rfl, by (intro w hSw; (try dsimp only at hSw); go_simp)⟩) (by assumption) ?_
        (try simp only [Act.put, List.getElem_toArray, List.getElem_cons_zero, List.getElem_cons_succ, List.setIfInBounds_toArray, List.set_cons_zero, List.set_cons_succ])
        refine wpAnyH_take (i := 3) (v := .int .u8 (m[i]'hlt).toNat) rfl (by kernel_rfl) (by kernel_rfl) (by kernel_rfl) (fun _ _ _ h => h) (Or.inl ⟨by rfl, by (intro w hSw; (try dsimp only at hSw); go_simp)⟩) (by assumption) ?_
        (try simp only [Act.put, List.getElem_toArray, List.getElem_cons_zero, List.getElem_cons_succ, List.setIfInBounds_toArray, List.set_cons_zero, List.set_cons_succ])
        refine wpAnyH_ready (rs := [4]) (by kernel_rfl) (by simp) ?_
        refine AllReadyH.cons rfl (fun K hK => ?_) (AllReadyH.nil)
        rw [if_pos (by rfl)]
        go_wp2_with fail
        refine (hh.out _).mono ?_
        rintro _ w' ⟨rfl, hb⟩
        refine hK.out _ _ (kv1 (by assumption) hb) (fun hHeld2 => ?_)
        clear hHeld hb hK
        have hHeld := hHeld2
        (try simp only [Act.put, List.getElem_toArray, List.getElem_cons_zero, List.getElem_cons_succ, List.setIfInBounds_toArray, List.set_cons_zero, List.set_cons_succ])
        refine wpAnyH_take (i := 5) (v := .bool false) rfl (by kernel_rfl) (by kernel_rfl) (by kernel_rfl) (fun _ _ _ h => h) (Or.inl ⟨by rfl, by (intro w hSw; (try dsimp only at hSw); go_simp)⟩) (by assumption) ?_
        (try simp only [Act.put, List.getElem_toArray, List.getElem_cons_zero, List.getElem_cons_succ, List.setIfInBounds_toArray, List.set_cons_zero, List.set_cons_succ])
        refine wpAnyH_take (i := 6) (v := .bool false) rfl (by kernel_rfl) (by kernel_rfl) (by kernel_rfl) (fun _ _ _ h => h) (Or.inl ⟨by rfl, by (intro w hSw; (try dsimp only at hSw); go_simp)⟩) (by assumption) ?_
        (try simp only [Act.put, List.getElem_toArray, List.getElem_cons_zero, List.getElem_cons_succ, List.setIfInBounds_toArray, List.set_cons_zero, List.set_cons_succ])
        refine wpAnyH_take (i := 7) (v := .int .i64 i) rfl (by kernel_rfl) (by kernel_rfl) (by kernel_rfl) (fun _ _ _ h => h) (Or.inl ⟨by rfl, by (intro w hSw; (try dsimp only at hSw); go_simp)⟩) (by assumption) ?_
        (try simp only [Act.put, List.getElem_toArray, List.getElem_cons_zero, List.getElem_cons_succ, List.setIfInBounds_toArray, List.set_cons_zero, List.set_cons_succ])
        refine wpAnyH_take (i := 8) (v := .bool false) rfl (by kernel_rfl) (by kernel_rfl) (by kernel_rfl) (fun _ _ _ h => h) (Or.inl ⟨by rfl, by (intro w hSw; (try dsimp only at hSw); go_simp)⟩) (by assumption) ?_
        (try simp only [Act.put, List.getElem_toArray, List.getElem_cons_zero, List.getElem_cons_succ, List.setIfInBounds_toArray, List.set_cons_zero, List.set_cons_succ])
        refine wpAnyH_take (i := 9) (v := .bool false) rfl (by kernel_rfl) (by kernel_rfl) (by kernel_rfl) (fun _ _ _ h => h) (Or.inl ⟨by rfl, by (intro w hSw; (try dsimp only at hSw); go_simp)⟩) (by assumption) ?_
        (try simp only [Act.put, List.getElem_toArray, List.getElem_cons_zero, List.getElem_cons_succ, List.setIfInBounds_toArray, List.set_cons_zero, List.set_cons_succ])
        refine wpAnyH_take (i := 10) (v := undef) rfl (by kernel_rfl) (by kernel_rfl) (by kernel_rfl) (fun _ _ _ h => h) (Or.inr ⟨by rfl, rfl⟩) (by assumption) ?_
        (try simp only [Act.put, List.getElem_toArray, List.getElem_cons_zero, List.getElem_cons_succ, List.setIfInBounds_toArray, List.set_cons_zero, List.set_cons_succ])
        refine wpAnyH_take (i := 11) (v := undef) rfl (by kernel_rfl) (by kernel_rfl) (by kernel_rfl) (fun _ _ _ h => h) (Or.inr ⟨by rfl, rfl⟩) (by assumption) ?_
        (try simp only [Act.put, List.getElem_toArray, List.getElem_cons_zero, List.getElem_cons_succ, List.setIfInBounds_toArray, List.set_cons_zero, List.set_cons_succ])
        refine wpAnyH_take (i := 12) (v := undef) rfl (by kernel_rfl) (by kernel_rfl) (by kernel_rfl) (fun _ _ _ h => h) (Or.inr ⟨by rfl, rfl⟩) (by assumption) ?_
        (try simp only [Act.put, List.getElem_toArray, List.getElem_cons_zero, List.getElem_cons_succ, List.setIfInBounds_toArray, List.set_cons_zero, List.set_cons_succ])
        refine wpAnyH_take (i := 13) (v := undef) rfl (by kernel_rfl) (by kernel_rfl) (by kernel_rfl) (fun _ _ _ h => h) (Or.inr ⟨by rfl, rfl⟩) (by assumption) ?_
        (try simp only [Act.put, List.getElem_toArray, List.getElem_cons_zero, List.getElem_cons_succ, List.setIfInBounds_toArray, List.set_cons_zero, List.set_cons_succ])
        refine wpAnyH_take (i := 14) (v := undef) rfl (by kernel_rfl) (by kernel_rfl) (by kernel_rfl) (fun _ _ _ h => h) (Or.inr ⟨by rfl, rfl⟩) (by assumption) ?_
        (try simp only [Act.put, List.getElem_toArray, List.getElem_cons_zero, List.getElem_cons_succ, List.setIfInBounds_toArray, List.set_cons_zero, List.set_cons_succ])
        refine wpAnyH_take (i := 15) (v := undef) rfl (by kernel_rfl) (by kernel_rfl) (by kernel_rfl) (fun _ _ _ h => h) (Or.inr ⟨by rfl, rfl⟩) (by assumption) ?_
        (try simp only [Act.put, List.getElem_toArray, List.getElem_cons_zero, List.getElem_cons_succ, List.setIfInBounds_toArray, List.set_cons_zero, List.set_cons_succ])
        refine wpAnyH_take (i := 16) (v := undef) rfl (by kernel_rfl) (by kernel_rfl) (by kernel_rfl) (fun _ _ _ h => h) (Or.inr ⟨by rfl, rfl⟩) (by assumption) ?_
        (try simp only [Act.put, List.getElem_toArray, List.getElem_cons_zero, List.getElem_cons_succ, List.setIfInBounds_toArray, List.set_cons_zero, List.set_cons_succ])
        refine wpAnyH_take (i := 17) (v := undef) rfl (by kernel_rfl) (by kernel_rfl) (by kernel_rfl) (fun _ _ _ h => h) (Or.inr ⟨by rfl, rfl⟩) (by assumption) ?_
        (try simp only [Act.put, List.getElem_toArray, List.getElem_cons_zero, List.getElem_cons_succ, List.setIfInBounds_toArray, List.set_cons_zero, List.set_cons_succ])
        refine wpAnyH_take (i := 18) (v := .bool false) rfl (by kernel_rfl) (by kernel_rfl) (by kernel_rfl) (fun _ _ _ h => h) (Or.inl ⟨by rfl, by (intro w hSw; (try dsimp only at hSw); go_simp)⟩) (by assumption) ?_
        (try simp only [Act.put, List.getElem_toArray, List.getElem_cons_zero, List.getElem_cons_succ, List.setIfInBounds_toArray, List.set_cons_zero, List.set_cons_succ])
        refine wpAnyH_take (i := 19) (v := .bool false) rfl (by kernel_rfl) (by kernel_rfl) (by kernel_rfl) (fun _ _ _ h => h) (Or.inl ⟨by rfl, by (intro w hSw; (try dsimp only at hSw); go_simp)⟩) (by assumption) ?_
        (try simp only [Act.put, List.getElem_toArray, List.getElem_cons_zero, List.getElem_cons_succ, List.setIfInBounds_toArray, List.set_cons_zero, List.set_cons_succ])
        refine wpAnyH_done (by kernel_rfl) ?_ _
        have HS2 := Lib.hid (uv1 (by assumption))
        go_wp2
        go_roundw
        case rel => exact ⟨i + 1, by omega, by go_num, HS2.out⟩
        case measure => simp [intOf]; omega
    · obtain rfl : i = m.size := by omega
      clear hlt hi
      go_wp2_with fail
      go_region_held3 (fun w' => w'.cell? ⟨w.heap.size, 0, none⟩ = some (.int .u64 (u 0)) ∧ w'.cell? ⟨w.heap.size, 1, none⟩ = some (.int .u64 (u 1)) ∧ w'.cell? ⟨w.heap.size, 2, none⟩ = some (.int .u64 (u 2)) ∧ w'.cell? ⟨w.heap.size, 3, none⟩ = some (.int .u64 (u 3)) ∧ w.heap.size < w'.heap.size ∧ Sb w w' [(w.heap.size, .cells (vc u) 24)])
        (first | assumption | exact mv1 HS.out.drew | exact mv1 HS.out | exact kv1 (by assumption) hb | exact kv1 (by assumption) ((Below.refl _ _).alloc (Nat.le_refl _) _))
        (first | (go_at_call 13; refine (hct.out _).mono ?_; rintro _ w' ⟨rfl, hb⟩) | (go_at_call 17; refine (hof.out _).mono ?_; rintro _ w' ⟨rfl, hb⟩) | (go_at_call 20; refine (hal.out _).mono ?_; rintro _ w' ⟨rfl, hb⟩))
      have HS2 := Lib.hid (uv1 (by assumption))
      clear hb HS
      rename_i hh
      clear hh
      go_wp2
      go_ret
      exact ⟨rfl, HS2.out.1⟩
theorem mem_lt (f : Nat → Bool) : ∀ k, k ≤ 256 → ∀ c ∈ mem f k, f c.toNat = true ∧ c.toNat < k
  | 0, _ => by simp [mem]
  | k + 1, hk => by
    have ih := mem_lt f k (by omega)
    intro c hc
    simp only [mem] at hc
    cases hf : f k
    · rw [hf] at hc; have := ih c (by simpa using hc); exact ⟨this.1, by omega⟩
    · rw [hf] at hc
      simp only [if_true] at hc
      rcases List.mem_append.1 hc with h | h
      · have := ih c h; exact ⟨this.1, by omega⟩
      · simp only [List.mem_cons, List.not_mem_nil, or_false] at h
        rw [h, ofNat_toNat k (by omega)]; exact ⟨hf, by omega⟩
theorem mem_rise (f : Nat → Bool) : ∀ k, k ≤ 256 → (mem f k).Pairwise fun a b => a.toNat < b.toNat
  | 0, _ => by simp [mem]
  | k + 1, hk => by
    have ih := mem_rise f k (by omega)
    simp only [mem]
    cases hf : f k
    · simpa using ih
    · simp only [if_true]
      rw [List.pairwise_append]
      refine ⟨ih, by simp, fun a ha b hb => ?_⟩
      simp only [List.mem_cons, List.not_mem_nil, or_false] at hb
      have := (mem_lt f k (by omega) a ha).2
      rw [hb, ofNat_toNat k (by omega)]; exact this
theorem mem_has (f : Nat → Bool) : ∀ k n, k ≤ 256 → ofL (mem f k) n = (decide (n < k) && f n)
  | 0, n, _ => by simp [mem, ofL]
  | k + 1, n, hk => by
    have ih := mem_has f k n (by omega)
    simp only [mem]
    cases hf : f k
    · simp only [Bool.false_eq_true, if_false]
      rw [ih]
      by_cases hn : n = k
      · subst hn; simp [hf]
      · rw [show decide (n < k + 1) = decide (n < k) by rw [decide_eq_decide]; omega]
    · simp only [if_true]
      rw [ofL_snoc]
      simp only [ih, ofNat_toNat k (by omega : k < 256)]
      by_cases hn : n = k
      · subst hn; simp [hf]
      · rw [show decide (n < k + 1) = decide (n < k) by rw [decide_eq_decide]; omega, show (n == k) = false by rw [beq_eq_false_iff_ne]; exact hn, Bool.or_false]
theorem law_of (f : Nat → Bool) (w : World) : Calls Try.prog 9 #[setV f] w fun e w' => e = .returned (.bool true) ∧ Below w.heap.size w w' := by
  have hl : (bs (mem f 256)).size = (mem f 256).length := rfl
  have hc := mem_len f 256
  have hle := cnt_le f 256
  refine of_abs (wf f) (bs (mem f 256)) (by rw [hl]; omega) (Lib.hid (members_any f)) (Lib.hid fun i h w => ?_) (Lib.hid fun i h => ?_) (Lib.hid fun w => ?_) (Lib.hid fun w => ?_) w
  · have hi : i < (mem f 256).length := h
    have h1 := mem_lt f 256 (Nat.le_refl _) _ (List.getElem_mem hi)
    have h2 := has_any f ((mem f 256)[i]).toNat h1.2 w
    rw [h1.1] at h2
    exact h2
  · exact (List.pairwise_iff_getElem.1 (mem_rise f 256 (Nat.le_refl _))) i (i + 1) (by have : i + 1 < (mem f 256).length := h; omega) h (by omega)
  · have h2 := count_any f w
    rw [← hc] at h2
    exact h2
  · have h2 := of_any (bs (mem f 256)) (by rw [hl]; omega) w
    rw [setV_congr (g := f) (fun k hk => by show ofL (mem f 256) k = f k; rw [mem_has f 256 k (Nat.le_refl _)]; simp [hk])] at h2
    exact h2
end Go.Proofs.Ytennflnfjjhgpaa
