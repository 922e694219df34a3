/- What the document's Long, Check, Upright, At, Apply answer: the same plain answers. -/
import Derived.Test.YtejllankcgcclaaAt
namespace Go.Proofs.Ytejllankcgcclaa
open Go.RowKit
set_option linter.unusedVariables false

theorem long_any (t : ByteArray) (w : World) : Calls Try.prog 31 #[.string t] w fun x w' => x = .returned (.bool (decide (65536 < (t.size : Int)))) ∧ w = w' := by
  go_enter Try.func31, Try.ntmps31
  go_wp2
  go_ret
  exact ⟨rfl, rfl⟩
theorem long_is (t : ByteArray) (w : World) (b : Bool) (h : decide (65536 < (t.size : Int)) = b) : Calls Try.prog 31 #[.string t] w fun x w' => x = .returned (.bool b) ∧ w = w' := by rw [← h]; exact long_any t w

theorem rcheck_any (n s e : Int) (t : ByteArray) (w : World) (ht : t.size ≤ 9223372036854775807) :
    Calls Try.prog 15 #[.int .i64 n, ed s e t] w fun x w' => x = .returned (.int .i64 (checkZ n s e t)) ∧ Below w.heap.size w w' := by
  by_cases h1 : n < 0
  · have hz : checkZ n s e t = 2 := by simp [checkZ, h1]
    rw [hz]
    go_enter Try.func15, Try.ntmps15
    go_wp2
    go_ret
    exact ⟨rfl, (Below.refl _ _).alloc (Nat.le_refl _) _⟩
  by_cases h2 : 65536 < n
  · have hz : checkZ n s e t = 2 := by simp [checkZ, h2]
    rw [hz]
    go_enter Try.func15, Try.ntmps15
    go_wp2
    go_ret
    exact ⟨rfl, (Below.refl _ _).alloc (Nat.le_refl _) _⟩
  by_cases b1 : s < 0
  · have hz : checkZ n s e t = 10 := by unfold checkZ; rw [if_neg (by omega), if_pos (by simp [withinB]; omega)]
    rw [hz]
    go_enter Try.func15, Try.ntmps15
    go_wp2
    go_ret
    exact ⟨rfl, (Below.refl _ _).alloc (Nat.le_refl _) _⟩
  by_cases b2 : e < s
  · have hz : checkZ n s e t = 10 := by unfold checkZ; rw [if_neg (by omega), if_pos (by simp [withinB]; omega)]
    rw [hz]
    go_enter Try.func15, Try.ntmps15
    go_wp2
    go_ret
    exact ⟨rfl, (Below.refl _ _).alloc (Nat.le_refl _) _⟩
  by_cases b3 : n < e
  · have hz : checkZ n s e t = 10 := by unfold checkZ; rw [if_neg (by omega), if_pos (by simp [withinB]; omega)]
    rw [hz]
    go_enter Try.func15, Try.ntmps15
    go_wp2
    go_ret
    exact ⟨rfl, (Below.refl _ _).alloc (Nat.le_refl _) _⟩
  have h3 : withinB s e n = true := by simp [withinB]; omega
  cases hl : decide (65536 < (t.size : Int))
  · have hl2 : (t.size : Int) ≤ 65536 := by simp at hl; omega
    have hl' := Lib.hid hl; clear hl
    by_cases h4 : 65536 - (n - (e - s)) < (t.size : Int)
    · have hz : checkZ n s e t = 3 := by unfold checkZ; rw [if_neg (by omega), if_neg (by simp [h3]), if_pos h4]
      rw [hz]
      clear h3
      go_enter Try.func15, Try.ntmps15
      go_wp2_with (go_at_call 31; refine (long_is _ _ _ hl'.out).mono ?_; rintro e w' ⟨rfl, rfl⟩)
      go_ret
      exact ⟨rfl, (Below.refl _ _).alloc (Nat.le_refl _) _⟩
    · have hz : checkZ n s e t = 0 := by unfold checkZ; rw [if_neg (by omega), if_neg (by simp [h3]), if_neg h4]
      rw [hz]
      clear h3
      go_enter Try.func15, Try.ntmps15
      go_wp2_with (go_at_call 31; refine (long_is _ _ _ hl'.out).mono ?_; rintro e w' ⟨rfl, rfl⟩)
      go_ret
      exact ⟨rfl, (Below.refl _ _).alloc (Nat.le_refl _) _⟩
  · have hl2 : 65536 < (t.size : Int) := by simp at hl; omega
    have hl' := Lib.hid hl; clear hl
    have hz : checkZ n s e t = 3 := by unfold checkZ; rw [if_neg (by omega), if_neg (by simp [h3]), if_pos (by omega)]
    rw [hz]
    clear h3
    go_enter Try.func15, Try.ntmps15
    go_wp2_with (go_at_call 31; refine (long_is _ _ _ hl'.out).mono ?_; rintro e w' ⟨rfl, rfl⟩)
    go_ret
    exact ⟨rfl, (Below.refl _ _).alloc (Nat.le_refl _) _⟩

theorem rupright_any (s e : Int) (t : ByteArray) (w : World) :
    Calls Try.prog 39 #[ed s e t] w fun x w' => x = .returned (.bool (upB s e t)) ∧ Below w.heap.size w w' := by
  by_cases b1 : s < 0
  · have hz : upB s e t = false := by simp [upB, withinB]; omega
    rw [hz]
    go_enter Try.func39, Try.ntmps39
    go_wp2
    go_ret
    exact ⟨rfl, (Below.refl _ _).alloc (Nat.le_refl _) _⟩
  by_cases b2 : e < s
  · have hz : upB s e t = false := by simp [upB, withinB]; omega
    rw [hz]
    go_enter Try.func39, Try.ntmps39
    go_wp2
    go_ret
    exact ⟨rfl, (Below.refl _ _).alloc (Nat.le_refl _) _⟩
  by_cases b3 : 65536 < e
  · have hz : upB s e t = false := by simp [upB, withinB]; omega
    rw [hz]
    go_enter Try.func39, Try.ntmps39
    go_wp2
    go_ret
    exact ⟨rfl, (Below.refl _ _).alloc (Nat.le_refl _) _⟩
  cases hl : decide (65536 < (t.size : Int))
  · have hz : upB s e t = true := by simp [upB, withinB]; simp at hl; omega
    rw [hz]
    have hl' := Lib.hid hl; clear hl
    go_enter Try.func39, Try.ntmps39
    go_wp2_with (go_at_call 31; refine (long_is _ _ _ hl'.out).mono ?_; rintro e w' ⟨rfl, rfl⟩)
    go_ret
    exact ⟨rfl, (Below.refl _ _).alloc (Nat.le_refl _) _⟩
  · have hz : upB s e t = false := by simp [upB, withinB]; simp at hl; omega
    rw [hz]
    have hl' := Lib.hid hl; clear hl
    go_enter Try.func39, Try.ntmps39
    go_wp2_with (go_at_call 31; refine (long_is _ _ _ hl'.out).mono ?_; rintro e w' ⟨rfl, rfl⟩)
    go_ret
    exact ⟨rfl, (Below.refl _ _).alloc (Nat.le_refl _) _⟩
theorem rupright_is (s e : Int) (t : ByteArray) (w : World) (b : Bool) (h : upB s e t = b) :
    Calls Try.prog 39 #[ed s e t] w fun x w' => x = .returned (.bool b) ∧ Below w.heap.size w w' := by rw [← h]; exact rupright_any s e t w

theorem rat_any (s e : Int) (t : ByteArray) (k : Int) (w : World) (ht : t.size ≤ 9223372036854775807) :
    Calls Try.prog 25 #[ed s e t, .int .i64 k] w fun x w' => x = .returned (.int .i64 (atZ s e t k)) ∧ Below w.heap.size w w' := by
  cases hu : upB s e t
  · have hz : atZ s e t k = 0 := by simp [atZ, hu]
    rw [hz]
    have hu' := Lib.hid hu; clear hu
    go_enter Try.func25, Try.ntmps25
    go_wp2_with (go_at_call 39; refine (rupright_is _ _ _ _ _ hu'.out).mono ?_; rintro e w' ⟨rfl, hb⟩)
    go_ret
    exact ⟨rfl, ((Below.refl _ _).alloc (Nat.le_refl _) _).trans (hb.mono (by simp))⟩
  have hb : 0 ≤ s ∧ s ≤ e ∧ e ≤ 65536 ∧ t.size ≤ 65536 := by simp [upB, withinB] at hu; omega
  obtain ⟨b1, b2, b3, b4⟩ := hb
  have hu' := Lib.hid hu
  by_cases k1 : k < 0
  · have hz : atZ s e t k = 0 := by unfold atZ; rw [if_pos (by omega)]
    rw [hz]
    clear hu
    go_enter Try.func25, Try.ntmps25
    go_wp2_with (go_at_call 39; refine (rupright_is _ _ _ _ _ hu'.out).mono ?_; rintro e w' ⟨rfl, hb⟩)
    go_ret
    exact ⟨rfl, ((Below.refl _ _).alloc (Nat.le_refl _) _).trans (hb.mono (by simp))⟩
  by_cases k2 : 65536 < k
  · have hz : atZ s e t k = 0 := by unfold atZ; rw [if_pos (by omega)]
    rw [hz]
    clear hu
    go_enter Try.func25, Try.ntmps25
    go_wp2_with (go_at_call 39; refine (rupright_is _ _ _ _ _ hu'.out).mono ?_; rintro e w' ⟨rfl, hb⟩)
    go_ret
    exact ⟨rfl, ((Below.refl _ _).alloc (Nat.le_refl _) _).trans (hb.mono (by simp))⟩
  have hz : atZ s e t k = if k ≤ s then k else if e ≤ k then k - (e - s) + t.size else s + min (k - s) t.size := by
    unfold atZ; rw [if_neg (by simp [hu]; omega)]
  clear hu
  by_cases c1 : k ≤ s
  · rw [if_pos c1] at hz
    rw [hz]
    clear hz
    go_enter Try.func25, Try.ntmps25
    go_wp2_with fail
    refine (rupright_is _ _ _ _ _ hu'.out).mono ?_
    rintro _ w1 ⟨rfl, hb1⟩
    have E1 := Lib.hid ((EdAt.new w s e t).below hb1 (by simp))
    have hc0 := E1.out.1
    go_wp2
    go_ret
    exact ⟨rfl, ((Below.refl _ _).alloc (Nat.le_refl _) _).trans (hb1.mono (by simp))⟩
  rw [if_neg c1] at hz
  by_cases c2 : e ≤ k
  · rw [if_pos c2] at hz
    rw [hz]
    clear hz
    go_enter Try.func25, Try.ntmps25
    go_wp2_with fail
    refine (rupright_is _ _ _ _ _ hu'.out).mono ?_
    rintro _ w1 ⟨rfl, hb1⟩
    have E1 := Lib.hid ((EdAt.new w s e t).below hb1 (by simp))
    have hc0 := E1.out.1
    have hc1 := E1.out.2.1
    have hc2 := E1.out.2.2.1
    go_wp2
    go_ret
    exact ⟨rfl, ((Below.refl _ _).alloc (Nat.le_refl _) _).trans (hb1.mono (by simp))⟩
  rw [if_neg c2] at hz
  by_cases c3 : k - s < t.size
  · have hz2 : atZ s e t k = k := by rw [hz]; omega
    rw [hz2]
    clear hz hz2
    go_enter Try.func25, Try.ntmps25
    go_wp2_with fail
    refine (rupright_is _ _ _ _ _ hu'.out).mono ?_
    rintro _ w1 ⟨rfl, hb1⟩
    have E1 := Lib.hid ((EdAt.new w s e t).below hb1 (by simp))
    have hc0 := E1.out.1
    have hc1 := E1.out.2.1
    have hc2 := E1.out.2.2.1
    go_wp2
    go_ret
    exact ⟨rfl, ((Below.refl _ _).alloc (Nat.le_refl _) _).trans (hb1.mono (by simp))⟩
  · have hz2 : atZ s e t k = s + t.size := by rw [hz]; omega
    rw [hz2]
    clear hz hz2
    go_enter Try.func25, Try.ntmps25
    go_wp2_with fail
    refine (rupright_is _ _ _ _ _ hu'.out).mono ?_
    rintro _ w1 ⟨rfl, hb1⟩
    have E1 := Lib.hid ((EdAt.new w s e t).below hb1 (by simp))
    have hc0 := E1.out.1
    have hc1 := E1.out.2.1
    have hc2 := E1.out.2.2.1
    go_wp2
    go_ret
    exact ⟨rfl, ((Below.refl _ _).alloc (Nat.le_refl _) _).trans (hb1.mono (by simp))⟩
end Go.Proofs.Ytejllankcgcclaa
