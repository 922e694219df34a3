/- What At answers: the program's and the document's. -/
import Derived.Test.YtejllankcgcclaaApply
namespace Go.Proofs.Ytejllankcgcclaa
open Go.RowKit
set_option linter.unusedVariables false

def upB (s e : Int) (t : ByteArray) : Bool := withinB s e 65536 && decide (t.size ≤ 65536)
def atZ (s e : Int) (t : ByteArray) (k : Int) : Int :=
  if upB s e t = false ∨ ¬ (0 ≤ k ∧ k ≤ 65536) then 0 else if k ≤ s then k else if e ≤ k then k - (e - s) + t.size else s + min (k - s) t.size

theorem ret_bool {a b : Bool} (h : a = b) : Ending.returned (.bool a) = .returned (.bool b) := by rw [h]
theorem ret_int {k : IntKind} {a b : Int} (h : a = b) : Ending.returned (.int k a) = .returned (.int k b) := by rw [h]

theorem upright_any (s e : Int) (t : ByteArray) (w : World) (ht : t.size ≤ 9223372036854775807) :
    Calls Try.prog 37 #[ed s e t] w fun x w' => x = .returned (.bool (upB s e t)) ∧ Below w.heap.size w w' := by
  cases h1 : withinB s e 65536
  · have hz : upB s e t = false := by simp [upB, h1]
    rw [hz]
    have h1' := Lib.hid h1; clear h1
    go_enter Try.func37, Try.ntmps37
    go_wp2_with (go_at_call 30; refine (within_no _ _ _ _ h1'.out).mono ?_; rintro e w' ⟨rfl, rfl⟩)
    go_ret
    exact ⟨rfl, (Below.refl _ _).alloc (Nat.le_refl _) _⟩
  · by_cases h2 : t.size ≤ 65536
    · have hz : upB s e t = true := by simp [upB, h1]; omega
      rw [hz]
      have h1' := Lib.hid h1; clear h1
      go_enter Try.func37, Try.ntmps37
      go_wp2_with (go_at_call 30; refine (within_yes _ _ _ _ h1'.out).mono ?_; rintro e w' ⟨rfl, rfl⟩)
      go_ret
      exact ⟨ret_bool (decide_eq_true (by omega)), (Below.refl _ _).alloc (Nat.le_refl _) _⟩
    · have hz : upB s e t = false := by simp [upB]; omega
      rw [hz]
      have h1' := Lib.hid h1; clear h1
      go_enter Try.func37, Try.ntmps37
      go_wp2_with (go_at_call 30; refine (within_yes _ _ _ _ h1'.out).mono ?_; rintro e w' ⟨rfl, rfl⟩)
      go_ret
      exact ⟨ret_bool (decide_eq_false (by omega)), (Below.refl _ _).alloc (Nat.le_refl _) _⟩

theorem upright_is (s e : Int) (t : ByteArray) (w : World) (ht : t.size ≤ 9223372036854775807) (b : Bool) (h : upB s e t = b) :
    Calls Try.prog 37 #[ed s e t] w fun x w' => x = .returned (.bool b) ∧ Below w.heap.size w w' := by rw [← h]; exact upright_any s e t w ht
theorem offset_is (a : Int) (w : World) (b : Bool) (h : decide (0 ≤ a ∧ a ≤ 65536) = b) : Calls Try.prog 38 #[.int .i64 a] w fun x w' => x = .returned (.bool b) ∧ w = w' := by rw [← h]; exact offset_any a w

theorem at_any (s e : Int) (t : ByteArray) (k : Int) (w : World) (ht : t.size ≤ 9223372036854775807) :
    Calls Try.prog 24 #[ed s e t, .int .i64 k] w fun x w' => x = .returned (.int .i64 (atZ s e t k)) ∧ Below w.heap.size w w' := by
  cases hu : upB s e t
  · have hz : atZ s e t k = 0 := by simp [atZ, hu]
    rw [hz]
    have hu' := Lib.hid hu; clear hu
    go_enter Try.func24, Try.ntmps24
    go_wp2_with (go_at_call 37; refine (upright_is _ _ _ _ ht _ hu'.out).mono ?_; rintro e w' ⟨rfl, hb⟩)
    go_ret
    exact ⟨rfl, ((Below.refl _ _).alloc (Nat.le_refl _) _).trans (hb.mono (by simp))⟩
  · have hb : 0 ≤ s ∧ s ≤ e ∧ e ≤ 65536 ∧ t.size ≤ 65536 := by simp [upB, withinB] at hu; omega
    obtain ⟨b1, b2, b3, b4⟩ := hb
    have hu' := Lib.hid hu
    cases hk : decide (0 ≤ k ∧ k ≤ 65536)
    · have hz : atZ s e t k = 0 := by unfold atZ; rw [if_pos (by simp at hk; omega)]
      rw [hz]
      have hk' := Lib.hid hk; clear hk hu
      go_enter Try.func24, Try.ntmps24
      go_wp2_with (first | (go_at_call 37; refine (upright_is _ _ _ _ ht _ hu'.out).mono ?_; rintro e w' ⟨rfl, hb⟩) | (go_at_call 38; refine (offset_is _ _ _ hk'.out).mono ?_; rintro e w' ⟨rfl, rfl⟩))
      go_ret
      exact ⟨rfl, ((Below.refl _ _).alloc (Nat.le_refl _) _).trans (hb.mono (by simp))⟩
    · have hkb : 0 ≤ k ∧ k ≤ 65536 := by simpa using hk
      have hk' := Lib.hid hk; clear hk
      have hz : atZ s e t k = if k ≤ s then k else if e ≤ k then k - (e - s) + t.size else s + min (k - s) t.size := by
        unfold atZ; rw [if_neg (by simp [hu]; omega)]
      clear hu
      obtain ⟨hk1, hk2⟩ := hkb
      by_cases c1 : k ≤ s
      · rw [if_pos c1] at hz
        rw [hz]
        clear hz
        go_enter Try.func24, Try.ntmps24
        go_wp2_with fail
        refine (upright_is _ _ _ _ ht _ hu'.out).mono ?_
        rintro _ w1 ⟨rfl, hb1⟩
        have E1 := Lib.hid ((EdAt.new w s e t).below hb1 (by simp))
        have hc0 := E1.out.1
        go_wp2_with (go_at_call 38; refine (offset_is _ _ _ hk'.out).mono ?_; rintro e w' ⟨rfl, rfl⟩)
        go_ret
        exact ⟨rfl, ((Below.refl _ _).alloc (Nat.le_refl _) _).trans (hb1.mono (by simp))⟩
      · rw [if_neg c1] at hz
        by_cases c2 : e ≤ k
        · rw [if_pos c2] at hz
          rw [hz]
          clear hz
          go_enter Try.func24, Try.ntmps24
          go_wp2_with fail
          refine (upright_is _ _ _ _ ht _ hu'.out).mono ?_
          rintro _ w1 ⟨rfl, hb1⟩
          have E1 := Lib.hid ((EdAt.new w s e t).below hb1 (by simp))
          have hc0 := E1.out.1
          have hc1 := E1.out.2.1
          have hc2 := E1.out.2.2.1
          go_wp2_with (go_at_call 38; refine (offset_is _ _ _ hk'.out).mono ?_; rintro e w' ⟨rfl, rfl⟩)
          go_ret
          exact ⟨rfl, ((Below.refl _ _).alloc (Nat.le_refl _) _).trans (hb1.mono (by simp))⟩
        · rw [if_neg c2] at hz
          rw [hz]
          clear hz
          go_enter Try.func24, Try.ntmps24
          go_wp2_with fail
          refine (upright_is _ _ _ _ ht _ hu'.out).mono ?_
          rintro _ w1 ⟨rfl, hb1⟩
          have E1 := Lib.hid ((EdAt.new w s e t).below hb1 (by simp))
          have hc0 := E1.out.1
          have hc1 := E1.out.2.1
          have hc2 := E1.out.2.2.1
          go_wp2_with (go_at_call 38; refine (offset_is _ _ _ hk'.out).mono ?_; rintro e w' ⟨rfl, rfl⟩)
          go_ret
          exact ⟨rfl, ((Below.refl _ _).alloc (Nat.le_refl _) _).trans (hb1.mono (by simp))⟩
end Go.Proofs.Ytejllankcgcclaa
