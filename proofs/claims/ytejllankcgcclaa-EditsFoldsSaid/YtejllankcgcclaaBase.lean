/- The plain answers of package edits and of its document, and the contracts of their small functions: what each call answers, and that no memory that was there is touched. -/
import Derived.Test.YtejllankcgcclaaRows
import Derived.Test.YtejllankcgcclaaShelf
import Derived.WalkKit
import Derived.WalkLawsBesides
import Derived.WalkSpells
import Derived.Below
import Derived.Lib.Hide
import Derived.Outline
namespace Go.Proofs.Ytejllankcgcclaa
open Go.RowKit

/-- An edit as a value. -/
abbrev ed (s e : Int) (t : ByteArray) : Value := .agg #[.int .i64 s, .int .i64 e, .string t]

def withinB (a b c : Int) : Bool := decide (0 ≤ a ∧ a ≤ b ∧ b ≤ c)
def checkZ (n s e : Int) (t : ByteArray) : Int :=
  if n < 0 ∨ 65536 < n then 2 else if withinB s e n = false then 10 else if 65536 - (n - (e - s)) < (t.size : Int) then 3 else 0

theorem within_any (a b c : Int) (w : World) : Calls Try.prog 30 #[.int .i64 a, .int .i64 b, .int .i64 c] w fun x w' => x = .returned (.bool (withinB a b c)) ∧ w = w' := by
  by_cases h1 : 0 ≤ a
  · by_cases h2 : a ≤ b
    · by_cases h3 : b ≤ c
      · have hw : withinB a b c = true := by simp [withinB, h1, h2, h3]
        rw [hw]
        go_enter Try.func30, Try.ntmps30
        go_wp2
        go_ret
        exact ⟨rfl, rfl⟩
      · have hw : withinB a b c = false := by simp [withinB, h3]
        rw [hw]
        go_enter Try.func30, Try.ntmps30
        go_wp2
        go_ret
        exact ⟨rfl, rfl⟩
    · have hw : withinB a b c = false := by simp [withinB, h2]
      rw [hw]
      go_enter Try.func30, Try.ntmps30
      go_wp2
      go_ret
      exact ⟨rfl, rfl⟩
  · have hw : withinB a b c = false := by simp [withinB, h1]
    rw [hw]
    go_enter Try.func30, Try.ntmps30
    go_wp2
    go_ret
    exact ⟨rfl, rfl⟩

theorem offset_any (a : Int) (w : World) : Calls Try.prog 38 #[.int .i64 a] w fun x w' => x = .returned (.bool (decide (0 ≤ a ∧ a ≤ 65536))) ∧ w = w' := by
  by_cases h1 : 0 ≤ a
  · by_cases h2 : a ≤ 65536
    · have hw : decide (0 ≤ a ∧ a ≤ 65536) = true := by simp [h1, h2]
      rw [hw]
      go_enter Try.func38, Try.ntmps38
      go_wp2
      go_ret
      exact ⟨rfl, rfl⟩
    · have hw : decide (0 ≤ a ∧ a ≤ 65536) = false := by simp [h2]
      rw [hw]
      go_enter Try.func38, Try.ntmps38
      go_wp2
      go_ret
      exact ⟨rfl, rfl⟩
  · have hw : decide (0 ≤ a ∧ a ≤ 65536) = false := by simp [h1]
    rw [hw]
    go_enter Try.func38, Try.ntmps38
    go_wp2
    go_ret
    exact ⟨rfl, rfl⟩

theorem within_yes (a b c : Int) (w : World) (h : withinB a b c = true) : Calls Try.prog 30 #[.int .i64 a, .int .i64 b, .int .i64 c] w fun x w' => x = .returned (.bool true) ∧ w = w' := by
  rw [← h]; exact within_any a b c w
theorem within_no (a b c : Int) (w : World) (h : withinB a b c = false) : Calls Try.prog 30 #[.int .i64 a, .int .i64 b, .int .i64 c] w fun x w' => x = .returned (.bool false) ∧ w = w' := by
  rw [← h]; exact within_any a b c w

theorem check_any (n s e : Int) (t : ByteArray) (w : World) (ht : t.size ≤ 9223372036854775807) :
    Calls Try.prog 14 #[.int .i64 n, ed s e t] w fun x w' => x = .returned (.int .i64 (checkZ n s e t)) ∧ Below w.heap.size w w' := by
  by_cases h1 : n < 0
  · have hz : checkZ n s e t = 2 := by simp [checkZ, h1]
    rw [hz]
    go_enter Try.func14, Try.ntmps14
    go_wp2
    go_ret
    exact ⟨rfl, (Below.refl _ _).alloc (Nat.le_refl _) _⟩
  · by_cases h2 : 65536 < n
    · have hz : checkZ n s e t = 2 := by simp [checkZ, h2]
      rw [hz]
      go_enter Try.func14, Try.ntmps14
      go_wp2
      go_ret
      exact ⟨rfl, (Below.refl _ _).alloc (Nat.le_refl _) _⟩
    · cases h3 : withinB s e n
      · have hz : checkZ n s e t = 10 := by simp [checkZ, h1, h2, h3]
        rw [hz]
        have h3' := Lib.hid h3; clear h3
        go_enter Try.func14, Try.ntmps14
        go_wp2_with (go_at_call 30; refine (within_no _ _ _ _ h3'.out).mono ?_; rintro e w' ⟨rfl, rfl⟩)
        go_ret
        exact ⟨rfl, (Below.refl _ _).alloc (Nat.le_refl _) _⟩
      · have hb : 0 ≤ s ∧ s ≤ e ∧ e ≤ n := by simpa [withinB] using h3
        obtain ⟨b1, b2, b3⟩ := hb
        by_cases h4 : 65536 - (n - (e - s)) < (t.size : Int)
        · have hz : checkZ n s e t = 3 := by unfold checkZ; rw [if_neg (by omega), if_neg (by simp [h3]), if_pos h4]
          rw [hz]
          have h3' := Lib.hid h3; clear h3
          go_enter Try.func14, Try.ntmps14
          go_wp2_with (go_at_call 30; refine (within_yes _ _ _ _ h3'.out).mono ?_; rintro e w' ⟨rfl, rfl⟩)
          go_ret
          exact ⟨rfl, (Below.refl _ _).alloc (Nat.le_refl _) _⟩
        · have hz : checkZ n s e t = 0 := by unfold checkZ; rw [if_neg (by omega), if_neg (by simp [h3]), if_neg h4]
          rw [hz]
          have h3' := Lib.hid h3; clear h3
          go_enter Try.func14, Try.ntmps14
          go_wp2_with (go_at_call 30; refine (within_yes _ _ _ _ h3'.out).mono ?_; rintro e w' ⟨rfl, rfl⟩)
          go_ret
          exact ⟨rfl, (Below.refl _ _).alloc (Nat.le_refl _) _⟩
end Go.Proofs.Ytejllankcgcclaa
