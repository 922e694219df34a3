/- What the document's Apply answers. -/
import Derived.Test.YtejllankcgcclaaEC
import Derived.WalkSmall
namespace Go.Proofs.Ytejllankcgcclaa
open Go.RowKit
set_option linter.unusedVariables false

theorem rcheck_is (n s e : Int) (t : ByteArray) (w : World) (ht : t.size ≤ 9223372036854775807) (k : Int) (h : checkZ n s e t = k) :
    Calls Try.prog 15 #[.int .i64 n, ed s e t] w fun x w' => x = .returned (.int .i64 k) ∧ Below w.heap.size w w' := by
  rw [← h]; exact rcheck_any n s e t w ht

theorem splice_eq (x : ByteArray) (a c : Nat) (t : ByteArray) : x.extract 0 a ++ t ++ x.extract c x.size = splice x a c t := by
  apply ByteArray.ext
  apply Array.toList_inj.mp
  rw [ByteArray.data_append, Array.toList_append, ByteArray.data_append, Array.toList_append, Lib.extract_data, Lib.extract_to_end]
  simp [splice]

theorem ret_str {x y : ByteArray} {k : Int} (h : x = y) : Ending.returned (.tuple #[.string x, .int .i64 k]) = .returned (.tuple #[.string y, .int .i64 k]) := by rw [h]

theorem rapply_err (x : ByteArray) (s e : Int) (t : ByteArray) (w : World) (ht : t.size ≤ 9223372036854775807) (hx : x.size ≤ 9223372036854775807) (h : checkZ x.size s e t ≠ 0) :
    Calls Try.prog 18 #[.string x, ed s e t] w fun r w' => r = .returned (.tuple #[.string .empty, .int .i64 (checkZ x.size s e t)]) ∧ Below w.heap.size w w' := by
  cases hl : decide (65536 < (x.size : Int))
  · obtain ⟨k, hk⟩ : ∃ k, checkZ x.size s e t = k := ⟨_, rfl⟩
    rw [hk] at h ⊢
    have hk' := Lib.hid hk; clear hk
    have h' : (k != 0) = true := by simpa using h
    have hl' := Lib.hid hl; clear hl
    go_enter Try.func18, Try.ntmps18
    go_wp2_with (first | (go_at_call 31; refine (long_is _ _ _ hl'.out).mono ?_; rintro e w' ⟨rfl, rfl⟩) | (go_at_call 15; refine (rcheck_is _ _ _ _ _ ht _ hk'.out).mono ?_; rintro e w' ⟨rfl, hb⟩))
    go_ret2
    exact ⟨rfl, ((Below.refl _ _).alloc (Nat.le_refl _) _).trans (hb.mono (by simp))⟩
  · have hz : checkZ x.size s e t = 2 := by unfold checkZ; rw [if_pos (by simp at hl; omega)]
    rw [hz]
    have hl' := Lib.hid hl; clear hl
    go_enter Try.func18, Try.ntmps18
    go_wp2_with (first | (go_at_call 31; refine (long_is _ _ _ hl'.out).mono ?_; rintro e w' ⟨rfl, rfl⟩))
    go_ret2
    exact ⟨rfl, (Below.refl _ _).alloc (Nat.le_refl _) _⟩

/-- What an edit that fits is like. -/
theorem fits {n : Nat} {s e : Int} {t : ByteArray} (h : checkZ n s e t = 0) : 0 ≤ s ∧ s ≤ e ∧ e ≤ n ∧ (n : Int) ≤ 65536 ∧ (t.size : Int) ≤ 65536 - (n - (e - s)) := by
  unfold checkZ at h
  split at h
  · omega
  split at h
  · omega
  split at h
  · omega
  rename_i h1 h2 h3
  have : withinB s e n = true := by simpa using h2
  simp [withinB] at this
  omega

theorem rapply_ok (x : ByteArray) (s e : Int) (t : ByteArray) (w : World) (ht : t.size ≤ 9223372036854775807) (hx : x.size ≤ 9223372036854775807) (h : checkZ x.size s e t = 0) :
    Calls Try.prog 18 #[.string x, ed s e t] w fun r w' => r = .returned (.tuple #[.string (splice x s.toNat e.toNat t), .int .i64 0]) ∧ Below w.heap.size w w' := by
  obtain ⟨n1, n2, n3, n4, n5⟩ := fits h
  obtain ⟨a, rfl⟩ : ∃ a : Nat, s = a := ⟨s.toNat, by omega⟩
  obtain ⟨c, rfl⟩ : ∃ c : Nat, e = c := ⟨e.toNat, by omega⟩
  have hl : decide (65536 < (x.size : Int)) = false := by simp; omega
  have hl' := Lib.hid hl; clear hl
  have h' := Lib.hid h; clear h
  go_enter Try.func18, Try.ntmps18
  go_wp2_with (first | (go_at_call 31; refine (long_is _ _ _ hl'.out).mono ?_; rintro e w' ⟨rfl, rfl⟩))
  refine (rcheck_is _ _ _ _ _ ht _ h'.out).mono ?_
  rintro _ w1 ⟨rfl, hb1⟩
  have E1 := Lib.hid ((EdAt.new w a c t).below hb1 (by simp))
  have hc0 := E1.out.1
  have hc1 := E1.out.2.1
  have hc2 := E1.out.2.2.1
  go_wp2_with fail
  go_quiet (fail)
  go_wp2
  go_ret2
  exact ⟨ret_str (splice_eq x a c t), below_drewN (((Below.refl _ _).alloc (Nat.le_refl _) _).trans (hb1.mono (by simp))) _⟩
end Go.Proofs.Ytejllankcgcclaa
