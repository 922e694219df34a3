/- Plain facts on a text behind an edit. -/
import Derived.Test.YtejllankcgcclaaEA
namespace Go.Proofs.Ytejllankcgcclaa
open Go.RowKit
set_option linter.unusedVariables false

theorem ba_ext {x y : ByteArray} (h : x.data.toList = y.data.toList) : x = y := by
  apply ByteArray.ext
  exact Array.toList_inj.mp h
theorem ba_len (x : ByteArray) : x.data.toList.length = x.size := by simp
theorem splice_list (x : ByteArray) (a c : Nat) (t : ByteArray) : (splice x a c t).data.toList = x.data.toList.take a ++ t.data.toList ++ x.data.toList.drop c := by simp [splice]
theorem splice_size (x : ByteArray) (a c : Nat) (t : ByteArray) (h : a ≤ x.size) : (splice x a c t).size = a + t.size + (x.size - c) := by
  rw [← ba_len, splice_list]
  simp
  omega
theorem extract_size (x : ByteArray) (a c : Nat) (h : c ≤ x.size) : (x.extract a c).size = c - a := by
  rw [← ba_len, Lib.extract_data]
  simp
  omega
theorem take_at {α : Type} (l m : List α) (a : Nat) (h : l.length = a) : (l ++ m).take a = l := by rw [← h]; simp
theorem drop_at {α : Type} (l m : List α) (a : Nat) (h : l.length = a) : (l ++ m).drop a = m := by rw [← h]; simp
theorem splice_back (x : ByteArray) (a c : Nat) (t : ByteArray) (h1 : a ≤ c) (h2 : c ≤ x.size) : splice (splice x a c t) a (a + t.size) (x.extract a c) = x := by
  apply ba_ext
  have hx : x.data.toList.length = x.size := by simp
  have ht : t.data.toList.length = t.size := by simp
  rw [splice_list, splice_list, Lib.extract_data]
  rw [drop_at (x.data.toList.take a ++ t.data.toList) _ _ (by rw [List.length_append, List.length_take, ht]; omega)]
  rw [List.append_assoc (x.data.toList.take a), take_at _ _ _ (by rw [List.length_take]; omega)]
  have e1 : x.data.toList.drop c = (x.data.toList.drop a).drop (c - a) := by rw [List.drop_drop]; congr 1; omega
  rw [e1, List.append_assoc, List.take_append_drop, List.take_append_drop]
theorem splice_extract (x : ByteArray) (a c : Nat) (t : ByteArray) (h1 : a ≤ x.size) : (splice x a c t).extract a (a + t.size) = t := by
  apply ba_ext
  have hx : x.data.toList.length = x.size := by simp
  have ht : t.data.toList.length = t.size := by simp
  rw [Lib.extract_data, splice_list, List.append_assoc, drop_at _ _ _ (by rw [List.length_take]; omega), take_at _ _ _ (by omega)]
theorem check_zero {n : Nat} {a c : Nat} {t : ByteArray} (h0 : n ≤ 65536) (h1 : a ≤ c) (h2 : c ≤ n) (h3 : n - (c - a) + t.size ≤ 65536) : checkZ n a c t = 0 := by
  unfold checkZ
  rw [if_neg (by omega), if_neg (by simp [withinB]; omega), if_neg (by omega)]

theorem back_apply (x : ByteArray) (a c : Nat) (t : ByteArray) (w : World) (h : checkZ x.size a c t = 0) :
    Calls Try.prog 17 #[.string (splice x a c t), ed a (a + t.size) (x.extract a c)] w fun r w' => r = .returned (.tuple #[.string x, .int .i64 0]) ∧ Below w.heap.size w w' := by
  obtain ⟨n1, n2, n3, n4, n5⟩ := fits h
  have hs := splice_size x a c t (by omega)
  have he := extract_size x a c (by omega)
  have k := apply_ok (splice x a c t) a ((a + t.size : Nat) : Int) (x.extract a c) w (by omega) (by omega) (check_zero (by omega) (by omega) (by omega) (by omega))
  rw [Int.toNat_natCast, Int.toNat_natCast, splice_back x a c t (by omega) (by omega)] at k
  simpa using k
theorem back_undo (x : ByteArray) (a c : Nat) (t : ByteArray) (w : World) (h : checkZ x.size a c t = 0) :
    Calls Try.prog 28 #[.string (splice x a c t), ed a (a + t.size) (x.extract a c)] w fun r w' => r = .returned (.tuple #[ed a c t, .int .i64 0]) ∧ Below w.heap.size w w' := by
  obtain ⟨n1, n2, n3, n4, n5⟩ := fits h
  have hs := splice_size x a c t (by omega)
  have he := extract_size x a c (by omega)
  have k := undo_ok (splice x a c t) a (a + t.size) (x.extract a c) w (by omega) (by omega) (check_zero (by omega) (by omega) (by omega) (by omega))
  rw [undoV, splice_extract x a c t (by omega), he, show ((a : Int) + ((c - a : Nat) : Int)) = c by omega] at k
  simpa using k

theorem apply_is (x : ByteArray) (s e : Int) (t : ByteArray) (w : World) (ht : t.size ≤ 9223372036854775807) (hx : x.size ≤ 9223372036854775807) (k : Int) (hk : k ≠ 0) (h : checkZ x.size s e t = k) :
    Calls Try.prog 17 #[.string x, ed s e t] w fun r w' => r = .returned (.tuple #[.string .empty, .int .i64 k]) ∧ Below w.heap.size w w' := by
  subst h; exact apply_err x s e t w ht hx hk
theorem undo_is (x : ByteArray) (s e : Int) (t : ByteArray) (w : World) (ht : t.size ≤ 9223372036854775807) (hx : x.size ≤ 9223372036854775807) (k : Int) (hk : k ≠ 0) (h : checkZ x.size s e t = k) :
    Calls Try.prog 28 #[.string x, ed s e t] w fun r w' => r = .returned (.tuple #[ed 0 0 .empty, .int .i64 k]) ∧ Below w.heap.size w w' := by
  subst h; exact undo_err x s e t w ht hx hk
end Go.Proofs.Ytejllankcgcclaa
