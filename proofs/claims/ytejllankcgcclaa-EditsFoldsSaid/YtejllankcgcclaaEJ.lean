/- EditsApart, EditsJoin: the walks. -/
import Derived.Test.YtejllankcgcclaaPlain
import Derived.Test.YtejllankcgcclaaEB
namespace Go.Proofs.Ytejllankcgcclaa
open Go.RowKit
set_option linter.unusedVariables false

theorem splice_comm (x : ByteArray) (a c b d : Nat) (t u : ByteArray) (h1 : a ≤ c) (h2 : c < b) (h3 : b ≤ d) (h4 : d ≤ x.size) :
    splice (splice x a c t) (b - (c - a) + t.size) (d - (c - a) + t.size) u = splice (splice x b d u) a c t := by
  apply ba_ext
  have hx : x.data.toList.length = x.size := by simp
  have ht : t.data.toList.length = t.size := by simp
  rw [splice_list, splice_list, splice_list, splice_list]
  have l1 : (x.data.toList.take a ++ t.data.toList).length = a + t.size := by rw [List.length_append, List.length_take, ht]; omega
  have p1 : (x.data.toList.take a ++ t.data.toList ++ x.data.toList.drop c).take (b - (c - a) + t.size) = x.data.toList.take a ++ t.data.toList ++ (x.data.toList.drop c).take (b - c) := by
    rw [List.take_append, l1, List.take_of_length_le (by omega)]
    congr 2
    omega
  have p2 : (x.data.toList.take a ++ t.data.toList ++ x.data.toList.drop c).drop (d - (c - a) + t.size) = x.data.toList.drop d := by
    rw [List.drop_append, l1, List.drop_eq_nil_of_le (by omega), List.nil_append, List.drop_drop]
    congr 1
    omega
  have p3 : (x.data.toList.take b ++ u.data.toList ++ x.data.toList.drop d).take a = x.data.toList.take a := by
    rw [List.append_assoc, List.take_append_of_le_length (by rw [List.length_take]; omega), List.take_take]
    congr 1
    omega
  have p4 : (x.data.toList.take b ++ u.data.toList ++ x.data.toList.drop d).drop c = (x.data.toList.drop c).take (b - c) ++ u.data.toList ++ x.data.toList.drop d := by
    rw [List.append_assoc, List.drop_append_of_le_length (by rw [List.length_take]; omega), List.drop_take, ← List.append_assoc]
  rw [p1, p2, p3, p4]
  simp only [List.append_assoc]

theorem splice_join (x : ByteArray) (a c n : Nat) (t m : ByteArray) (h1 : a ≤ c) (h2 : c + n ≤ x.size) :
    splice (splice x a c t) (a + t.size) (a + t.size + n) m = splice x a (c + n) (t ++ m) := by
  apply ba_ext
  have hx : x.data.toList.length = x.size := by simp
  have ht : t.data.toList.length = t.size := by simp
  rw [splice_list, splice_list, splice_list, ByteArray.data_append, Array.toList_append]
  have l1 : (x.data.toList.take a ++ t.data.toList).length = a + t.size := by rw [List.length_append, List.length_take, ht]; omega
  rw [take_at _ _ _ l1, List.drop_append, l1, List.drop_eq_nil_of_le (by omega), List.nil_append, List.drop_drop]
  rw [show c + (a + t.size + n - (a + t.size)) = c + n by omega]
  simp only [List.append_assoc]

theorem check_long {n : Nat} {a c : Nat} {t : ByteArray} (h0 : n ≤ 65536) (h1 : a ≤ c) (h2 : c ≤ n) (h3 : 65536 < n - (c - a) + t.size) : checkZ n a c t = 3 := by
  unfold checkZ
  rw [if_neg (by omega), if_neg (by simp [withinB]; omega), if_pos (by omega)]

/-- Two edits that answer the same: what the one and the other answer, by one name. -/
theorem apply_nat (x : ByteArray) (a c : Nat) (t : ByteArray) (w : World) (h0 : x.size ≤ 65536) (h1 : a ≤ c) (h2 : c ≤ x.size) (ht : t.size ≤ 9223372036854775807) :
    Calls Try.prog 17 #[.string x, ed a c t] w fun r w' => r = .returned (.tuple #[.string (if x.size - (c - a) + t.size ≤ 65536 then splice x a c t else .empty), .int .i64 (if x.size - (c - a) + t.size ≤ 65536 then 0 else 3)]) ∧ Below w.heap.size w w' := by
  split
  · have k := apply_ok x a c t w ht (by omega) (check_zero h0 h1 h2 (by omega))
    rwa [Int.toNat_natCast, Int.toNat_natCast] at k
  · have h := check_long (t := t) h0 h1 h2 (by omega)
    have k := apply_err x a c t w ht (by omega) (by rw [h]; decide)
    rwa [h] at k
def mayS (n : Nat) (y : ByteArray) : ByteArray := if n ≤ 65536 then y else .empty
def mayK (n : Nat) : Int := if n ≤ 65536 then 0 else 3
theorem apply_may (x : ByteArray) (a c : Nat) (t : ByteArray) (w : World) (h0 : x.size ≤ 65536) (h1 : a ≤ c) (h2 : c ≤ x.size) (ht : t.size ≤ 9223372036854775807) (n : Nat) (y : ByteArray) (hn : x.size - (c - a) + t.size = n) (hy : splice x a c t = y) :
    Calls Try.prog 17 #[.string x, ed a c t] w fun r w' => r = .returned (.tuple #[.string (mayS n y), .int .i64 (mayK n)]) ∧ Below w.heap.size w w' := by
  subst hn hy; exact apply_nat x a c t w h0 h1 h2 ht

theorem apart_far (x : ByteArray) (s e : Int) (t : ByteArray) (s2 e2 : Int) (t2 : ByteArray) (w : World) (h : s2 ≤ e) :
    Calls Try.prog 11 #[.string x, ed s e t, ed s2 e2 t2] w fun r w' => r = .returned (.bool true) ∧ Below w.heap.size w w' := by
  go_enter Try.func11, Try.ntmps11
  go_wp2_with (first | (go_at_call 16; refine (alive_any _).mono ?_; rintro _ w3 ⟨rfl, hb3⟩))
  go_ret
  exact ⟨rfl, Bcall (Bnew (Bnew (Below.refl _ _) _) _) hb3⟩

theorem apart_err (x : ByteArray) (s e : Int) (t : ByteArray) (s2 e2 : Int) (t2 : ByteArray) (w : World) (ht : t.size ≤ 9223372036854775807) (ht2 : t2.size ≤ 9223372036854775807) (hx : x.size ≤ 9223372036854775807) (h : e < s2)
    (hk : checkZ x.size s e t ≠ 0 ∨ (checkZ x.size s e t = 0 ∧ checkZ x.size s2 e2 t2 ≠ 0)) :
    Calls Try.prog 11 #[.string x, ed s e t, ed s2 e2 t2] w fun r w' => r = .returned (.bool true) ∧ Below w.heap.size w w' := by
  obtain ⟨k, hk1⟩ : ∃ k, checkZ x.size s e t = k := ⟨_, rfl⟩
  obtain ⟨m, hk2⟩ : ∃ k, checkZ x.size s2 e2 t2 = k := ⟨_, rfl⟩
  obtain ⟨y, hy1⟩ : ∃ k, apS x s e t = k := ⟨_, rfl⟩
  obtain ⟨z, hy2⟩ : ∃ k, apS x s2 e2 t2 = k := ⟨_, rfl⟩
  have k1 : ∀ w : World, Calls Try.prog 17 #[.string x, ed s e t] w fun r w' => r = .returned (.tuple #[.string y, .int .i64 k]) ∧ Below w.heap.size w w' := fun w => by
    have q := apply_any x s e t w ht hx
    rwa [hk1, hy1] at q
  have k2 : ∀ w : World, Calls Try.prog 17 #[.string x, ed s2 e2 t2] w fun r w' => r = .returned (.tuple #[.string z, .int .i64 m]) ∧ Below w.heap.size w w' := fun w => by
    have q := apply_any x s2 e2 t2 w ht2 hx
    rwa [hk2, hy2] at q
  rw [hk1, hk2] at hk
  clear hk1 hk2 hy1 hy2
  have k1' := Lib.hid k1; clear k1
  have k2' := Lib.hid k2; clear k2
  have hb : (k != 0) = true ∨ (k = 0 ∧ (m != 0) = true) := by simpa using hk
  clear hk
  rcases hb with hb | ⟨rfl, hb⟩
  all_goals
    go_enter Try.func11, Try.ntmps11
    go_wp2_with fail
    refine (k1'.out _).mono ?_
    rintro _ w1 ⟨rfl, hb1⟩
    have E1 := Lib.hid ((EdAt.new (w.alloc (.cells #[.int .i64 s, .int .i64 e, .string t] 23)) s2 e2 t2).below hb1 (by simp))
    have hc0 := E1.out.1
    have hc1 := E1.out.2.1
    have hc2 := E1.out.2.2.1
    rw [World.size_alloc] at hc0 hc1 hc2
    go_wp2_with fail
    refine (k2'.out _).mono ?_
    rintro _ w2 ⟨rfl, hb2⟩
    clear hc0 hc1 hc2
    go_wp2_with (first | (go_at_call 16; refine (alive_any _).mono ?_; rintro _ w3 ⟨rfl, hb3⟩))
    go_ret
    exact ⟨rfl, Bcall (Bcall (Bcall (Bnew (Bnew (Below.refl _ _) _) _) hb1) hb2) hb3⟩

set_option maxHeartbeats 1000000 in
theorem apart_good (x : ByteArray) (a c : Nat) (t : ByteArray) (b d : Nat) (u : ByteArray) (w : World) (hc : (c : Int) < b) (y z : ByteArray) (F G : Int) (P : ByteArray) (K : Int)
    (k1 : Hid (∀ w : World, Calls Try.prog 17 #[.string x, ed a c t] w fun r w' => r = .returned (.tuple #[.string y, .int .i64 0]) ∧ Below w.heap.size w w'))
    (k2 : Hid (∀ w : World, Calls Try.prog 17 #[.string x, ed b d u] w fun r w' => r = .returned (.tuple #[.string z, .int .i64 0]) ∧ Below w.heap.size w w'))
    (k3 : Hid (∀ w : World, Calls Try.prog 26 #[ed a c t, sp b d] w fun r w' => r = .returned (sp F G) ∧ Below w.heap.size w w'))
    (k4 : Hid (∀ w : World, Calls Try.prog 17 #[.string y, ed F G u] w fun r w' => r = .returned (.tuple #[.string P, .int .i64 K]) ∧ Below w.heap.size w w'))
    (k5 : Hid (∀ w : World, Calls Try.prog 17 #[.string z, ed a c t] w fun r w' => r = .returned (.tuple #[.string P, .int .i64 K]) ∧ Below w.heap.size w w'))
    (hK : (K != 0) = true ∨ K = 0) :
    Calls Try.prog 11 #[.string x, ed a c t, ed b d u] w fun r w' => r = .returned (.bool true) ∧ Below w.heap.size w w' := by
  rcases hK with hK | rfl
  all_goals
    go_enter Try.func11, Try.ntmps11
    go_wp2_with fail
    refine (k1.out _).mono ?_
    rintro _ w1 ⟨rfl, hb1⟩
    have E1 := Lib.hid ((EdAt.new (w.alloc (.cells #[.int .i64 a, .int .i64 c, .string t] 23)) b d u).below hb1 (by simp))
    have D1 := Lib.hid (((EdAt.new w a c t).alloc (.cells #[.int .i64 b, .int .i64 d, .string u] 23)).below hb1 (by simp; omega))
    have L1 := Lib.hid (Bcall (Bnew (Bnew (Below.refl _ _) _) _) hb1)
    clear hb1
    rw [World.size_alloc] at E1
    have hc0 := E1.out.1
    have hc1 := E1.out.2.1
    have hc2 := E1.out.2.2.1
    have hz1 := E1.out.2.2.2
    go_wp2_with fail
    refine (k2.out _).mono ?_
    rintro _ w2 ⟨rfl, hb2⟩
    have E2 := Lib.hid (E1.out.below hb2 hz1)
    have D2 := Lib.hid (D1.out.below hb2 (by omega))
    have L2 := Lib.hid (Bcall L1.out hb2)
    clear hb2 hc0 hc1 hc2
    have hc0 := E2.out.1
    have hc1 := E2.out.2.1
    have hc2 := E2.out.2.2.1
    have hz2 := E2.out.2.2.2
    have hd0 := D2.out.1
    have hd1 := D2.out.2.1
    have hd2 := D2.out.2.2.1
    go_wp2_with fail
    refine (k3.out _).mono ?_
    rintro _ w3 ⟨rfl, hb3⟩
    have E3 := Lib.hid ((E2.out.below hb3 hz2).alloc (.cells #[.int .i64 F, .int .i64 G] 40))
    have D3 := Lib.hid ((D2.out.below hb3 (by omega)).alloc (.cells #[.int .i64 F, .int .i64 G] 40))
    have L3 := Lib.hid (Bnew (Bcall L2.out hb3) (.cells #[.int .i64 F, .int .i64 G] 40))
    clear hb3 hc0 hc1 hc2 hd0 hd1 hd2
    have hc0 := E3.out.1
    have hc1 := E3.out.2.1
    have hc2 := E3.out.2.2.1
    have hz3 := E3.out.2.2.2
    have hd0 := D3.out.1
    have hd1 := D3.out.2.1
    have hd2 := D3.out.2.2.1
    go_wp2_with fail
    refine (k4.out _).mono ?_
    rintro _ w4 ⟨rfl, hb4⟩
    have D4 := Lib.hid (D3.out.below hb4 (by omega))
    have L4 := Lib.hid (Bcall L3.out hb4)
    clear hb4 hc0 hc1 hc2 hd0 hd1 hd2
    have hd0 := D4.out.1
    have hd1 := D4.out.2.1
    have hd2 := D4.out.2.2.1
    go_wp2_with fail
    refine (k5.out _).mono ?_
    rintro _ w5 ⟨rfl, hb5⟩
    go_wp2_with (first | (go_at_call 16; refine (alive_any _).mono ?_; rintro _ w6 ⟨rfl, hb6⟩))
    go_ret
    exact ⟨rfl, Bcall (Bcall L4.out hb5) hb6⟩
end Go.Proofs.Ytejllankcgcclaa
