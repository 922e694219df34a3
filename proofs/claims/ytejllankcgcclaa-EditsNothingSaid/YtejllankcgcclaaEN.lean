/- EditsNothing, EditsApart: the walks. -/
import Derived.Test.YtejllankcgcclaaEU
import Derived.Test.YtejllankcgcclaaEB
namespace Go.Proofs.Ytejllankcgcclaa
open Go.RowKit
set_option linter.unusedVariables false

theorem nothing_bad (x : ByteArray) (f g : Int) (w : World) (hx : x.size ≤ 9223372036854775807) (h : ¬ (0 ≤ f ∧ f ≤ g ∧ g ≤ x.size ∧ (x.size : Int) ≤ 65536)) :
    Calls Try.prog 12 #[.string x, .int .i64 f, .int .i64 g] w fun r w' => r = .returned (.bool true) ∧ Below w.heap.size w w' := by
  have h' := Lib.hid h; clear h
  go_enter Try.func12, Try.ntmps12
  go_wp2_with (first | (go_at_call 16; refine (alive_any _).mono ?_; rintro _ w3 ⟨rfl, hb3⟩) | (go_at_call 17; exfalso; have := h'.out; omega))
  all_goals first | (go_ret; exact ⟨rfl, hb3⟩) | (exfalso; have := h'.out; omega)

theorem splice_self (x : ByteArray) (a c : Nat) (h1 : a ≤ c) (h2 : c ≤ x.size) : splice x a c (x.extract a c) = x := by
  apply ba_ext
  rw [splice_list, Lib.extract_data]
  have e1 : x.data.toList.drop c = (x.data.toList.drop a).drop (c - a) := by rw [List.drop_drop]; congr 1; omega
  rw [e1, List.append_assoc, List.take_append_drop, List.take_append_drop]
theorem splice_none (x : ByteArray) (a : Nat) : splice x a a .empty = x := by
  apply ba_ext
  rw [splice_list]
  simp

theorem at_none (a j : Nat) (h1 : a ≤ j) (h2 : j ≤ 65536) : atZ a a .empty j = j := by
  have h0 : (ByteArray.empty.size : Int) = 0 := rfl
  rw [at_good (by omega) (by omega) (by omega) (by decide) (by omega) (by omega)]
  split
  · rfl
  · rw [if_pos (by omega)]; omega

theorem nothing_good (x : ByteArray) (a c : Nat) (w : World) (hx : x.size ≤ 65536) (h1 : a ≤ c) (h2 : c ≤ x.size) :
    Calls Try.prog 12 #[.string x, .int .i64 a, .int .i64 c] w fun r w' => r = .returned (.bool true) ∧ Below w.heap.size w w' := by
  have he := extract_size x a c h2
  have k1 : ∀ w : World, Calls Try.prog 17 #[.string x, ed a c (x.extract a c)] w fun r w' => r = .returned (.tuple #[.string x, .int .i64 0]) ∧ Below w.heap.size w w' := fun w => by
    have k := apply_ok x a c (x.extract a c) w (by omega) (by omega) (check_zero hx h1 h2 (by omega))
    rwa [Int.toNat_natCast, Int.toNat_natCast, splice_self x a c h1 h2] at k
  have k2 : ∀ w : World, Calls Try.prog 17 #[.string x, ed a a .empty] w fun r w' => r = .returned (.tuple #[.string x, .int .i64 0]) ∧ Below w.heap.size w w' := fun w => by
    have k := apply_ok x a a .empty w (by decide) (by omega) (check_zero hx (Nat.le_refl a) (by omega) (by simp; omega))
    rwa [Int.toNat_natCast, splice_none x a] at k
  have k3 : ∀ (j : Nat) (w : World), a ≤ j → j ≤ 65536 → Calls Try.prog 24 #[ed a a .empty, .int .i64 j] w fun r w' => r = .returned (.int .i64 j) ∧ Below w.heap.size w w' := fun j w hj hj2 => by
    have k := at_any a a .empty j w (by decide)
    rwa [at_none a j (by omega) (by omega)] at k
  have k1' := Lib.hid k1; clear k1
  have k2' := Lib.hid k2; clear k2
  have k3' := Lib.hid k3; clear k3
  clear he
  go_enter Try.func12, Try.ntmps12
  go_wp2_with fail
  refine (k1'.out _).mono ?_
  rintro _ w1 ⟨rfl, hb1⟩
  go_wp2_with fail
  refine (k2'.out _).mono ?_
  rintro _ w2 ⟨rfl, hb2⟩
  have N2 := Lib.hid ((EdAt.new w1 a a .empty).below hb2 (by simp))
  have u0 := N2.out.1
  have u1 := N2.out.2.1
  have u2 := N2.out.2.2.1
  have uz := N2.out.2.2.2
  go_wp2_with fail
  refine (k3'.out c _ h1 (by omega)).mono ?_
  rintro _ w3 ⟨rfl, hb3⟩
  have N3 := Lib.hid (N2.out.below hb3 uz)
  clear u0 u1 u2
  have u0 := N3.out.1
  have u1 := N3.out.2.1
  have u2 := N3.out.2.2.1
  go_wp2_with fail
  refine (k3'.out a _ (Nat.le_refl a) (by omega)).mono ?_
  rintro _ w4 ⟨rfl, hb4⟩
  go_wp2_with (go_at_call 16; refine (alive_any _).mono ?_; rintro _ w5 ⟨rfl, hb5⟩)
  go_ret
  exact ⟨rfl, Bcall (Bcall (Bcall (Bcall (Bnew (Bcall (Below.refl _ _) hb1) _) hb2) hb3) hb4) hb5⟩

theorem nothing_walk (x : ByteArray) (f g : Int) (w : World) (hx : x.size ≤ 9223372036854775807) :
    Calls Try.prog 12 #[.string x, .int .i64 f, .int .i64 g] w fun r w' => r = .returned (.bool true) ∧ Below w.heap.size w w' := by
  by_cases h : 0 ≤ f ∧ f ≤ g ∧ g ≤ x.size ∧ (x.size : Int) ≤ 65536
  · obtain ⟨a, rfl⟩ : ∃ a : Nat, f = a := ⟨f.toNat, by omega⟩
    obtain ⟨c, rfl⟩ : ∃ c : Nat, g = c := ⟨g.toNat, by omega⟩
    exact nothing_good x a c w (by omega) (by omega) (by omega)
  · exact nothing_bad x f g w hx h
end Go.Proofs.Ytejllankcgcclaa
