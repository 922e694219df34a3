/- EditsUndoes, EditsNothing: the walks. -/
import Derived.Test.YtejllankcgcclaaPlain
namespace Go.Proofs.Ytejllankcgcclaa
open Go.RowKit
set_option linter.unusedVariables false

theorem undoes_bad (x : ByteArray) (s e : Int) (t : ByteArray) (w : World) (ht : t.size ≤ 9223372036854775807) (hx : x.size ≤ 9223372036854775807) (h : checkZ x.size s e t ≠ 0) :
    Calls Try.prog 8 #[.string x, ed s e t] w fun r w' => r = .returned (.bool true) ∧ Below w.heap.size w w' := by
  obtain ⟨k, hk⟩ : ∃ k, checkZ x.size s e t = k := ⟨_, rfl⟩
  rw [hk] at h
  have hk' := Lib.hid hk; clear hk
  have h' := Lib.hid h
  have h2 : (k != 0) = true := by simpa using h
  clear h
  go_enter Try.func8, Try.ntmps8
  go_wp2_with fail
  refine (apply_is _ _ _ _ _ ht hx k h'.out hk'.out).mono ?_
  rintro _ w1 ⟨rfl, hb1⟩
  have E1 := Lib.hid ((EdAt.new w s e t).below hb1 (by simp))
  have hc0 := E1.out.1
  have hc1 := E1.out.2.1
  have hc2 := E1.out.2.2.1
  go_wp2_with fail
  refine (undo_is _ _ _ _ _ ht hx k h'.out hk'.out).mono ?_
  rintro _ w2 ⟨rfl, hb2⟩
  go_wp2_with (go_at_call 16; refine (alive_any _).mono ?_; rintro _ w3 ⟨rfl, hb3⟩)
  go_ret
  exact ⟨rfl, Bcall (Bnew (Bcall (Bcall (Bnew (Below.refl _ _) _) hb1) hb2) _) hb3⟩

set_option maxHeartbeats 1000000 in
theorem undoes_good (x : ByteArray) (a c : Nat) (t : ByteArray) (w : World) (ht : t.size ≤ 9223372036854775807) (hx : x.size ≤ 9223372036854775807) (h : checkZ x.size a c t = 0) :
    Calls Try.prog 8 #[.string x, ed a c t] w fun r w' => r = .returned (.bool true) ∧ Below w.heap.size w w' := by
  have h' := Lib.hid h; clear h
  obtain ⟨y, hy⟩ : ∃ y, splice x a c t = y := ⟨_, rfl⟩
  obtain ⟨z, hz⟩ : ∃ z, x.extract a c = z := ⟨_, rfl⟩
  have hy' := Lib.hid hy; clear hy
  have hz' := Lib.hid hz; clear hz
  have k1 : ∀ w : World, Calls Try.prog 17 #[.string x, ed a c t] w fun r w' => r = .returned (.tuple #[.string y, .int .i64 0]) ∧ Below w.heap.size w w' := fun w => by
    have k := apply_ok x a c t w ht hx h'.out
    rwa [Int.toNat_natCast, Int.toNat_natCast, hy'.out] at k
  have k2 : ∀ w : World, Calls Try.prog 28 #[.string x, ed a c t] w fun r w' => r = .returned (.tuple #[ed a (a + t.size) z, .int .i64 0]) ∧ Below w.heap.size w w' := fun w => by
    have k := undo_ok x a c t w ht hx h'.out
    rwa [undoV, hz'.out] at k
  have k3 : ∀ w : World, Calls Try.prog 17 #[.string y, ed a (a + t.size) z] w fun r w' => r = .returned (.tuple #[.string x, .int .i64 0]) ∧ Below w.heap.size w w' := fun w => by
    have k := back_apply x a c t w h'.out
    rwa [hy'.out, hz'.out] at k
  have k4 : ∀ w : World, Calls Try.prog 28 #[.string y, ed a (a + t.size) z] w fun r w' => r = .returned (.tuple #[ed a c t, .int .i64 0]) ∧ Below w.heap.size w w' := fun w => by
    have k := back_undo x a c t w h'.out
    rwa [hy'.out, hz'.out] at k
  have k1' := Lib.hid k1; clear k1
  have k2' := Lib.hid k2; clear k2
  have k3' := Lib.hid k3; clear k3
  have k4' := Lib.hid k4; clear k4
  go_enter Try.func8, Try.ntmps8
  go_wp2_with fail
  refine (k1'.out _).mono ?_
  rintro _ w1 ⟨rfl, hb1⟩
  have E1 := Lib.hid ((EdAt.new w a c t).below hb1 (by simp))
  have hc0 := E1.out.1
  have hc1 := E1.out.2.1
  have hc2 := E1.out.2.2.1
  have hz1 := E1.out.2.2.2
  go_wp2_with fail
  refine (k2'.out _).mono ?_
  rintro _ w2 ⟨rfl, hb2⟩
  have E2 := Lib.hid (E1.out.below hb2 hz1)
  have hz2 := E2.out.2.2.2
  have L2 := Lib.hid (Bcall (Bcall (Bnew (Below.refl _ _) _) hb1) hb2)
  clear hb1 hb2
  go_wp2_with fail
  refine (k3'.out _).mono ?_
  rintro _ w3 ⟨rfl, hb3⟩
  have U3 := Lib.hid ((EdAt.new w2 a (a + t.size) z).below hb3 (by simp))
  have u0 := U3.out.1
  have u1 := U3.out.2.1
  have u2 := U3.out.2.2.1
  have uz := U3.out.2.2.2
  have E3 := Lib.hid ((E2.out.alloc _).below hb3 (by simp; omega))
  have L3 := Lib.hid (Bcall (Bnew L2.out _) hb3)
  clear hb3
  go_wp2_with fail
  refine (k4'.out _).mono ?_
  rintro _ w4 ⟨rfl, hb4⟩
  have E4 := Lib.hid ((E3.out.below hb4 (by omega)).alloc (.cells #[.int .i64 a, .int .i64 c, .string t] 23))
  have L4 := Lib.hid (Bnew (Bcall L3.out hb4) (.cells #[.int .i64 a, .int .i64 c, .string t] 23))
  clear hb4 u0 u1 u2 hc0 hc1 hc2
  have hc0 := E4.out.1
  have hc1 := E4.out.2.1
  have hc2 := E4.out.2.2.1
  go_wp2_with (go_at_call 16; refine (alive_any _).mono ?_; rintro _ w5 ⟨rfl, hb5⟩)
  go_ret
  exact ⟨rfl, Bcall L4.out hb5⟩

theorem undoes_walk (x : ByteArray) (s e : Int) (t : ByteArray) (w : World) (ht : t.size ≤ 9223372036854775807) (hx : x.size ≤ 9223372036854775807) :
    Calls Try.prog 8 #[.string x, ed s e t] w fun r w' => r = .returned (.bool true) ∧ Below w.heap.size w w' := by
  by_cases h : checkZ x.size s e t = 0
  · obtain ⟨n1, n2, n3, n4, n5⟩ := fits h
    obtain ⟨a, rfl⟩ : ∃ a : Nat, s = a := ⟨s.toNat, by omega⟩
    obtain ⟨c, rfl⟩ : ∃ c : Nat, e = c := ⟨e.toNat, by omega⟩
    exact undoes_good x a c t w ht hx h
  · exact undoes_bad x s e t w ht hx h
end Go.Proofs.Ytejllankcgcclaa
