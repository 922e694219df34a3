/- EditsApart and EditsJoin, put together. -/
import Derived.Test.YtejllankcgcclaaEJ
namespace Go.Proofs.Ytejllankcgcclaa
open Go.RowKit
set_option linter.unusedVariables false

theorem EdAt.drewN {b : Nat} {s e : Int} {t : ByteArray} {w : World} (h : EdAt b s e t w) (n : Nat) : EdAt b s e t (w.drewN n) :=
  h.below (below_drewN (Below.refl _ _) n) h.2.2.2
theorem mayK_or (n : Nat) : (mayK n != 0) = true ∨ mayK n = 0 := by
  unfold mayK
  split
  · right; rfl
  · left; decide

theorem apart_walk (x : ByteArray) (s e : Int) (t : ByteArray) (s2 e2 : Int) (t2 : ByteArray) (w : World) (ht : t.size ≤ 9223372036854775807) (ht2 : t2.size ≤ 9223372036854775807) (hx : x.size ≤ 9223372036854775807) :
    Calls Try.prog 11 #[.string x, ed s e t, ed s2 e2 t2] w fun r w' => r = .returned (.bool true) ∧ Below w.heap.size w w' := by
  by_cases h : s2 ≤ e
  · exact apart_far x s e t s2 e2 t2 w h
  by_cases h1' : checkZ x.size s e t ≠ 0
  · exact apart_err x s e t s2 e2 t2 w ht ht2 hx (by omega) (.inl h1')
  have h1 : checkZ x.size s e t = 0 := by simpa using h1'
  by_cases h2' : checkZ x.size s2 e2 t2 ≠ 0
  · exact apart_err x s e t s2 e2 t2 w ht ht2 hx (by omega) (.inr ⟨h1, h2'⟩)
  have h2 : checkZ x.size s2 e2 t2 = 0 := by simpa using h2'
  obtain ⟨n1, n2, n3, n4, n5⟩ := fits h1
  obtain ⟨m1, m2, m3, m4, m5⟩ := fits h2
  obtain ⟨a, rfl⟩ : ∃ a : Nat, s = a := ⟨s.toNat, by omega⟩
  obtain ⟨c, rfl⟩ : ∃ c : Nat, e = c := ⟨e.toNat, by omega⟩
  obtain ⟨b, rfl⟩ : ∃ b : Nat, s2 = b := ⟨s2.toNat, by omega⟩
  obtain ⟨d, rfl⟩ : ∃ d : Nat, e2 = d := ⟨e2.toNat, by omega⟩
  have sy := splice_size x a c t (by omega)
  have sz := splice_size x b d t2 (by omega)
  refine apart_good x a c t b d t2 w (by omega) (splice x a c t) (splice x b d t2) ((b - (c - a) + t.size : Nat) : Int) ((d - (c - a) + t.size : Nat) : Int) (mayS (x.size - (c - a) - (d - b) + t.size + t2.size) (splice (splice x b d t2) a c t)) (mayK (x.size - (c - a) - (d - b) + t.size + t2.size)) (Lib.hid fun w => ?_) (Lib.hid fun w => ?_) (Lib.hid fun w => ?_) (Lib.hid fun w => ?_) (Lib.hid fun w => ?_) (mayK_or _)
  · have k := apply_ok x a c t w ht hx h1
    rwa [Int.toNat_natCast, Int.toNat_natCast] at k
  · have k := apply_ok x b d t2 w ht2 hx h2
    rwa [Int.toNat_natCast, Int.toNat_natCast] at k
  · have k := image_any a c t b d w ht
    have hu : (upB a c t && withinB b d 65536) = true := by simp [upB, withinB]; omega
    rw [imF, hu, if_pos rfl, imG, hu, if_pos rfl, at_good (by omega) (by omega) (by omega) (by omega) (by omega) (by omega), at_good (by omega) (by omega) (by omega) (by omega) (by omega) (by omega)] at k
    rw [if_neg (by omega), if_pos (by omega), if_neg (by omega), if_pos (by omega)] at k
    rwa [show ((b : Int) - (c - a) + t.size) = ((b - (c - a) + t.size : Nat) : Int) by omega, show ((d : Int) - (c - a) + t.size) = ((d - (c - a) + t.size : Nat) : Int) by omega] at k
  · exact apply_may _ _ _ _ w (by omega) (by omega) (by omega) ht2 _ _ (by omega) (splice_comm x a c b d t t2 (by omega) (by omega) (by omega) (by omega))
  · exact apply_may _ _ _ _ w (by omega) (by omega) (by omega) ht _ _ (by omega) rfl

theorem join_bad (x : ByteArray) (s e : Int) (t : ByteArray) (n : Int) (m : ByteArray) (w : World) (ht : t.size ≤ 9223372036854775807) (hm : m.size ≤ 9223372036854775807) (hx : x.size ≤ 9223372036854775807) (wn : (Lit.int .i64 n).wf = true)
    (h : ¬ (checkZ x.size s e t = 0 ∧ 0 ≤ n ∧ n ≤ x.size - e ∧ (m.size : Int) ≤ 65536)) :
    Calls Try.prog 13 #[.string x, ed s e t, .agg #[.int .i64 n, .string m]] w fun r w' => r = .returned (.bool true) ∧ Below w.heap.size w w' := by
  obtain ⟨k, hk⟩ : ∃ k, checkZ x.size s e t = k := ⟨_, rfl⟩
  obtain ⟨y, hy⟩ : ∃ k, apS x s e t = k := ⟨_, rfl⟩
  have k1 : ∀ w : World, Calls Try.prog 17 #[.string x, ed s e t] w fun r w' => r = .returned (.tuple #[.string y, .int .i64 k]) ∧ Below w.heap.size w w' := fun w => by
    have q := apply_any x s e t w ht hx
    rwa [hk, hy] at q
  have hf : k = 0 → 0 ≤ s ∧ s ≤ e ∧ e ≤ x.size ∧ (x.size : Int) ≤ 65536 := fun h0 => by
    have := fits (hk.trans h0); omega
  rw [hk] at h
  clear hk hy
  have k1' := Lib.hid k1; clear k1
  have hb : (k != 0) = true ∨ (k = 0 ∧ ¬ (0 ≤ n ∧ n ≤ x.size - e ∧ (m.size : Int) ≤ 65536)) := by
    by_cases h0 : k = 0
    · exact .inr ⟨h0, fun q => h ⟨h0, q⟩⟩
    · exact .inl (by simpa using h0)
  clear h
  rcases hb with hb | ⟨rfl, hb⟩
  · clear hf
    go_enter Try.func13, Try.ntmps13
    go_wp2_with fail
    go_quiet (fail)
    go_wp2_with fail
    refine (k1'.out _).mono ?_
    rintro _ w1 ⟨rfl, hb1⟩
    go_wp2_with (first | (go_at_call 16; refine (alive_any _).mono ?_; rintro _ w3 ⟨rfl, hb3⟩))
    go_ret
    exact ⟨rfl, Bcall (Bcall (below_drewN (Bnew (Bnew (Below.refl _ _) _) _) _) hb1) hb3⟩
  · obtain ⟨f1, f2, f3, f4⟩ := hf rfl
    clear hf
    have hb' := Lib.hid hb; clear hb
    go_enter Try.func13, Try.ntmps13
    go_wp2_with fail
    go_quiet (fail)
    go_wp2_with fail
    refine (k1'.out _).mono ?_
    rintro _ w1 ⟨rfl, hb1⟩
    have E1 := Lib.hid ((((EdAt.new w s e t).alloc (.cells #[.int .i64 n, .string m] 50)).drewN nq).below hb1 (by simp; omega))
    have L1 := Lib.hid (Bcall (below_drewN (Bnew (Bnew (Below.refl w.heap.size w) _) _) _) hb1)
    clear hb1
    have hc0 := E1.out.1
    have hc1 := E1.out.2.1
    have hc2 := E1.out.2.2.1
    go_wp2_with (first | (go_at_call 16; refine (alive_any _).mono ?_; rintro _ w3 ⟨rfl, hb3⟩) | (go_at_call 17; exfalso; have := hb'.out; omega))
    all_goals first | (go_ret; exact ⟨rfl, Bcall L1.out hb3⟩) | (exfalso; have := hb'.out; omega)

set_option maxHeartbeats 1000000 in
theorem join_good (x : ByteArray) (a c : Nat) (t : ByteArray) (n : Nat) (m : ByteArray) (w : World) (hx : x.size ≤ 65536) (hac : a ≤ c) (hcx : c ≤ x.size) (ht : t.size ≤ 65536) (hn : (n : Int) ≤ x.size - c) (hm : (m.size : Int) ≤ 65536) (y P : ByteArray) (K : Int)
    (k1 : Hid (∀ w : World, Calls Try.prog 17 #[.string x, ed a c t] w fun r w' => r = .returned (.tuple #[.string y, .int .i64 0]) ∧ Below w.heap.size w w'))
    (k2 : Hid (∀ w : World, Calls Try.prog 17 #[.string y, ed (a + t.size) (a + t.size + n) m] w fun r w' => r = .returned (.tuple #[.string P, .int .i64 K]) ∧ Below w.heap.size w w'))
    (k3 : Hid (∀ w : World, Calls Try.prog 17 #[.string x, ed a (c + n) (t ++ m)] w fun r w' => r = .returned (.tuple #[.string P, .int .i64 K]) ∧ Below w.heap.size w w')) :
    Calls Try.prog 13 #[.string x, ed a c t, .agg #[.int .i64 n, .string m]] w fun r w' => r = .returned (.bool true) ∧ Below w.heap.size w w' := by
  go_enter Try.func13, Try.ntmps13
  go_wp2_with fail
  go_quiet (fail)
  go_wp2_with fail
  refine (k1.out _).mono ?_
  rintro _ w1 ⟨rfl, hb1⟩
  have E1 := Lib.hid ((((EdAt.new w a c t).alloc (.cells #[.int .i64 n, .string m] 50)).drewN nq).below hb1 (by simp; omega))
  have L1 := Lib.hid (Bcall (below_drewN (Bnew (Bnew (Below.refl w.heap.size w) _) _) _) hb1)
  clear hb1
  have hc0 := E1.out.1
  have hc1 := E1.out.2.1
  have hc2 := E1.out.2.2.1
  have hz1 := E1.out.2.2.2
  go_wp2_with fail
  refine (k2.out _).mono ?_
  rintro _ w2 ⟨rfl, hb2⟩
  have E2 := Lib.hid (E1.out.below hb2 hz1)
  have L2 := Lib.hid (Bcall L1.out hb2)
  clear hb2 hc0 hc1 hc2
  have hc0 := E2.out.1
  have hc1 := E2.out.2.1
  have hc2 := E2.out.2.2.1
  go_wp2_with fail
  refine (k3.out _).mono ?_
  rintro _ w3 ⟨rfl, hb3⟩
  go_wp2_with (first | (go_at_call 16; refine (alive_any _).mono ?_; rintro _ w4 ⟨rfl, hb4⟩))
  go_ret
  exact ⟨rfl, Bcall (Bcall L2.out hb3) hb4⟩

theorem join_walk (x : ByteArray) (s e : Int) (t : ByteArray) (n : Int) (m : ByteArray) (w : World) (ht : t.size ≤ 9223372036854775807) (hm : m.size ≤ 9223372036854775807) (hx : x.size ≤ 9223372036854775807) (wn : (Lit.int .i64 n).wf = true) :
    Calls Try.prog 13 #[.string x, ed s e t, .agg #[.int .i64 n, .string m]] w fun r w' => r = .returned (.bool true) ∧ Below w.heap.size w w' := by
  by_cases h : checkZ x.size s e t = 0 ∧ 0 ≤ n ∧ n ≤ x.size - e ∧ (m.size : Int) ≤ 65536
  · obtain ⟨h1, g1, g2, g3⟩ := h
    obtain ⟨n1, n2, n3, n4, n5⟩ := fits h1
    obtain ⟨a, rfl⟩ : ∃ a : Nat, s = a := ⟨s.toNat, by omega⟩
    obtain ⟨c, rfl⟩ : ∃ c : Nat, e = c := ⟨e.toNat, by omega⟩
    obtain ⟨n, rfl⟩ : ∃ d : Nat, n = d := ⟨n.toNat, by omega⟩
    have sy := splice_size x a c t (by omega)
    refine join_good x a c t n m w (by omega) (by omega) (by omega) (by omega) g2 g3 (splice x a c t) (mayS (x.size - (c + n - a) + (t.size + m.size)) (splice x a (c + n) (t ++ m))) (mayK (x.size - (c + n - a) + (t.size + m.size))) (Lib.hid fun w => ?_) (Lib.hid fun w => ?_) (Lib.hid fun w => ?_)
    · have k := apply_ok x a c t w ht hx h1
      rwa [Int.toNat_natCast, Int.toNat_natCast] at k
    · have k := apply_may (splice x a c t) (a + t.size) (a + t.size + n) m w (by omega) (by omega) (by omega) hm _ _ rfl (splice_join x a c n t m (by omega) (by omega))
      rw [show (splice x a c t).size - (a + t.size + n - (a + t.size)) + m.size = x.size - (c + n - a) + (t.size + m.size) by omega] at k
      simpa using k
    · have k := apply_may x a (c + n) (t ++ m) w (by omega) (by omega) (by omega) (by rw [ByteArray.size_append]; omega) _ _ rfl rfl
      rw [ByteArray.size_append] at k
      simpa using k
  · exact join_bad x s e t n m w ht hm hx wn h
end Go.Proofs.Ytejllankcgcclaa
