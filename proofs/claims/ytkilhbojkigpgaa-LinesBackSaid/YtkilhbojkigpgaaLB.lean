/- LinesBack: the walk. -/
import Derived.Test.YtkilhbojkigpgaaLS
namespace Go.Proofs.Ytkilhbojkigpgaa
set_option linter.unusedSimpArgs false
set_option linter.unusedVariables false
open Go.RowKit

theorem at_is (s : ByteArray) (L C n e : Int) (hs : s.size ≤ 140737488355328) (hn : atN s.data.toList L C = n) (he : atE s.data.toList L C = e) :
    ∀ w, Calls Try.prog 16 #[.string s, pl L C] w fun r w' => r = .returned (.tuple #[.int .i64 n, .int .i64 e]) ∧ Below w.heap.size w w' := by
  rw [← hn, ← he]; exact fun w => at_any s L C w hs

theorem back_walk (s : ByteArray) (n L C : Int) (w : World) (hs : s.size ≤ 140737488355328) :
    Calls Try.prog 6 #[.string s, .int .i64 n, pl L C] w fun r w' => r = .returned (.bool true) ∧ Below w.heap.size w w' := by
  obtain ⟨x, hx⟩ : ∃ x, ofL s.data.toList n = x := ⟨_, rfl⟩
  obtain ⟨y, hy⟩ : ∃ y, ofC s.data.toList n = y := ⟨_, rfl⟩
  obtain ⟨m, hm⟩ : ∃ m, atN s.data.toList L C = m := ⟨_, rfl⟩
  have P0 := Lib.hid (PlAt.new w L C)
  rcases of_E s.data.toList n with he | he
  · have q1 := Lib.hid (of_is s n x y 0 hs hx hy he)
    obtain ⟨r1, r2⟩ := at_of s.data.toList n he
    rw [hx, hy] at r1 r2
    have q2 := Lib.hid (at_is s x y n 0 hs r1 r2)
    rcases at_E s.data.toList L C with hf | ⟨hf, -⟩
    · have q3 := Lib.hid (at_is s L C m 0 hs hm hf)
      obtain ⟨u1, u2, u3⟩ := of_at s.data.toList L C hf
      rw [hm] at u1 u2 u3
      have q4 := Lib.hid (of_is s m L C 0 hs u1 u2 u3)
      clear hx hy hm he hf r1 r2 u1 u2 u3
      go_enter Try.func6, Try.ntmps6
      go_wp2_with fail
      refine (q1.out _).mono ?_
      rintro _ w1 ⟨rfl, hb1⟩
      have L1 := alloc_call (Below.refl _ w) (Nat.le_refl _) hb1
      have S1 := alloc_size hb1
      have L1' := Lib.hid L1; have S1' := Lib.hid S1; clear L1 S1
      have PA := Lib.hid (P0.out.below hb1)
      have PB := Lib.hid (PlAt.new w1 x y)
      have b0 := PB.out.1; have b1 := PB.out.2.1; have bz := PB.out.2.2.2.2
      go_wp2_with fail
      refine (q2.out _).mono ?_
      rintro _ w2 ⟨rfl, hb2⟩
      clear b0 b1 bz
      have PA2 := Lib.hid ((PA.out.alloc (.cells #[.int .i64 x, .int .i64 y] 26)).below hb2)
      have PB2 := Lib.hid (PB.out.below hb2)
      have L2' := Lib.hid (alloc_call L1'.out S1'.out hb2); have S2' := Lib.hid (Nat.le_trans S1'.out (alloc_size hb2))
      have a0 := PA2.out.1; have a1 := PA2.out.2.1; have az := PA2.out.2.2.2.2
      go_wp2_with fail
      refine (q3.out _).mono ?_
      rintro _ w3 ⟨rfl, hb3⟩
      clear a0 a1 az
      have PA3 := Lib.hid (PA2.out.below hb3)
      have PB3 := Lib.hid (PB2.out.below hb3)
      have L3' := Lib.hid (below_call L2'.out S2'.out hb3); have S3' := Lib.hid (Nat.le_trans S2'.out hb3.size)
      go_wp2_with fail
      refine (q4.out _).mono ?_
      rintro _ w4 ⟨rfl, hb4⟩
      have PA4 := Lib.hid (PA3.out.below hb4)
      have PB4 := Lib.hid (PB3.out.below hb4)
      have L4' := Lib.hid (below_call L3'.out S3'.out hb4); have S4' := Lib.hid (Nat.le_trans S3'.out hb4.size)
      have a0 := PA4.out.1; have a1 := PA4.out.2.1; have az := PA4.out.2.2.2.2
      have b0 := PB4.out.1; have b1 := PB4.out.2.1; have b2 := PB4.out.2.2.1; have b3 := PB4.out.2.2.2.1; have bz := PB4.out.2.2.2.2
      have hne : w.heap.size ≠ w1.heap.size := by have := hb1.size; simp at this; omega
      go_wp2_with fail
      refine (alive_any _).mono ?_
      rintro _ w9 ⟨rfl, hb9⟩
      go_wp2
      go_ret
      exact ⟨rfl, below_call ((L4'.out.setCell S1'.out _).setCell S1'.out _) (by simpa using S4'.out) hb9⟩
    · have q3 := Lib.hid (at_is s L C m 4 hs hm hf)
      clear hx hy hm he hf r1 r2
      go_enter Try.func6, Try.ntmps6
      go_wp2_with fail
      refine (q1.out _).mono ?_
      rintro _ w1 ⟨rfl, hb1⟩
      have L1 := alloc_call (Below.refl _ w) (Nat.le_refl _) hb1
      have S1 := alloc_size hb1
      have L1' := Lib.hid L1; have S1' := Lib.hid S1; clear L1 S1
      have PA := Lib.hid (P0.out.below hb1)
      have PB := Lib.hid (PlAt.new w1 x y)
      have b0 := PB.out.1; have b1 := PB.out.2.1; have bz := PB.out.2.2.2.2
      go_wp2_with fail
      refine (q2.out _).mono ?_
      rintro _ w2 ⟨rfl, hb2⟩
      clear b0 b1 bz
      have PA2 := Lib.hid ((PA.out.alloc (.cells #[.int .i64 x, .int .i64 y] 26)).below hb2)
      have PB2 := Lib.hid (PB.out.below hb2)
      have L2' := Lib.hid (alloc_call L1'.out S1'.out hb2); have S2' := Lib.hid (Nat.le_trans S1'.out (alloc_size hb2))
      have a0 := PA2.out.1; have a1 := PA2.out.2.1; have az := PA2.out.2.2.2.2
      go_wp2_with fail
      refine (q3.out _).mono ?_
      rintro _ w3 ⟨rfl, hb3⟩
      clear a0 a1 az
      have PA3 := Lib.hid (PA2.out.below hb3)
      have PB3 := Lib.hid (PB2.out.below hb3)
      have L3' := Lib.hid (below_call L2'.out S2'.out hb3); have S3' := Lib.hid (Nat.le_trans S2'.out hb3.size)
      go_wp2_with fail
      refine (alive_any _).mono ?_
      rintro _ w9 ⟨rfl, hb9⟩
      go_wp2
      go_ret
      exact ⟨rfl, below_call L3'.out S3'.out hb9⟩
  · have q1 := Lib.hid (of_is s n x y 4 hs hx hy he)
    rcases at_E s.data.toList L C with hf | ⟨hf, -⟩
    · have q3 := Lib.hid (at_is s L C m 0 hs hm hf)
      obtain ⟨u1, u2, u3⟩ := of_at s.data.toList L C hf
      rw [hm] at u1 u2 u3
      have q4 := Lib.hid (of_is s m L C 0 hs u1 u2 u3)
      clear hx hy hm he hf u1 u2 u3
      go_enter Try.func6, Try.ntmps6
      go_wp2_with fail
      refine (q1.out _).mono ?_
      rintro _ w1 ⟨rfl, hb1⟩
      have L1 := alloc_call (Below.refl _ w) (Nat.le_refl _) hb1
      have S1 := alloc_size hb1
      have L1' := Lib.hid L1; have S1' := Lib.hid S1; clear L1 S1
      have PA := Lib.hid (P0.out.below hb1)
      have PB := Lib.hid (PlAt.new w1 x y)
      have a0 := PA.out.1; have a1 := PA.out.2.1; have az := PA.out.2.2.2.2
      go_wp2_with fail
      refine (q3.out _).mono ?_
      rintro _ w3 ⟨rfl, hb3⟩
      clear a0 a1 az
      have PA3 := Lib.hid ((PA.out.alloc (.cells #[.int .i64 x, .int .i64 y] 26)).below hb3)
      have PB3 := Lib.hid (PB.out.below hb3)
      have L3' := Lib.hid (alloc_call L1'.out S1'.out hb3); have S3' := Lib.hid (Nat.le_trans S1'.out (alloc_size hb3))
      go_wp2_with fail
      refine (q4.out _).mono ?_
      rintro _ w4 ⟨rfl, hb4⟩
      have PA4 := Lib.hid (PA3.out.below hb4)
      have PB4 := Lib.hid (PB3.out.below hb4)
      have L4' := Lib.hid (below_call L3'.out S3'.out hb4); have S4' := Lib.hid (Nat.le_trans S3'.out hb4.size)
      have a0 := PA4.out.1; have a1 := PA4.out.2.1; have az := PA4.out.2.2.2.2
      have b0 := PB4.out.1; have b1 := PB4.out.2.1; have b2 := PB4.out.2.2.1; have b3 := PB4.out.2.2.2.1; have bz := PB4.out.2.2.2.2
      have hne : w.heap.size ≠ w1.heap.size := by have := hb1.size; simp at this; omega
      go_wp2_with fail
      refine (alive_any _).mono ?_
      rintro _ w9 ⟨rfl, hb9⟩
      go_wp2
      go_ret
      exact ⟨rfl, below_call ((L4'.out.setCell S1'.out _).setCell S1'.out _) (by simpa using S4'.out) hb9⟩
    · have q3 := Lib.hid (at_is s L C m 4 hs hm hf)
      clear hx hy hm he hf
      go_enter Try.func6, Try.ntmps6
      go_wp2_with fail
      refine (q1.out _).mono ?_
      rintro _ w1 ⟨rfl, hb1⟩
      have L1 := alloc_call (Below.refl _ w) (Nat.le_refl _) hb1
      have S1 := alloc_size hb1
      have L1' := Lib.hid L1; have S1' := Lib.hid S1; clear L1 S1
      have PA := Lib.hid (P0.out.below hb1)
      have PB := Lib.hid (PlAt.new w1 x y)
      have a0 := PA.out.1; have a1 := PA.out.2.1; have az := PA.out.2.2.2.2
      go_wp2_with fail
      refine (q3.out _).mono ?_
      rintro _ w3 ⟨rfl, hb3⟩
      clear a0 a1 az
      have PA3 := Lib.hid ((PA.out.alloc (.cells #[.int .i64 x, .int .i64 y] 26)).below hb3)
      have PB3 := Lib.hid (PB.out.below hb3)
      have L3' := Lib.hid (alloc_call L1'.out S1'.out hb3); have S3' := Lib.hid (Nat.le_trans S1'.out (alloc_size hb3))
      go_wp2_with fail
      refine (alive_any _).mono ?_
      rintro _ w9 ⟨rfl, hb9⟩
      go_wp2
      go_ret
      exact ⟨rfl, below_call L3'.out S3'.out hb9⟩
end Go.Proofs.Ytkilhbojkigpgaa
