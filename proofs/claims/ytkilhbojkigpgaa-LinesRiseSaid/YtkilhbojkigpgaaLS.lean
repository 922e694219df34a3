/- LinesSteps: the walk. -/
import Derived.Test.YtkilhbojkigpgaaFacts
namespace Go.Proofs.Ytkilhbojkigpgaa
set_option linter.unusedSimpArgs false
set_option linter.unusedVariables false
open Go.RowKit

theorem of_is (s : ByteArray) (n x y e : Int) (hs : s.size ≤ 140737488355328) (hx : ofL s.data.toList n = x) (hy : ofC s.data.toList n = y) (he : ofE s.data.toList n = e) :
    ∀ w, Calls Try.prog 14 #[.string s, .int .i64 n] w fun r w' => r = .returned (.tuple #[pl x y, .int .i64 e]) ∧ Below w.heap.size w w' := by
  rw [← hx, ← hy, ← he]; exact fun w => of_any s n w hs

theorem alloc2_call {B : Nat} {w0 w w' : World} {o o2 : Obj} (h : Below B w0 w) (hB : B ≤ w.heap.size) (h' : Below ((w.alloc o).alloc o2).heap.size ((w.alloc o).alloc o2) w') : Below B w0 w' :=
  alloc_call (h.alloc hB o) (by simp; omega) h'

theorem steps_out (s : ByteArray) (n : Int) (w : World) (h : n < 0 ∨ (s.size : Int) ≤ n) :
    Calls Try.prog 9 #[.string s, .int .i64 n] w fun r w' => r = .returned (.bool true) ∧ Below w.heap.size w w' := by
  rcases h with h | h
  · go_enter Try.func9, Try.ntmps9
    go_wp2_with fail
    refine (alive_any _).mono ?_
    rintro _ w3 ⟨rfl, hb3⟩
    go_wp2
    go_ret
    exact ⟨rfl, hb3⟩
  · by_cases h0 : n < 0
    · omega
    · go_enter Try.func9, Try.ntmps9
      go_wp2_with fail
      refine (alive_any _).mono ?_
      rintro _ w3 ⟨rfl, hb3⟩
      go_wp2
      go_ret
      exact ⟨rfl, hb3⟩

theorem steps_in (s : ByteArray) (k : Nat) (w : World) (hs : s.size ≤ 140737488355328) (h : k < s.size) :
    Calls Try.prog 9 #[.string s, .int .i64 k] w fun r w' => r = .returned (.bool true) ∧ Below w.heap.size w w' := by
  have hl : s.data.toList.length = s.size := by simp
  have hk : k < s.data.toList.length := by omega
  have hb := byteAt s k h hk
  obtain ⟨b1, b2, b3, b4⟩ := of_bounds s.data.toList k
  have g1 := (of_in s.data.toList k (by omega)).2.2
  have g2 := (of_in s.data.toList ((k : Int) + 1) (by omega)).2.2
  obtain ⟨x, hx⟩ : ∃ x, ofL s.data.toList k = x := ⟨_, rfl⟩
  obtain ⟨y, hy⟩ : ∃ y, ofC s.data.toList k = y := ⟨_, rfl⟩
  have q1 := Lib.hid (of_is s k x y 0 hs hx hy g1)
  rw [hx, hl] at b2
  rw [hy, hl] at b4
  rw [hx] at b1
  rw [hy] at b3
  by_cases hc : s[k]'h = 10
  · obtain ⟨e1, e2⟩ := of_step_nl s.data.toList k hk (by rw [hb]; exact hc)
    rw [hx] at e1
    have q2 := Lib.hid (of_is s _ _ _ 0 hs e1 e2 g2)
    have t1 : (((s[k]'h).toNat : Int) == 10) = true := by rw [hc]; rfl
    clear e1 e2 g1 g2 hx hy hc hb hl hk
    go_enter Try.func9, Try.ntmps9
    go_wp2_with fail
    refine (q1.out _).mono ?_
    rintro _ w1 ⟨rfl, hb1⟩
    have P1 := Lib.hid (PlAt.new w1 x y)
    go_wp2_with fail
    refine (q2.out _).mono ?_
    rintro _ w2 ⟨rfl, hb2⟩
    have P2 := Lib.hid (P1.out.below hb2)
    have c0 := P2.out.1; have c1 := P2.out.2.1; have hz := P2.out.2.2.2.2
    go_wp2_with fail
    refine (alive_any _).mono ?_
    rintro _ w3 ⟨rfl, hb3⟩
    go_wp2
    go_ret
    exact ⟨rfl, alloc2_call (alloc_call hb1 hb1.size hb2) (Nat.le_trans hb1.size (alloc_size hb2)) hb3⟩
  · obtain ⟨e1, e2⟩ := of_step_other s.data.toList k hk (by rw [hb]; exact hc)
    rw [hx] at e1
    rw [hy] at e2
    have q2 := Lib.hid (of_is s _ _ _ 0 hs e1 e2 g2)
    have t1 : (((s[k]'h).toNat : Int) == 10) = false := by
      rw [beq_eq_false_iff_ne]; intro e; exact hc (UInt8.toNat_inj.1 (by have e10 : (10 : UInt8).toNat = 10 := rfl; omega))
    clear e1 e2 g1 g2 hx hy hc hb hl hk
    go_enter Try.func9, Try.ntmps9
    go_wp2_with fail
    refine (q1.out _).mono ?_
    rintro _ w1 ⟨rfl, hb1⟩
    have P1 := Lib.hid (PlAt.new w1 x y)
    go_wp2_with fail
    refine (q2.out _).mono ?_
    rintro _ w2 ⟨rfl, hb2⟩
    have P2 := Lib.hid (P1.out.below hb2)
    have c0 := P2.out.1; have c1 := P2.out.2.1; have hz := P2.out.2.2.2.2
    go_wp2_with fail
    refine (alive_any _).mono ?_
    rintro _ w3 ⟨rfl, hb3⟩
    go_wp2
    go_ret
    exact ⟨rfl, alloc2_call (alloc_call hb1 hb1.size hb2) (Nat.le_trans hb1.size (alloc_size hb2)) hb3⟩

theorem steps_walk (s : ByteArray) (n : Int) (w : World) (hs : s.size ≤ 140737488355328) :
    Calls Try.prog 9 #[.string s, .int .i64 n] w fun r w' => r = .returned (.bool true) ∧ Below w.heap.size w w' := by
  by_cases h : 0 ≤ n ∧ n < (s.size : Int)
  · have := steps_in s n.toNat w hs (by omega)
    rwa [show ((n.toNat : Nat) : Int) = n by omega] at this
  · exact steps_out s n w (by omega)
end Go.Proofs.Ytkilhbojkigpgaa
