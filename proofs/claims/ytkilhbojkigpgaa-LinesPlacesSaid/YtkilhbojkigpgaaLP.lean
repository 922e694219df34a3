/- LinesPlaces: the walk. -/
import Derived.Test.YtkilhbojkigpgaaAlive
namespace Go.Proofs.Ytkilhbojkigpgaa
set_option linter.unusedSimpArgs false
set_option linter.unusedVariables false
open Go.RowKit

theorem places_walk (s : ByteArray) (n : Int) (w : World) (hs : s.size ≤ 140737488355328) :
    Calls Try.prog 4 #[.string s, .int .i64 n] w fun r w' => r = .returned (.bool true) ∧ Below w.heap.size w w' := by
  obtain ⟨x, hx⟩ : ∃ x, ofL s.data.toList n = x := ⟨_, rfl⟩
  obtain ⟨y, hy⟩ : ∃ y, ofC s.data.toList n = y := ⟨_, rfl⟩
  obtain ⟨e, he⟩ : ∃ e, ofE s.data.toList n = e := ⟨_, rfl⟩
  have q1 : ∀ w, Calls Try.prog 14 #[.string s, .int .i64 n] w fun r w' => r = .returned (.tuple #[pl x y, .int .i64 e]) ∧ Below w.heap.size w w' := by
    rw [← hx, ← hy, ← he]; exact fun w => of_any s n w hs
  have q2 : ∀ w, Calls Try.prog 15 #[.string s, .int .i64 n] w fun r w' => r = .returned (.tuple #[pl x y, .int .i64 e]) ∧ Below w.heap.size w w' := by
    rw [← hx, ← hy, ← he]; exact fun w => rof_any s n w hs
  have q1' := Lib.hid q1; have q2' := Lib.hid q2
  clear q1 q2 hx hy he
  go_enter Try.func4, Try.ntmps4
  go_wp2_with fail
  refine (q1'.out _).mono ?_
  rintro _ w1 ⟨rfl, hb1⟩
  have P1 := Lib.hid (PlAt.new w1 x y)
  go_wp2_with fail
  refine (q2'.out _).mono ?_
  rintro _ w2 ⟨rfl, hb2⟩
  have P2 := Lib.hid ((P1.out.below hb2).alloc (.cells #[.int .i64 x, .int .i64 y] 26))
  have P3 := Lib.hid (PlAt.new w2 x y)
  have c0 := P2.out.1; have c1 := P2.out.2.1; have hz := P2.out.2.2.2.2
  have d0 := P3.out.1; have d1 := P3.out.2.1
  go_wp2_with fail
  refine (alive_any _).mono ?_
  rintro _ w3 ⟨rfl, hb3⟩
  go_wp2
  go_ret
  exact ⟨rfl, alloc_call (alloc_call hb1 hb1.size hb2) (Nat.le_trans hb1.size (alloc_size hb2)) hb3⟩
end Go.Proofs.Ytkilhbojkigpgaa
