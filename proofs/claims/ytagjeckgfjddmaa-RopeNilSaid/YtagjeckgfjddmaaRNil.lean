/- RopeNil: the walk. -/
import Derived.Test.YtagjeckgfjddmaaLook
namespace Go.Proofs.Ytagjeckgfjddmaa
set_option linter.unusedSimpArgs false
set_option linter.unusedVariables false
open Go.RowKit

theorem St.lked (w : World) (n f g L C s e : Int) (t : ByteArray) : St w ((w.alloc (lkO n f g L C)).alloc (edO s e t)) [] [(w.heap.size, 0, .int .i64 n), (w.heap.size, 1, .int .i64 f), (w.heap.size, 2, .int .i64 g), (w.heap.size, 3, .int .i64 L), (w.heap.size, 4, .int .i64 C), (w.heap.size + 1, 0, .int .i64 s), (w.heap.size + 1, 1, .int .i64 e), (w.heap.size + 1, 2, .string t)] :=
  ⟨((Below.refl _ _).alloc (Nat.le_refl _) _).alloc (by simp) _, by simp, by
    intro c hc
    simp only [List.mem_cons, List.not_mem_nil, or_false] at hc
    rcases hc with rfl | rfl | rfl | rfl | rfl | rfl | rfl | rfl <;> exact ⟨by simp, by simp; try omega⟩⟩

set_option maxHeartbeats 4000000 in
set_option maxRecDepth 100000 in
theorem nil_walk (n f g L C s e : Int) (t : ByteArray) (w : World) :
    Calls Try.prog 6 #[lk n f g L C, Ed.ed s e t] w fun r w' => r = .returned (.bool true) ∧ Below w.heap.size w w' := by
  have S0 := Lib.hid (St.lked w n f g L C s e t)
  go_enter Try.func6, Try.ntmps6
  go_wp2_with fail
  go_loopw [5] (fun i wr => ∃ k : Nat, k ≤ 2 ∧ i = .int .i64 k ∧ St w wr [] [(w.heap.size, 0, .int .i64 n), (w.heap.size, 1, .int .i64 f), (w.heap.size, 2, .int .i64 g), (w.heap.size, 3, .int .i64 L), (w.heap.size, 4, .int .i64 C), (w.heap.size + 1, 0, .int .i64 s), (w.heap.size + 1, 1, .int .i64 e), (w.heap.size + 1, 2, .string t)]) (fun i _ => 2 - (intOf i).toNat)
  case atStart => exact ⟨0, by omega, rfl, S0.out⟩
  case round =>
    clear S0
    obtain ⟨k, hk, rfl, hS⟩ := hrel
    have S0 := Lib.hid hS
    clear hS
    rcases (show k = 0 ∨ k = 1 ∨ k = 2 by omega) with rfl | rfl | rfl
    · have N0 := Lib.hid (show NoRope wr (.pointer none) from .inl rfl)
      have c0 := S0.out.c0.1
      have z0 := S0.out.c0.2
      have c1 := S0.out.tl.c0.1
      have z1 := S0.out.tl.c0.2
      have c2 := S0.out.tl.tl.c0.1
      have z2 := S0.out.tl.tl.c0.2
      have c3 := S0.out.tl.tl.tl.c0.1
      have z3 := S0.out.tl.tl.tl.c0.2
      have c4 := S0.out.tl.tl.tl.tl.c0.1
      have z4 := S0.out.tl.tl.tl.tl.c0.2
      have c5 := S0.out.tl.tl.tl.tl.tl.c0.1
      have z5 := S0.out.tl.tl.tl.tl.tl.c0.2
      have c6 := S0.out.tl.tl.tl.tl.tl.tl.c0.1
      have z6 := S0.out.tl.tl.tl.tl.tl.tl.c0.2
      have c7 := S0.out.tl.tl.tl.tl.tl.tl.tl.c0.1
      have z7 := S0.out.tl.tl.tl.tl.tl.tl.tl.c0.2
      go_wp2_with fail
      refine (byte_no (.pointer none) n _ N0.out).mono ?_
      rintro _ w1 ⟨rfl, hb⟩
      have N1 := Lib.hid (N0.out.below hb)
      clear N0
      clear c0 z0 c1 z1 c2 z2 c3 z3 c4 z4 c5 z5 c6 z6 c7 z7
      have S1 := Lib.hid (((S0.out).up hb))
      clear S0
      clear hb
      have c0 := S1.out.c0.1
      have z0 := S1.out.c0.2
      have c1 := S1.out.tl.c0.1
      have z1 := S1.out.tl.c0.2
      have c2 := S1.out.tl.tl.c0.1
      have z2 := S1.out.tl.tl.c0.2
      have c3 := S1.out.tl.tl.tl.c0.1
      have z3 := S1.out.tl.tl.tl.c0.2
      have c4 := S1.out.tl.tl.tl.tl.c0.1
      have z4 := S1.out.tl.tl.tl.tl.c0.2
      have c5 := S1.out.tl.tl.tl.tl.tl.c0.1
      have z5 := S1.out.tl.tl.tl.tl.tl.c0.2
      have c6 := S1.out.tl.tl.tl.tl.tl.tl.c0.1
      have z6 := S1.out.tl.tl.tl.tl.tl.tl.c0.2
      have c7 := S1.out.tl.tl.tl.tl.tl.tl.tl.c0.1
      have z7 := S1.out.tl.tl.tl.tl.tl.tl.tl.c0.2
      go_wp2_with fail
      refine (slice_no (.pointer none) f g _ N1.out).mono ?_
      rintro _ w2 ⟨rfl, hb⟩
      have N2 := Lib.hid (N1.out.below hb)
      clear N1
      clear c0 z0 c1 z1 c2 z2 c3 z3 c4 z4 c5 z5 c6 z6 c7 z7
      have S2 := Lib.hid (((S1.out).up hb))
      clear S1
      clear hb
      have c0 := S2.out.c0.1
      have z0 := S2.out.c0.2
      have c1 := S2.out.tl.c0.1
      have z1 := S2.out.tl.c0.2
      have c2 := S2.out.tl.tl.c0.1
      have z2 := S2.out.tl.tl.c0.2
      have c3 := S2.out.tl.tl.tl.c0.1
      have z3 := S2.out.tl.tl.tl.c0.2
      have c4 := S2.out.tl.tl.tl.tl.c0.1
      have z4 := S2.out.tl.tl.tl.tl.c0.2
      have c5 := S2.out.tl.tl.tl.tl.tl.c0.1
      have z5 := S2.out.tl.tl.tl.tl.tl.c0.2
      have c6 := S2.out.tl.tl.tl.tl.tl.tl.c0.1
      have z6 := S2.out.tl.tl.tl.tl.tl.tl.c0.2
      have c7 := S2.out.tl.tl.tl.tl.tl.tl.tl.c0.1
      have z7 := S2.out.tl.tl.tl.tl.tl.tl.tl.c0.2
      go_wp2_with fail
      refine (splice_no (.pointer none) s e t _ N2.out).mono ?_
      rintro _ w3 ⟨rfl, hb⟩
      have N3 := Lib.hid (N2.out.below hb)
      clear N2
      clear c0 z0 c1 z1 c2 z2 c3 z3 c4 z4 c5 z5 c6 z6 c7 z7
      have S3 := Lib.hid (((S2.out).up hb))
      clear S2
      clear hb
      have c0 := S3.out.c0.1
      have z0 := S3.out.c0.2
      have c1 := S3.out.tl.c0.1
      have z1 := S3.out.tl.c0.2
      have c2 := S3.out.tl.tl.c0.1
      have z2 := S3.out.tl.tl.c0.2
      have c3 := S3.out.tl.tl.tl.c0.1
      have z3 := S3.out.tl.tl.tl.c0.2
      have c4 := S3.out.tl.tl.tl.tl.c0.1
      have z4 := S3.out.tl.tl.tl.tl.c0.2
      have c5 := S3.out.tl.tl.tl.tl.tl.c0.1
      have z5 := S3.out.tl.tl.tl.tl.tl.c0.2
      have c6 := S3.out.tl.tl.tl.tl.tl.tl.c0.1
      have z6 := S3.out.tl.tl.tl.tl.tl.tl.c0.2
      have c7 := S3.out.tl.tl.tl.tl.tl.tl.tl.c0.1
      have z7 := S3.out.tl.tl.tl.tl.tl.tl.tl.c0.2
      go_wp2_with fail
      refine (of_no (.pointer none) n _ N3.out).mono ?_
      rintro _ w4 ⟨rfl, hb⟩
      have N4 := Lib.hid (N3.out.below hb)
      clear N3
      clear c0 z0 c1 z1 c2 z2 c3 z3 c4 z4 c5 z5 c6 z6 c7 z7
      have S4 := Lib.hid (((S3.out).up hb))
      clear S3
      clear hb
      have S5 := Lib.hid (S4.out.place (x := 0) (y := 0))
      clear S4
      have N5 := Lib.hid (N4.out.alloc (.cells #[.int .i64 0, .int .i64 0] 34))
      clear N4
      have c0 := S5.out.c0.1
      have z0 := S5.out.c0.2
      have c1 := S5.out.tl.c0.1
      have z1 := S5.out.tl.c0.2
      have c2 := S5.out.tl.tl.c0.1
      have z2 := S5.out.tl.tl.c0.2
      have c3 := S5.out.tl.tl.tl.c0.1
      have z3 := S5.out.tl.tl.tl.c0.2
      have c4 := S5.out.tl.tl.tl.tl.c0.1
      have z4 := S5.out.tl.tl.tl.tl.c0.2
      have c5 := S5.out.tl.tl.tl.tl.tl.c0.1
      have z5 := S5.out.tl.tl.tl.tl.tl.c0.2
      have c6 := S5.out.tl.tl.tl.tl.tl.tl.c0.1
      have z6 := S5.out.tl.tl.tl.tl.tl.tl.c0.2
      have c7 := S5.out.tl.tl.tl.tl.tl.tl.tl.c0.1
      have z7 := S5.out.tl.tl.tl.tl.tl.tl.tl.c0.2
      have c8 := S5.out.tl.tl.tl.tl.tl.tl.tl.tl.c0.1
      have z8 := S5.out.tl.tl.tl.tl.tl.tl.tl.tl.c0.2
      have c9 := S5.out.tl.tl.tl.tl.tl.tl.tl.tl.tl.c0.1
      have z9 := S5.out.tl.tl.tl.tl.tl.tl.tl.tl.tl.c0.2
      go_wp2_with fail
      refine (at_no (.pointer none) L C _ N5.out).mono ?_
      rintro _ w5 ⟨rfl, hb⟩
      have N6 := Lib.hid (N5.out.below hb)
      clear N5
      clear c0 z0 c1 z1 c2 z2 c3 z3 c4 z4 c5 z5 c6 z6 c7 z7 c8 z8 c9 z9
      have S6 := Lib.hid (((S5.out).up hb))
      clear S5
      clear hb
      have c0 := S6.out.c0.1
      have z0 := S6.out.c0.2
      have c1 := S6.out.tl.c0.1
      have z1 := S6.out.tl.c0.2
      have c2 := S6.out.tl.tl.c0.1
      have z2 := S6.out.tl.tl.c0.2
      have c3 := S6.out.tl.tl.tl.c0.1
      have z3 := S6.out.tl.tl.tl.c0.2
      have c4 := S6.out.tl.tl.tl.tl.c0.1
      have z4 := S6.out.tl.tl.tl.tl.c0.2
      have c5 := S6.out.tl.tl.tl.tl.tl.c0.1
      have z5 := S6.out.tl.tl.tl.tl.tl.c0.2
      have c6 := S6.out.tl.tl.tl.tl.tl.tl.c0.1
      have z6 := S6.out.tl.tl.tl.tl.tl.tl.c0.2
      have c7 := S6.out.tl.tl.tl.tl.tl.tl.tl.c0.1
      have z7 := S6.out.tl.tl.tl.tl.tl.tl.tl.c0.2
      have c8 := S6.out.tl.tl.tl.tl.tl.tl.tl.tl.c0.1
      have z8 := S6.out.tl.tl.tl.tl.tl.tl.tl.tl.c0.2
      have c9 := S6.out.tl.tl.tl.tl.tl.tl.tl.tl.tl.c0.1
      have z9 := S6.out.tl.tl.tl.tl.tl.tl.tl.tl.tl.c0.2
      go_wp2_with fail
      refine (len_no (.pointer none) _ N6.out).mono ?_
      rintro _ _ ⟨rfl, rfl⟩
      go_wp2_with fail
      refine (text_no (.pointer none) _ N6.out).mono ?_
      rintro _ w6 ⟨rfl, hb⟩
      have N7 := Lib.hid (N6.out.below hb)
      clear N6
      clear c0 z0 c1 z1 c2 z2 c3 z3 c4 z4 c5 z5 c6 z6 c7 z7 c8 z8 c9 z9
      have S7 := Lib.hid (((S6.out).up hb))
      clear S6
      clear hb
      have c0 := S7.out.c0.1
      have z0 := S7.out.c0.2
      have c1 := S7.out.tl.c0.1
      have z1 := S7.out.tl.c0.2
      have c2 := S7.out.tl.tl.c0.1
      have z2 := S7.out.tl.tl.c0.2
      have c3 := S7.out.tl.tl.tl.c0.1
      have z3 := S7.out.tl.tl.tl.c0.2
      have c4 := S7.out.tl.tl.tl.tl.c0.1
      have z4 := S7.out.tl.tl.tl.tl.c0.2
      have c5 := S7.out.tl.tl.tl.tl.tl.c0.1
      have z5 := S7.out.tl.tl.tl.tl.tl.c0.2
      have c6 := S7.out.tl.tl.tl.tl.tl.tl.c0.1
      have z6 := S7.out.tl.tl.tl.tl.tl.tl.c0.2
      have c7 := S7.out.tl.tl.tl.tl.tl.tl.tl.c0.1
      have z7 := S7.out.tl.tl.tl.tl.tl.tl.tl.c0.2
      have c8 := S7.out.tl.tl.tl.tl.tl.tl.tl.tl.c0.1
      have z8 := S7.out.tl.tl.tl.tl.tl.tl.tl.tl.c0.2
      have c9 := S7.out.tl.tl.tl.tl.tl.tl.tl.tl.tl.c0.1
      have z9 := S7.out.tl.tl.tl.tl.tl.tl.tl.tl.tl.c0.2
      go_wp2_with fail
      refine (height_no (.pointer none) _ N7.out).mono ?_
      rintro _ _ ⟨rfl, rfl⟩
      go_wp2_with fail
      refine (leaves_no (.pointer none) _ N7.out).mono ?_
      rintro _ _ ⟨rfl, rfl⟩
      go_wp2_with fail
      refine (same_no _).mono ?_
      rintro _ _ ⟨rfl, rfl⟩
      go_wp2_with fail
      refine (lines_no (.pointer none) _ N7.out).mono ?_
      rintro _ w7 ⟨rfl, hb⟩
      have N8 := Lib.hid (N7.out.below hb)
      clear N7
      clear c0 z0 c1 z1 c2 z2 c3 z3 c4 z4 c5 z5 c6 z6 c7 z7 c8 z8 c9 z9
      have S8 := Lib.hid (((S7.out).up hb))
      clear S7
      clear hb
      have c0 := S8.out.c0.1
      have z0 := S8.out.c0.2
      have c1 := S8.out.tl.c0.1
      have z1 := S8.out.tl.c0.2
      have c2 := S8.out.tl.tl.c0.1
      have z2 := S8.out.tl.tl.c0.2
      have c3 := S8.out.tl.tl.tl.c0.1
      have z3 := S8.out.tl.tl.tl.c0.2
      have c4 := S8.out.tl.tl.tl.tl.c0.1
      have z4 := S8.out.tl.tl.tl.tl.c0.2
      have c5 := S8.out.tl.tl.tl.tl.tl.c0.1
      have z5 := S8.out.tl.tl.tl.tl.tl.c0.2
      have c6 := S8.out.tl.tl.tl.tl.tl.tl.c0.1
      have z6 := S8.out.tl.tl.tl.tl.tl.tl.c0.2
      have c7 := S8.out.tl.tl.tl.tl.tl.tl.tl.c0.1
      have z7 := S8.out.tl.tl.tl.tl.tl.tl.tl.c0.2
      have c8 := S8.out.tl.tl.tl.tl.tl.tl.tl.tl.c0.1
      have z8 := S8.out.tl.tl.tl.tl.tl.tl.tl.tl.c0.2
      have c9 := S8.out.tl.tl.tl.tl.tl.tl.tl.tl.tl.c0.1
      have z9 := S8.out.tl.tl.tl.tl.tl.tl.tl.tl.tl.c0.2
      go_wp2_with fail
      refine (shared_no (.pointer none) _ N8.out).mono ?_
      rintro _ w8 ⟨rfl, hb⟩
      have N9 := Lib.hid (N8.out.below hb)
      clear N8
      clear c0 z0 c1 z1 c2 z2 c3 z3 c4 z4 c5 z5 c6 z6 c7 z7 c8 z8 c9 z9
      have S9 := Lib.hid (((S8.out).up hb))
      clear S8
      clear hb
      have c0 := S9.out.c0.1
      have z0 := S9.out.c0.2
      have c1 := S9.out.tl.c0.1
      have z1 := S9.out.tl.c0.2
      have c2 := S9.out.tl.tl.c0.1
      have z2 := S9.out.tl.tl.c0.2
      have c3 := S9.out.tl.tl.tl.c0.1
      have z3 := S9.out.tl.tl.tl.c0.2
      have c4 := S9.out.tl.tl.tl.tl.c0.1
      have z4 := S9.out.tl.tl.tl.tl.c0.2
      have c5 := S9.out.tl.tl.tl.tl.tl.c0.1
      have z5 := S9.out.tl.tl.tl.tl.tl.c0.2
      have c6 := S9.out.tl.tl.tl.tl.tl.tl.c0.1
      have z6 := S9.out.tl.tl.tl.tl.tl.tl.c0.2
      have c7 := S9.out.tl.tl.tl.tl.tl.tl.tl.c0.1
      have z7 := S9.out.tl.tl.tl.tl.tl.tl.tl.c0.2
      have c8 := S9.out.tl.tl.tl.tl.tl.tl.tl.tl.c0.1
      have z8 := S9.out.tl.tl.tl.tl.tl.tl.tl.tl.c0.2
      have c9 := S9.out.tl.tl.tl.tl.tl.tl.tl.tl.tl.c0.1
      have z9 := S9.out.tl.tl.tl.tl.tl.tl.tl.tl.tl.c0.2
      go_wp2
      exact ⟨⟨1, by omega, rfl, S9.out.tl.tl⟩, by simp [intOf]⟩
    · have N0 := Lib.hid (show NoRope (wr.alloc (.cells #[.bool false, .pointer none] 62)) (ptr wr.heap.size) from .inr ⟨_, rfl, by simp, by simp⟩)
      have S1 := Lib.hid (S0.out.alloc (.cells #[.bool false, .pointer none] 62))
      clear S0
      have c0 := S1.out.c0.1
      have z0 := S1.out.c0.2
      have c1 := S1.out.tl.c0.1
      have z1 := S1.out.tl.c0.2
      have c2 := S1.out.tl.tl.c0.1
      have z2 := S1.out.tl.tl.c0.2
      have c3 := S1.out.tl.tl.tl.c0.1
      have z3 := S1.out.tl.tl.tl.c0.2
      have c4 := S1.out.tl.tl.tl.tl.c0.1
      have z4 := S1.out.tl.tl.tl.tl.c0.2
      have c5 := S1.out.tl.tl.tl.tl.tl.c0.1
      have z5 := S1.out.tl.tl.tl.tl.tl.c0.2
      have c6 := S1.out.tl.tl.tl.tl.tl.tl.c0.1
      have z6 := S1.out.tl.tl.tl.tl.tl.tl.c0.2
      have c7 := S1.out.tl.tl.tl.tl.tl.tl.tl.c0.1
      have z7 := S1.out.tl.tl.tl.tl.tl.tl.tl.c0.2
      go_wp2_with fail
      refine (byte_no (ptr wr.heap.size) n _ N0.out).mono ?_
      rintro _ w1 ⟨rfl, hb⟩
      have N1 := Lib.hid (N0.out.below hb)
      clear N0
      clear c0 z0 c1 z1 c2 z2 c3 z3 c4 z4 c5 z5 c6 z6 c7 z7
      have S2 := Lib.hid (((S1.out).up hb))
      clear S1
      clear hb
      have c0 := S2.out.c0.1
      have z0 := S2.out.c0.2
      have c1 := S2.out.tl.c0.1
      have z1 := S2.out.tl.c0.2
      have c2 := S2.out.tl.tl.c0.1
      have z2 := S2.out.tl.tl.c0.2
      have c3 := S2.out.tl.tl.tl.c0.1
      have z3 := S2.out.tl.tl.tl.c0.2
      have c4 := S2.out.tl.tl.tl.tl.c0.1
      have z4 := S2.out.tl.tl.tl.tl.c0.2
      have c5 := S2.out.tl.tl.tl.tl.tl.c0.1
      have z5 := S2.out.tl.tl.tl.tl.tl.c0.2
      have c6 := S2.out.tl.tl.tl.tl.tl.tl.c0.1
      have z6 := S2.out.tl.tl.tl.tl.tl.tl.c0.2
      have c7 := S2.out.tl.tl.tl.tl.tl.tl.tl.c0.1
      have z7 := S2.out.tl.tl.tl.tl.tl.tl.tl.c0.2
      go_wp2_with fail
      refine (slice_no (ptr wr.heap.size) f g _ N1.out).mono ?_
      rintro _ w2 ⟨rfl, hb⟩
      have N2 := Lib.hid (N1.out.below hb)
      clear N1
      clear c0 z0 c1 z1 c2 z2 c3 z3 c4 z4 c5 z5 c6 z6 c7 z7
      have S3 := Lib.hid (((S2.out).up hb))
      clear S2
      clear hb
      have c0 := S3.out.c0.1
      have z0 := S3.out.c0.2
      have c1 := S3.out.tl.c0.1
      have z1 := S3.out.tl.c0.2
      have c2 := S3.out.tl.tl.c0.1
      have z2 := S3.out.tl.tl.c0.2
      have c3 := S3.out.tl.tl.tl.c0.1
      have z3 := S3.out.tl.tl.tl.c0.2
      have c4 := S3.out.tl.tl.tl.tl.c0.1
      have z4 := S3.out.tl.tl.tl.tl.c0.2
      have c5 := S3.out.tl.tl.tl.tl.tl.c0.1
      have z5 := S3.out.tl.tl.tl.tl.tl.c0.2
      have c6 := S3.out.tl.tl.tl.tl.tl.tl.c0.1
      have z6 := S3.out.tl.tl.tl.tl.tl.tl.c0.2
      have c7 := S3.out.tl.tl.tl.tl.tl.tl.tl.c0.1
      have z7 := S3.out.tl.tl.tl.tl.tl.tl.tl.c0.2
      go_wp2_with fail
      refine (splice_no (ptr wr.heap.size) s e t _ N2.out).mono ?_
      rintro _ w3 ⟨rfl, hb⟩
      have N3 := Lib.hid (N2.out.below hb)
      clear N2
      clear c0 z0 c1 z1 c2 z2 c3 z3 c4 z4 c5 z5 c6 z6 c7 z7
      have S4 := Lib.hid (((S3.out).up hb))
      clear S3
      clear hb
      have c0 := S4.out.c0.1
      have z0 := S4.out.c0.2
      have c1 := S4.out.tl.c0.1
      have z1 := S4.out.tl.c0.2
      have c2 := S4.out.tl.tl.c0.1
      have z2 := S4.out.tl.tl.c0.2
      have c3 := S4.out.tl.tl.tl.c0.1
      have z3 := S4.out.tl.tl.tl.c0.2
      have c4 := S4.out.tl.tl.tl.tl.c0.1
      have z4 := S4.out.tl.tl.tl.tl.c0.2
      have c5 := S4.out.tl.tl.tl.tl.tl.c0.1
      have z5 := S4.out.tl.tl.tl.tl.tl.c0.2
      have c6 := S4.out.tl.tl.tl.tl.tl.tl.c0.1
      have z6 := S4.out.tl.tl.tl.tl.tl.tl.c0.2
      have c7 := S4.out.tl.tl.tl.tl.tl.tl.tl.c0.1
      have z7 := S4.out.tl.tl.tl.tl.tl.tl.tl.c0.2
      go_wp2_with fail
      refine (of_no (ptr wr.heap.size) n _ N3.out).mono ?_
      rintro _ w4 ⟨rfl, hb⟩
      have N4 := Lib.hid (N3.out.below hb)
      clear N3
      clear c0 z0 c1 z1 c2 z2 c3 z3 c4 z4 c5 z5 c6 z6 c7 z7
      have S5 := Lib.hid (((S4.out).up hb))
      clear S4
      clear hb
      have S6 := Lib.hid (S5.out.place (x := 0) (y := 0))
      clear S5
      have N5 := Lib.hid (N4.out.alloc (.cells #[.int .i64 0, .int .i64 0] 34))
      clear N4
      have c0 := S6.out.c0.1
      have z0 := S6.out.c0.2
      have c1 := S6.out.tl.c0.1
      have z1 := S6.out.tl.c0.2
      have c2 := S6.out.tl.tl.c0.1
      have z2 := S6.out.tl.tl.c0.2
      have c3 := S6.out.tl.tl.tl.c0.1
      have z3 := S6.out.tl.tl.tl.c0.2
      have c4 := S6.out.tl.tl.tl.tl.c0.1
      have z4 := S6.out.tl.tl.tl.tl.c0.2
      have c5 := S6.out.tl.tl.tl.tl.tl.c0.1
      have z5 := S6.out.tl.tl.tl.tl.tl.c0.2
      have c6 := S6.out.tl.tl.tl.tl.tl.tl.c0.1
      have z6 := S6.out.tl.tl.tl.tl.tl.tl.c0.2
      have c7 := S6.out.tl.tl.tl.tl.tl.tl.tl.c0.1
      have z7 := S6.out.tl.tl.tl.tl.tl.tl.tl.c0.2
      have c8 := S6.out.tl.tl.tl.tl.tl.tl.tl.tl.c0.1
      have z8 := S6.out.tl.tl.tl.tl.tl.tl.tl.tl.c0.2
      have c9 := S6.out.tl.tl.tl.tl.tl.tl.tl.tl.tl.c0.1
      have z9 := S6.out.tl.tl.tl.tl.tl.tl.tl.tl.tl.c0.2
      go_wp2_with fail
      refine (at_no (ptr wr.heap.size) L C _ N5.out).mono ?_
      rintro _ w5 ⟨rfl, hb⟩
      have N6 := Lib.hid (N5.out.below hb)
      clear N5
      clear c0 z0 c1 z1 c2 z2 c3 z3 c4 z4 c5 z5 c6 z6 c7 z7 c8 z8 c9 z9
      have S7 := Lib.hid (((S6.out).up hb))
      clear S6
      clear hb
      have c0 := S7.out.c0.1
      have z0 := S7.out.c0.2
      have c1 := S7.out.tl.c0.1
      have z1 := S7.out.tl.c0.2
      have c2 := S7.out.tl.tl.c0.1
      have z2 := S7.out.tl.tl.c0.2
      have c3 := S7.out.tl.tl.tl.c0.1
      have z3 := S7.out.tl.tl.tl.c0.2
      have c4 := S7.out.tl.tl.tl.tl.c0.1
      have z4 := S7.out.tl.tl.tl.tl.c0.2
      have c5 := S7.out.tl.tl.tl.tl.tl.c0.1
      have z5 := S7.out.tl.tl.tl.tl.tl.c0.2
      have c6 := S7.out.tl.tl.tl.tl.tl.tl.c0.1
      have z6 := S7.out.tl.tl.tl.tl.tl.tl.c0.2
      have c7 := S7.out.tl.tl.tl.tl.tl.tl.tl.c0.1
      have z7 := S7.out.tl.tl.tl.tl.tl.tl.tl.c0.2
      have c8 := S7.out.tl.tl.tl.tl.tl.tl.tl.tl.c0.1
      have z8 := S7.out.tl.tl.tl.tl.tl.tl.tl.tl.c0.2
      have c9 := S7.out.tl.tl.tl.tl.tl.tl.tl.tl.tl.c0.1
      have z9 := S7.out.tl.tl.tl.tl.tl.tl.tl.tl.tl.c0.2
      go_wp2_with fail
      refine (len_no (ptr wr.heap.size) _ N6.out).mono ?_
      rintro _ _ ⟨rfl, rfl⟩
      go_wp2_with fail
      refine (text_no (ptr wr.heap.size) _ N6.out).mono ?_
      rintro _ w6 ⟨rfl, hb⟩
      have N7 := Lib.hid (N6.out.below hb)
      clear N6
      clear c0 z0 c1 z1 c2 z2 c3 z3 c4 z4 c5 z5 c6 z6 c7 z7 c8 z8 c9 z9
      have S8 := Lib.hid (((S7.out).up hb))
      clear S7
      clear hb
      have c0 := S8.out.c0.1
      have z0 := S8.out.c0.2
      have c1 := S8.out.tl.c0.1
      have z1 := S8.out.tl.c0.2
      have c2 := S8.out.tl.tl.c0.1
      have z2 := S8.out.tl.tl.c0.2
      have c3 := S8.out.tl.tl.tl.c0.1
      have z3 := S8.out.tl.tl.tl.c0.2
      have c4 := S8.out.tl.tl.tl.tl.c0.1
      have z4 := S8.out.tl.tl.tl.tl.c0.2
      have c5 := S8.out.tl.tl.tl.tl.tl.c0.1
      have z5 := S8.out.tl.tl.tl.tl.tl.c0.2
      have c6 := S8.out.tl.tl.tl.tl.tl.tl.c0.1
      have z6 := S8.out.tl.tl.tl.tl.tl.tl.c0.2
      have c7 := S8.out.tl.tl.tl.tl.tl.tl.tl.c0.1
      have z7 := S8.out.tl.tl.tl.tl.tl.tl.tl.c0.2
      have c8 := S8.out.tl.tl.tl.tl.tl.tl.tl.tl.c0.1
      have z8 := S8.out.tl.tl.tl.tl.tl.tl.tl.tl.c0.2
      have c9 := S8.out.tl.tl.tl.tl.tl.tl.tl.tl.tl.c0.1
      have z9 := S8.out.tl.tl.tl.tl.tl.tl.tl.tl.tl.c0.2
      go_wp2_with fail
      refine (height_no (ptr wr.heap.size) _ N7.out).mono ?_
      rintro _ _ ⟨rfl, rfl⟩
      go_wp2_with fail
      refine (leaves_no (ptr wr.heap.size) _ N7.out).mono ?_
      rintro _ _ ⟨rfl, rfl⟩
      go_wp2_with fail
      refine (same_no _).mono ?_
      rintro _ _ ⟨rfl, rfl⟩
      go_wp2_with fail
      refine (lines_no (ptr wr.heap.size) _ N7.out).mono ?_
      rintro _ w7 ⟨rfl, hb⟩
      have N8 := Lib.hid (N7.out.below hb)
      clear N7
      clear c0 z0 c1 z1 c2 z2 c3 z3 c4 z4 c5 z5 c6 z6 c7 z7 c8 z8 c9 z9
      have S9 := Lib.hid (((S8.out).up hb))
      clear S8
      clear hb
      have c0 := S9.out.c0.1
      have z0 := S9.out.c0.2
      have c1 := S9.out.tl.c0.1
      have z1 := S9.out.tl.c0.2
      have c2 := S9.out.tl.tl.c0.1
      have z2 := S9.out.tl.tl.c0.2
      have c3 := S9.out.tl.tl.tl.c0.1
      have z3 := S9.out.tl.tl.tl.c0.2
      have c4 := S9.out.tl.tl.tl.tl.c0.1
      have z4 := S9.out.tl.tl.tl.tl.c0.2
      have c5 := S9.out.tl.tl.tl.tl.tl.c0.1
      have z5 := S9.out.tl.tl.tl.tl.tl.c0.2
      have c6 := S9.out.tl.tl.tl.tl.tl.tl.c0.1
      have z6 := S9.out.tl.tl.tl.tl.tl.tl.c0.2
      have c7 := S9.out.tl.tl.tl.tl.tl.tl.tl.c0.1
      have z7 := S9.out.tl.tl.tl.tl.tl.tl.tl.c0.2
      have c8 := S9.out.tl.tl.tl.tl.tl.tl.tl.tl.c0.1
      have z8 := S9.out.tl.tl.tl.tl.tl.tl.tl.tl.c0.2
      have c9 := S9.out.tl.tl.tl.tl.tl.tl.tl.tl.tl.c0.1
      have z9 := S9.out.tl.tl.tl.tl.tl.tl.tl.tl.tl.c0.2
      go_wp2_with fail
      refine (shared_no (ptr wr.heap.size) _ N8.out).mono ?_
      rintro _ w8 ⟨rfl, hb⟩
      have N9 := Lib.hid (N8.out.below hb)
      clear N8
      clear c0 z0 c1 z1 c2 z2 c3 z3 c4 z4 c5 z5 c6 z6 c7 z7 c8 z8 c9 z9
      have S10 := Lib.hid (((S9.out).up hb))
      clear S9
      clear hb
      have c0 := S10.out.c0.1
      have z0 := S10.out.c0.2
      have c1 := S10.out.tl.c0.1
      have z1 := S10.out.tl.c0.2
      have c2 := S10.out.tl.tl.c0.1
      have z2 := S10.out.tl.tl.c0.2
      have c3 := S10.out.tl.tl.tl.c0.1
      have z3 := S10.out.tl.tl.tl.c0.2
      have c4 := S10.out.tl.tl.tl.tl.c0.1
      have z4 := S10.out.tl.tl.tl.tl.c0.2
      have c5 := S10.out.tl.tl.tl.tl.tl.c0.1
      have z5 := S10.out.tl.tl.tl.tl.tl.c0.2
      have c6 := S10.out.tl.tl.tl.tl.tl.tl.c0.1
      have z6 := S10.out.tl.tl.tl.tl.tl.tl.c0.2
      have c7 := S10.out.tl.tl.tl.tl.tl.tl.tl.c0.1
      have z7 := S10.out.tl.tl.tl.tl.tl.tl.tl.c0.2
      have c8 := S10.out.tl.tl.tl.tl.tl.tl.tl.tl.c0.1
      have z8 := S10.out.tl.tl.tl.tl.tl.tl.tl.tl.c0.2
      have c9 := S10.out.tl.tl.tl.tl.tl.tl.tl.tl.tl.c0.1
      have z9 := S10.out.tl.tl.tl.tl.tl.tl.tl.tl.tl.c0.2
      go_wp2
      exact ⟨⟨2, by omega, rfl, S10.out.tl.tl⟩, by simp [intOf]⟩
    · go_wp2_with fail
      refine (alive_any _).mono ?_
      rintro _ w9 ⟨rfl, hb⟩
      go_wp2
      go_ret
      exact ⟨rfl, (S0.out.up hb).1⟩

end Go.Proofs.Ytagjeckgfjddmaa
