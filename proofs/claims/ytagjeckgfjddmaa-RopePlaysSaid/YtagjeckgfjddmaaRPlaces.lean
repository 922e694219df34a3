/- RopePlaces: the walk. -/
import Derived.Test.YtagjeckgfjddmaaRCuts
namespace Go.Proofs.Ytagjeckgfjddmaa
set_option linter.unusedSimpArgs false
set_option linter.unusedVariables false
open Go.RowKit

abbrev lk (n f g L C : Int) : Value := .agg #[.int .i64 n, .int .i64 f, .int .i64 g, .int .i64 L, .int .i64 C]
abbrev lkO (n f g L C : Int) : Obj := .cells #[.int .i64 n, .int .i64 f, .int .i64 g, .int .i64 L, .int .i64 C] 36
abbrev edO (s e : Int) (t : ByteArray) : Obj := .cells #[.int .i64 s, .int .i64 e, .string t] 55
theorem St.edlk (w : World) (s e : Int) (t : ByteArray) (n f g L C : Int) : St w ((w.alloc (edO s e t)).alloc (lkO n f g L C)) [] [(w.heap.size + 1, 0, .int .i64 n), (w.heap.size + 1, 3, .int .i64 L), (w.heap.size + 1, 4, .int .i64 C), (w.heap.size, 0, .int .i64 s), (w.heap.size, 1, .int .i64 e), (w.heap.size, 2, .string t)] :=
  ⟨((Below.refl _ _).alloc (Nat.le_refl _) _).alloc (by simp) _, by simp, by
    intro c hc
    simp only [List.mem_cons, List.not_mem_nil, or_false] at hc
    rcases hc with rfl | rfl | rfl | rfl | rfl | rfl <;> exact ⟨by simp, by simp; try omega⟩⟩

set_option maxHeartbeats 4000000 in
set_option maxRecDepth 100000 in
theorem places_long (x t : ByteArray) (a c n f g L C : Int) (w : World) (hx : 65536 < x.size) :
    Calls Try.prog 10 #[.string x, Ed.ed a c t, lk n f g L C] w fun r w' => r = .returned (.bool true) ∧ Below w.heap.size w w' := by
  have S0 := Lib.hid (St.edlk w a c t n f g L C)
  go_enter Try.func10, Try.ntmps10
  go_wp2_with fail
  refine (new_long x _ hx).mono ?_
  rintro _ _ ⟨rfl, rfl⟩
  go_wp2_with fail
  refine (alive_any _).mono ?_
  rintro _ w1 ⟨rfl, hb⟩
  have S1 := Lib.hid (((S0.out).up hb))
  clear S0
  clear hb
  go_wp2
  go_ret
  exact ⟨rfl, S1.out.1⟩

set_option maxHeartbeats 4000000 in
set_option maxRecDepth 100000 in
theorem places_big (x t : ByteArray) (a c n f g L C : Int) (w : World) (hx : x.size ≤ 65536) (h : 3000 < x.size ∨ 3000 < t.size) :
    Calls Try.prog 10 #[.string x, Ed.ed a c t, lk n f g L C] w fun r w' => r = .returned (.bool true) ∧ Below w.heap.size w w' := by
  have hS := Lib.hid (St.edlk w a c t n f g L C)
  by_cases h3 : 3000 < x.size
  · clear h
    go_enter Try.func10, Try.ntmps10
    go_wp2_with fail
    refine (new_tree x _ hx).mono ?_
    rintro _ w1 ⟨b, o, rfl, hr, hq, hb⟩
    have S1 := Lib.hid (hS.out.up hb)
    clear hb hr hq hS
    go_wp2_with fail
    refine (alive_any _).mono ?_
    rintro _ w9 ⟨rfl, hb⟩
    go_wp2
    go_ret
    exact ⟨rfl, (S1.out.up hb).1⟩
  · have h4 : 3000 < t.size := by omega
    clear h
    go_enter Try.func10, Try.ntmps10
    go_wp2_with fail
    refine (new_tree x _ hx).mono ?_
    rintro _ w1 ⟨b, o, rfl, hr, hq, hb⟩
    have S1 := Lib.hid (hS.out.up hb)
    have c5 := S1.out.tl.tl.tl.tl.tl.c0.1
    have z5 := S1.out.tl.tl.tl.tl.tl.c0.2
    clear hb hr hq hS
    go_wp2_with fail
    refine (alive_any _).mono ?_
    rintro _ w9 ⟨rfl, hb⟩
    go_wp2
    go_ret
    exact ⟨rfl, (S1.out.up hb).1⟩

set_option maxHeartbeats 4000000 in
set_option maxRecDepth 100000 in
theorem places_err (x t : ByteArray) (a c n f g L C : Int) (k : Int) (w : World) (hx : x.size ≤ 3000) (ht : t.size ≤ 3000) (hk : k ≠ 0) (hz : Ed.checkZ x.size a c t = k) :
    Calls Try.prog 10 #[.string x, Ed.ed a c t, lk n f g L C] w fun r w' => r = .returned (.bool true) ∧ Below w.heap.size w w' := by
  have S0 := Lib.hid (St.edlk w a c t n f g L C)
  have hsp := Lib.hid (fun (b : Nat) (o : Option T) (wz : World) (r : RopeAt wz b o) (q : TreeOf x o) => splice_err b o x a c t k wz r q (by omega) hk hz)
  have hk' : (k != 0) = true := by simpa using hk
  clear hk hz
  have n1 : ¬ 3000 < x.size := by omega
  have n2 : ¬ 3000 < t.size := by omega
  go_enter Try.func10, Try.ntmps10
  go_wp2_with fail
  refine (new_tree x _ (by omega)).mono ?_
  rintro _ w1 ⟨b, o, rfl, hr, ⟨hq, -⟩, hb⟩
  have S1 := Lib.hid (((S0.out).up hb).add hr)
  clear S0
  clear hb
  have c0 := S1.out.c0.1
  have z0 := S1.out.c0.2
  have c1 := S1.out.tl.c0.1
  have z1 := S1.out.tl.c0.2
  have c2 := S1.out.tl.tl.c0.1
  have z2 := S1.out.tl.tl.c0.2
  have c3 := S1.out.tl.tl.tl.c0.1
  have z3 := S1.out.tl.tl.tl.c0.2
  have c4 := S1.out.tl.tl.tl.tl.c0.1
  have z4 := S1.out.tl.tl.tl.tl.c0.2
  have c5 := S1.out.tl.tl.tl.tl.tl.c0.1
  have z5 := S1.out.tl.tl.tl.tl.tl.c0.2
  clear hr
  have Q := Lib.hid hq
  clear hq
  go_wp2_with fail
  refine (hsp.out b o _ S1.out.r0 Q.out).mono ?_
  rintro _ w2 ⟨rfl, hb⟩
  clear c0 z0 c1 z1 c2 z2 c3 z3 c4 z4 c5 z5
  have S2 := Lib.hid (((S1.out).up hb))
  clear S1
  clear hb
  go_wp2_with fail
  refine (alive_any _).mono ?_
  rintro _ w3 ⟨rfl, hb⟩
  have S3 := Lib.hid (((S2.out).up hb))
  clear S2
  clear hb
  go_wp2
  go_ret
  exact ⟨rfl, S3.out.1⟩

set_option maxHeartbeats 4000000 in
set_option maxRecDepth 100000 in
theorem places_ok (x t : ByteArray) (a c : Nat) (n f g L C : Int) (w : World) (hx : x.size ≤ 3000) (ht : t.size ≤ 3000) (hac : a ≤ c) (hc : c ≤ x.size) (hz : Ed.checkZ x.size a c t = 0) (hn : n ≤ 9223372036854775807) (hL : L ≤ 9223372036854775807) (hC : C ≤ 9223372036854775807) (hC2 : -9223372036854775808 ≤ C) :
    Calls Try.prog 10 #[.string x, Ed.ed a c t, lk n f g L C] w fun r w' => r = .returned (.bool true) ∧ Below w.heap.size w w' := by
  have S0 := Lib.hid (St.edlk w a c t n f g L C)
  have hsp := Lib.hid (fun (b : Nat) (o : Option T) (wz : World) (r : RopeAt wz b o) (q : TreeOf x o) => (splice_ok b o x a c t wz r q hac hc (by omega) hz).mono fun e w' (q : Made _ wz e w') => (show Made (TreeOf (Ed.splice x a c t)) wz e w' by obtain ⟨b2, o2, q1, q2, q3, q4⟩ := q; exact ⟨b2, o2, q1, q2, q3.1, q4⟩))
  generalize Ed.splice x a c t = s at *
  have h1 := Lib.hid (fun (b : Nat) (o : Option T) (wz : World) (r : RopeAt wz b o) (q : TreeOf s o) => text_made b o s wz r q)
  have h2 := Lib.hid (fun (b : Nat) (o : Option T) (wz : World) (r : RopeAt wz b o) (q : TreeOf s o) => of_made b o s n wz r q hn)
  have h3 := Lib.hid (fun (hs : s.size ≤ 65536) (wz : World) => of_any s n wz (by omega))
  have h4 := Lib.hid (fun (b : Nat) (o : Option T) (wz : World) (r : RopeAt wz b o) (q : TreeOf s o) => at_made b o s L C wz r q hL hC hC2)
  have h5 := Lib.hid (fun (hs : s.size ≤ 65536) (wz : World) => at_any s L C wz (by omega))
  have h6 := Lib.hid (fun (b : Nat) (o : Option T) (wz : World) (r : RopeAt wz b o) (q : TreeOf s o) => lines_made b o s wz r q)
  have h7 := Lib.hid (fun (hs : s.size ≤ 65536) (wz : World) => count_lines s (by omega) wz)
  generalize ofL s.data.toList n = v0 at *
  generalize ofC s.data.toList n = v1 at *
  generalize ofE s.data.toList n = v2 at *
  generalize atN s.data.toList L C = v3 at *
  generalize atE s.data.toList L C = v4 at *
  generalize (cntN s.data.toList : Int) + 1 = v5 at *
  clear hz hn hL hC hC2
  have n1 : ¬ 3000 < x.size := by omega
  have n2 : ¬ 3000 < t.size := by omega
  go_enter Try.func10, Try.ntmps10
  go_wp2_with fail
  refine (new_tree x _ (by omega)).mono ?_
  rintro _ w1 ⟨b, o, rfl, hr, ⟨hq, -⟩, hb⟩
  have S1 := Lib.hid (((S0.out).up hb).add hr)
  clear S0
  clear hb
  have c0 := S1.out.c0.1
  have z0 := S1.out.c0.2
  have c1 := S1.out.tl.c0.1
  have z1 := S1.out.tl.c0.2
  have c2 := S1.out.tl.tl.c0.1
  have z2 := S1.out.tl.tl.c0.2
  have c3 := S1.out.tl.tl.tl.c0.1
  have z3 := S1.out.tl.tl.tl.c0.2
  have c4 := S1.out.tl.tl.tl.tl.c0.1
  have z4 := S1.out.tl.tl.tl.tl.c0.2
  have c5 := S1.out.tl.tl.tl.tl.tl.c0.1
  have z5 := S1.out.tl.tl.tl.tl.tl.c0.2
  clear hr
  have Q := Lib.hid hq
  clear hq
  go_wp2_with fail
  refine (hsp.out b o _ S1.out.r0 Q.out).mono ?_
  rintro _ w2 ⟨b2, o2, rfl, hr, hq, hb⟩
  clear c0 z0 c1 z1 c2 z2 c3 z3 c4 z4 c5 z5
  have S2 := Lib.hid (((S1.out).up hb).add hr)
  clear S1
  clear hb
  have c0 := S2.out.c0.1
  have z0 := S2.out.c0.2
  have c1 := S2.out.tl.c0.1
  have z1 := S2.out.tl.c0.2
  have c2 := S2.out.tl.tl.c0.1
  have z2 := S2.out.tl.tl.c0.2
  have c3 := S2.out.tl.tl.tl.c0.1
  have z3 := S2.out.tl.tl.tl.c0.2
  have c4 := S2.out.tl.tl.tl.tl.c0.1
  have z4 := S2.out.tl.tl.tl.tl.c0.2
  have c5 := S2.out.tl.tl.tl.tl.tl.c0.1
  have z5 := S2.out.tl.tl.tl.tl.tl.c0.2
  clear hr
  have Q2 := Lib.hid hq
  have hs := hq.2.2
  clear hq
  go_wp2_with fail
  refine (h1.out b2 o2 _ S2.out.r0 Q2.out).mono ?_
  rintro _ w3 ⟨rfl, hb⟩
  clear c0 z0 c1 z1 c2 z2 c3 z3 c4 z4 c5 z5
  have S3 := Lib.hid (((S2.out).up hb))
  clear S2
  clear hb
  have c0 := S3.out.c0.1
  have z0 := S3.out.c0.2
  have c1 := S3.out.tl.c0.1
  have z1 := S3.out.tl.c0.2
  have c2 := S3.out.tl.tl.c0.1
  have z2 := S3.out.tl.tl.c0.2
  have c3 := S3.out.tl.tl.tl.c0.1
  have z3 := S3.out.tl.tl.tl.c0.2
  have c4 := S3.out.tl.tl.tl.tl.c0.1
  have z4 := S3.out.tl.tl.tl.tl.c0.2
  have c5 := S3.out.tl.tl.tl.tl.tl.c0.1
  have z5 := S3.out.tl.tl.tl.tl.tl.c0.2
  go_wp2_with fail
  refine (h2.out b2 o2 _ S3.out.r0 Q2.out).mono ?_
  rintro _ w4 ⟨rfl, hb⟩
  clear c0 z0 c1 z1 c2 z2 c3 z3 c4 z4 c5 z5
  have S4 := Lib.hid (((S3.out).up hb))
  clear S3
  clear hb
  have S5 := Lib.hid (S4.out.place (x := v0) (y := v1))
  clear S4
  have c0 := S5.out.c0.1
  have z0 := S5.out.c0.2
  have c1 := S5.out.tl.c0.1
  have z1 := S5.out.tl.c0.2
  have c2 := S5.out.tl.tl.c0.1
  have z2 := S5.out.tl.tl.c0.2
  have c3 := S5.out.tl.tl.tl.c0.1
  have z3 := S5.out.tl.tl.tl.c0.2
  have c4 := S5.out.tl.tl.tl.tl.c0.1
  have z4 := S5.out.tl.tl.tl.tl.c0.2
  have c5 := S5.out.tl.tl.tl.tl.tl.c0.1
  have z5 := S5.out.tl.tl.tl.tl.tl.c0.2
  have c6 := S5.out.tl.tl.tl.tl.tl.tl.c0.1
  have z6 := S5.out.tl.tl.tl.tl.tl.tl.c0.2
  have c7 := S5.out.tl.tl.tl.tl.tl.tl.tl.c0.1
  have z7 := S5.out.tl.tl.tl.tl.tl.tl.tl.c0.2
  go_wp2_with fail
  refine (h3.out hs _).mono ?_
  rintro _ w5 ⟨rfl, hb⟩
  clear c0 z0 c1 z1 c2 z2 c3 z3 c4 z4 c5 z5 c6 z6 c7 z7
  have S6 := Lib.hid (((S5.out).up hb))
  clear S5
  clear hb
  have S7 := Lib.hid (S6.out.place (x := v0) (y := v1))
  clear S6
  have c0 := S7.out.c0.1
  have z0 := S7.out.c0.2
  have c1 := S7.out.tl.c0.1
  have z1 := S7.out.tl.c0.2
  have c2 := S7.out.tl.tl.c0.1
  have z2 := S7.out.tl.tl.c0.2
  have c3 := S7.out.tl.tl.tl.c0.1
  have z3 := S7.out.tl.tl.tl.c0.2
  have c4 := S7.out.tl.tl.tl.tl.c0.1
  have z4 := S7.out.tl.tl.tl.tl.c0.2
  have c5 := S7.out.tl.tl.tl.tl.tl.c0.1
  have z5 := S7.out.tl.tl.tl.tl.tl.c0.2
  have c6 := S7.out.tl.tl.tl.tl.tl.tl.c0.1
  have z6 := S7.out.tl.tl.tl.tl.tl.tl.c0.2
  have c7 := S7.out.tl.tl.tl.tl.tl.tl.tl.c0.1
  have z7 := S7.out.tl.tl.tl.tl.tl.tl.tl.c0.2
  have c8 := S7.out.tl.tl.tl.tl.tl.tl.tl.tl.c0.1
  have z8 := S7.out.tl.tl.tl.tl.tl.tl.tl.tl.c0.2
  have c9 := S7.out.tl.tl.tl.tl.tl.tl.tl.tl.tl.c0.1
  have z9 := S7.out.tl.tl.tl.tl.tl.tl.tl.tl.tl.c0.2
  go_wp2_with fail
  refine (h4.out b2 o2 _ S7.out.r0 Q2.out).mono ?_
  rintro _ w6 ⟨rfl, hb⟩
  clear c0 z0 c1 z1 c2 z2 c3 z3 c4 z4 c5 z5 c6 z6 c7 z7 c8 z8 c9 z9
  have S8 := Lib.hid (((S7.out).up hb))
  clear S7
  clear hb
  have c0 := S8.out.c0.1
  have z0 := S8.out.c0.2
  have c1 := S8.out.tl.c0.1
  have z1 := S8.out.tl.c0.2
  have c2 := S8.out.tl.tl.c0.1
  have z2 := S8.out.tl.tl.c0.2
  have c3 := S8.out.tl.tl.tl.c0.1
  have z3 := S8.out.tl.tl.tl.c0.2
  have c4 := S8.out.tl.tl.tl.tl.c0.1
  have z4 := S8.out.tl.tl.tl.tl.c0.2
  have c5 := S8.out.tl.tl.tl.tl.tl.c0.1
  have z5 := S8.out.tl.tl.tl.tl.tl.c0.2
  have c6 := S8.out.tl.tl.tl.tl.tl.tl.c0.1
  have z6 := S8.out.tl.tl.tl.tl.tl.tl.c0.2
  have c7 := S8.out.tl.tl.tl.tl.tl.tl.tl.c0.1
  have z7 := S8.out.tl.tl.tl.tl.tl.tl.tl.c0.2
  have c8 := S8.out.tl.tl.tl.tl.tl.tl.tl.tl.c0.1
  have z8 := S8.out.tl.tl.tl.tl.tl.tl.tl.tl.c0.2
  have c9 := S8.out.tl.tl.tl.tl.tl.tl.tl.tl.tl.c0.1
  have z9 := S8.out.tl.tl.tl.tl.tl.tl.tl.tl.tl.c0.2
  go_wp2_with fail
  refine (h5.out hs _).mono ?_
  rintro _ w7 ⟨rfl, hb⟩
  clear c0 z0 c1 z1 c2 z2 c3 z3 c4 z4 c5 z5 c6 z6 c7 z7 c8 z8 c9 z9
  have S9 := Lib.hid (((S8.out).up hb))
  clear S8
  clear hb
  have c0 := S9.out.c0.1
  have z0 := S9.out.c0.2
  have c1 := S9.out.tl.c0.1
  have z1 := S9.out.tl.c0.2
  have c2 := S9.out.tl.tl.c0.1
  have z2 := S9.out.tl.tl.c0.2
  have c3 := S9.out.tl.tl.tl.c0.1
  have z3 := S9.out.tl.tl.tl.c0.2
  have c4 := S9.out.tl.tl.tl.tl.c0.1
  have z4 := S9.out.tl.tl.tl.tl.c0.2
  have c5 := S9.out.tl.tl.tl.tl.tl.c0.1
  have z5 := S9.out.tl.tl.tl.tl.tl.c0.2
  have c6 := S9.out.tl.tl.tl.tl.tl.tl.c0.1
  have z6 := S9.out.tl.tl.tl.tl.tl.tl.c0.2
  have c7 := S9.out.tl.tl.tl.tl.tl.tl.tl.c0.1
  have z7 := S9.out.tl.tl.tl.tl.tl.tl.tl.c0.2
  have c8 := S9.out.tl.tl.tl.tl.tl.tl.tl.tl.c0.1
  have z8 := S9.out.tl.tl.tl.tl.tl.tl.tl.tl.c0.2
  have c9 := S9.out.tl.tl.tl.tl.tl.tl.tl.tl.tl.c0.1
  have z9 := S9.out.tl.tl.tl.tl.tl.tl.tl.tl.tl.c0.2
  go_wp2_with fail
  refine (h6.out b2 o2 _ S9.out.r0 Q2.out).mono ?_
  rintro _ w8 ⟨rfl, hb⟩
  clear c0 z0 c1 z1 c2 z2 c3 z3 c4 z4 c5 z5 c6 z6 c7 z7 c8 z8 c9 z9
  have S10 := Lib.hid (((S9.out).up hb))
  clear S9
  clear hb
  have c0 := S10.out.c0.1
  have z0 := S10.out.c0.2
  have c1 := S10.out.tl.c0.1
  have z1 := S10.out.tl.c0.2
  have c2 := S10.out.tl.tl.c0.1
  have z2 := S10.out.tl.tl.c0.2
  have c3 := S10.out.tl.tl.tl.c0.1
  have z3 := S10.out.tl.tl.tl.c0.2
  have c4 := S10.out.tl.tl.tl.tl.c0.1
  have z4 := S10.out.tl.tl.tl.tl.c0.2
  have c5 := S10.out.tl.tl.tl.tl.tl.c0.1
  have z5 := S10.out.tl.tl.tl.tl.tl.c0.2
  have c6 := S10.out.tl.tl.tl.tl.tl.tl.c0.1
  have z6 := S10.out.tl.tl.tl.tl.tl.tl.c0.2
  have c7 := S10.out.tl.tl.tl.tl.tl.tl.tl.c0.1
  have z7 := S10.out.tl.tl.tl.tl.tl.tl.tl.c0.2
  have c8 := S10.out.tl.tl.tl.tl.tl.tl.tl.tl.c0.1
  have z8 := S10.out.tl.tl.tl.tl.tl.tl.tl.tl.c0.2
  have c9 := S10.out.tl.tl.tl.tl.tl.tl.tl.tl.tl.c0.1
  have z9 := S10.out.tl.tl.tl.tl.tl.tl.tl.tl.tl.c0.2
  go_wp2_with fail
  refine (h7.out hs _).mono ?_
  rintro _ w9 ⟨rfl, hb⟩
  clear c0 z0 c1 z1 c2 z2 c3 z3 c4 z4 c5 z5 c6 z6 c7 z7 c8 z8 c9 z9
  have S11 := Lib.hid (((S10.out).up hb))
  clear S10
  clear hb
  have c0 := S11.out.c0.1
  have z0 := S11.out.c0.2
  have c1 := S11.out.tl.c0.1
  have z1 := S11.out.tl.c0.2
  have c2 := S11.out.tl.tl.c0.1
  have z2 := S11.out.tl.tl.c0.2
  have c3 := S11.out.tl.tl.tl.c0.1
  have z3 := S11.out.tl.tl.tl.c0.2
  have c4 := S11.out.tl.tl.tl.tl.c0.1
  have z4 := S11.out.tl.tl.tl.tl.c0.2
  have c5 := S11.out.tl.tl.tl.tl.tl.c0.1
  have z5 := S11.out.tl.tl.tl.tl.tl.c0.2
  have c6 := S11.out.tl.tl.tl.tl.tl.tl.c0.1
  have z6 := S11.out.tl.tl.tl.tl.tl.tl.c0.2
  have c7 := S11.out.tl.tl.tl.tl.tl.tl.tl.c0.1
  have z7 := S11.out.tl.tl.tl.tl.tl.tl.tl.c0.2
  have c8 := S11.out.tl.tl.tl.tl.tl.tl.tl.tl.c0.1
  have z8 := S11.out.tl.tl.tl.tl.tl.tl.tl.tl.c0.2
  have c9 := S11.out.tl.tl.tl.tl.tl.tl.tl.tl.tl.c0.1
  have z9 := S11.out.tl.tl.tl.tl.tl.tl.tl.tl.tl.c0.2
  go_wp2_with fail
  refine (alive_any _).mono ?_
  rintro _ w10 ⟨rfl, hb⟩
  clear c0 z0 c1 z1 c2 z2 c3 z3 c4 z4 c5 z5 c6 z6 c7 z7 c8 z8 c9 z9
  have S12 := Lib.hid (((S11.out).up hb))
  clear S11
  clear hb
  have c0 := S12.out.c0.1
  have z0 := S12.out.c0.2
  have c1 := S12.out.tl.c0.1
  have z1 := S12.out.tl.c0.2
  have c2 := S12.out.tl.tl.c0.1
  have z2 := S12.out.tl.tl.c0.2
  have c3 := S12.out.tl.tl.tl.c0.1
  have z3 := S12.out.tl.tl.tl.c0.2
  have c4 := S12.out.tl.tl.tl.tl.c0.1
  have z4 := S12.out.tl.tl.tl.tl.c0.2
  have c5 := S12.out.tl.tl.tl.tl.tl.c0.1
  have z5 := S12.out.tl.tl.tl.tl.tl.c0.2
  have c6 := S12.out.tl.tl.tl.tl.tl.tl.c0.1
  have z6 := S12.out.tl.tl.tl.tl.tl.tl.c0.2
  have c7 := S12.out.tl.tl.tl.tl.tl.tl.tl.c0.1
  have z7 := S12.out.tl.tl.tl.tl.tl.tl.tl.c0.2
  have c8 := S12.out.tl.tl.tl.tl.tl.tl.tl.tl.c0.1
  have z8 := S12.out.tl.tl.tl.tl.tl.tl.tl.tl.c0.2
  have c9 := S12.out.tl.tl.tl.tl.tl.tl.tl.tl.tl.c0.1
  have z9 := S12.out.tl.tl.tl.tl.tl.tl.tl.tl.tl.c0.2
  go_wp2
  go_ret
  exact ⟨rfl, S12.out.1⟩

theorem places_walk (x t : ByteArray) (a c n f g L C : Int) (w : World) (hn : n ≤ 9223372036854775807) (hL : L ≤ 9223372036854775807) (hC : C ≤ 9223372036854775807) (hC2 : -9223372036854775808 ≤ C) :
    Calls Try.prog 10 #[.string x, Ed.ed a c t, lk n f g L C] w fun r w' => r = .returned (.bool true) ∧ Below w.heap.size w w' := by
  by_cases h1 : 65536 < x.size
  · exact places_long x t a c n f g L C w h1
  by_cases h2 : 3000 < x.size ∨ 3000 < t.size
  · exact places_big x t a c n f g L C w (by omega) h2
  by_cases h3 : Ed.checkZ x.size a c t = 0
  · obtain ⟨y, z, rfl, rfl, h4, h5, h6⟩ := fits_nat h3
    exact places_ok x t y z n f g L C w (by omega) (by omega) h4 h5 h3 hn hL hC hC2
  · exact places_err x t a c n f g L C _ w (by omega) (by omega) h3 rfl
end Go.Proofs.Ytagjeckgfjddmaa
