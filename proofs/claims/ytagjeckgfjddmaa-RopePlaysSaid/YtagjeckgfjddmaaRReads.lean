/- RopeReads: the walk. -/
import Derived.Test.YtagjeckgfjddmaaRShares
import Derived.Test.YtagjeckgfjddmaaLook
import Derived.BigRegion
namespace Go.Proofs.Ytagjeckgfjddmaa
set_option linter.unusedSimpArgs false
set_option linter.unusedVariables false
open Go.RowKit

theorem St.look (w : World) (n f g L C : Int) : St w (w.alloc (lkO n f g L C)) [] [(w.heap.size, 0, .int .i64 n), (w.heap.size, 1, .int .i64 f), (w.heap.size, 2, .int .i64 g), (w.heap.size, 3, .int .i64 L), (w.heap.size, 4, .int .i64 C)] :=
  ⟨(Below.refl _ _).alloc (Nat.le_refl _) _, by simp, by
    intro c hc
    simp only [List.mem_cons, List.not_mem_nil, or_false] at hc
    rcases hc with rfl | rfl | rfl | rfl | rfl <;> exact ⟨by simp, by simp⟩⟩

theorem newcell (w : World) (cs : Array Value) (T : TypeId) (B k : Nat) (v : Value) (hB : w.heap.size = B) (h : cs[k]? = some v) : (w.alloc (.cells cs T)).cell? ⟨B, k, none⟩ = some v := by
  subst hB; rw [World.cell?_alloc_new]; exact h
theorem oldcell (w : World) (o : Obj) (B k : Nat) (v : Value) (hB : B < w.heap.size) (h : w.cell? ⟨B, k, none⟩ = some v) : (w.alloc o).cell? ⟨B, k, none⟩ = some v :=
  (World.cell?_alloc_lt w o ⟨B, k, none⟩ hB).trans h
abbrev spO (f g : Int) : Obj := .cells #[.int .i64 f, .int .i64 g] 32
abbrev plO' (L C : Int) : Obj := .cells #[.int .i64 L, .int .i64 C] 34
theorem readsA (w : World) (n f g L C : Int) : St w (((w.alloc (lkO n f g L C)).alloc (spO f g)).alloc (plO' L C)).drew [] [(w.heap.size + 1 + 1, 0, .int .i64 L), (w.heap.size + 1 + 1, 1, .int .i64 C), (w.heap.size + 1, 0, .int .i64 f), (w.heap.size + 1, 1, .int .i64 g)] :=
  ⟨((((Below.refl _ _).alloc (Nat.le_refl _) _).alloc (by simp) _).alloc (by simp; omega) _).drew, by simp, by
    intro c hc
    simp only [List.mem_cons, List.not_mem_nil, or_false] at hc
    rcases hc with rfl | rfl | rfl | rfl <;> exact ⟨by first | exact newcell _ _ _ _ _ _ (by simp) rfl | exact oldcell _ _ _ _ _ (by simp) (newcell _ _ _ _ _ _ (by simp) rfl), by simp; try omega⟩⟩
theorem readsB (w : World) (n f g L C : Int) : St w (((w.alloc (lkO n f g L C)).alloc (plO' L C)).alloc (spO f g)).drew [] [(w.heap.size + 1, 0, .int .i64 L), (w.heap.size + 1, 1, .int .i64 C), (w.heap.size + 1 + 1, 0, .int .i64 f), (w.heap.size + 1 + 1, 1, .int .i64 g)] :=
  ⟨((((Below.refl _ _).alloc (Nat.le_refl _) _).alloc (by simp) _).alloc (by simp; omega) _).drew, by simp, by
    intro c hc
    simp only [List.mem_cons, List.not_mem_nil, or_false] at hc
    rcases hc with rfl | rfl | rfl | rfl <;> exact ⟨by first | exact newcell _ _ _ _ _ _ (by simp) rfl | exact oldcell _ _ _ _ _ (by simp) (newcell _ _ _ _ _ _ (by simp) rfl), by simp; try omega⟩⟩

set_option maxHeartbeats 4000000 in
set_option maxRecDepth 100000 in
theorem reads_long (x : ByteArray) (n f g L C : Int) (w : World) (hx : 65536 < x.size) :
    Calls Try.prog 4 #[.string x, lk n f g L C] w fun r w' => r = .returned (.bool true) ∧ Below w.heap.size w w' := by
  have S0 := Lib.hid (St.look w n f g L C)
  have c0 := S0.out.c0.1
  have z0 := S0.out.c0.2
  have c1 := S0.out.tl.c0.1
  have z1 := S0.out.tl.c0.2
  have c2 := S0.out.tl.tl.c0.1
  have z2 := S0.out.tl.tl.c0.2
  have c3 := S0.out.tl.tl.tl.c0.1
  have z3 := S0.out.tl.tl.tl.c0.2
  have c4 := S0.out.tl.tl.tl.tl.c0.1
  have z4 := S0.out.tl.tl.tl.tl.c0.2
  go_enter Try.func4, Try.ntmps4
  go_wp2_with fail
  go_region
  · clear c0 z0 c1 z1 c2 z2 c3 z3 c4 z4 S0
    have S1 := Lib.hid (readsA w n f g L C)
    have c0 := S1.out.c0.1
    have z0 := S1.out.c0.2
    have c1 := S1.out.tl.c0.1
    have z1 := S1.out.tl.c0.2
    have c2 := S1.out.tl.tl.c0.1
    have z2 := S1.out.tl.tl.c0.2
    have c3 := S1.out.tl.tl.tl.c0.1
    have z3 := S1.out.tl.tl.tl.c0.2
    go_wp2_with fail
    refine (new_long x _ hx).mono ?_
    rintro _ _ ⟨rfl, rfl⟩
    go_wp2_with fail
    refine (alive_any _).mono ?_
    rintro _ w1 ⟨rfl, hb⟩
    clear c0 z0 c1 z1 c2 z2 c3 z3
    have S2 := Lib.hid (((S1.out).up hb))
    clear S1
    clear hb
    go_wp2
    go_ret
    exact ⟨rfl, S2.out.1⟩
  · clear c0 z0 c1 z1 c2 z2 c3 z3 c4 z4 S0
    have S1 := Lib.hid (readsB w n f g L C)
    have c0 := S1.out.c0.1
    have z0 := S1.out.c0.2
    have c1 := S1.out.tl.c0.1
    have z1 := S1.out.tl.c0.2
    have c2 := S1.out.tl.tl.c0.1
    have z2 := S1.out.tl.tl.c0.2
    have c3 := S1.out.tl.tl.tl.c0.1
    have z3 := S1.out.tl.tl.tl.c0.2
    go_wp2_with fail
    refine (new_long x _ hx).mono ?_
    rintro _ _ ⟨rfl, rfl⟩
    go_wp2_with fail
    refine (alive_any _).mono ?_
    rintro _ w1 ⟨rfl, hb⟩
    clear c0 z0 c1 z1 c2 z2 c3 z3
    have S2 := Lib.hid (((S1.out).up hb))
    clear S1
    clear hb
    go_wp2
    go_ret
    exact ⟨rfl, S2.out.1⟩

set_option maxHeartbeats 4000000 in
set_option maxRecDepth 100000 in
theorem reads_ok (x : ByteArray) (n f g L C : Int) (w : World) (hx : x.size ≤ 65536) (hn : n ≤ 9223372036854775807) (hL : L ≤ 9223372036854775807) (hC : C ≤ 9223372036854775807) (hC2 : -9223372036854775808 ≤ C) :
    Calls Try.prog 4 #[.string x, lk n f g L C] w fun r w' => r = .returned (.bool true) ∧ Below w.heap.size w w' := by
  have h1 := Lib.hid (fun (b : Nat) (o : Option T) (wz : World) (r : RopeAt wz b o) (q : TreeOf x o) => byte_any b o x n wz r q)
  have h2 := Lib.hid (fun (wz : World) => rbyte_any x n wz (by omega))
  have h3 := Lib.hid (fun (b : Nat) (o : Option T) (wz : World) (r : RopeAt wz b o) (q : TreeOf x o) => slice_any b o x f g wz r q)
  have h4 := Lib.hid (fun (wz : World) => rslice_any x f g wz (by omega))
  have h5 := Lib.hid (fun (b : Nat) (o : Option T) (wz : World) (r : RopeAt wz b o) (q : TreeOf x o) => lines_made b o x wz r q)
  have h6 := Lib.hid (fun (wz : World) => rcount_any x wz (by omega))
  have h7 := Lib.hid (fun (b : Nat) (o : Option T) (wz : World) (r : RopeAt wz b o) (q : TreeOf x o) => of_made b o x n wz r q hn)
  have h8 := Lib.hid (fun (wz : World) => rof_any x n wz (by omega))
  have h9 := Lib.hid (fun (b : Nat) (o : Option T) (wz : World) (r : RopeAt wz b o) (q : TreeOf x o) => at_made b o x L C wz r q hL hC hC2)
  have h10 := Lib.hid (fun (wz : World) => rat_any x L C wz (by omega))
  generalize byN x.data.toList n = v0 at *
  generalize byE x.data.toList n = v1 at *
  generalize slS x f g = v2 at *
  generalize slE x f g = v3 at *
  generalize (cntN x.data.toList : Int) + 1 = v4 at *
  generalize ofL x.data.toList n = v5 at *
  generalize ofC x.data.toList n = v6 at *
  generalize ofE x.data.toList n = v7 at *
  generalize atN x.data.toList L C = v8 at *
  generalize atE x.data.toList L C = v9 at *
  clear hn hL hC hC2
  have S0 := Lib.hid (St.look w n f g L C)
  have c0 := S0.out.c0.1
  have z0 := S0.out.c0.2
  have c1 := S0.out.tl.c0.1
  have z1 := S0.out.tl.c0.2
  have c2 := S0.out.tl.tl.c0.1
  have z2 := S0.out.tl.tl.c0.2
  have c3 := S0.out.tl.tl.tl.c0.1
  have z3 := S0.out.tl.tl.tl.c0.2
  have c4 := S0.out.tl.tl.tl.tl.c0.1
  have z4 := S0.out.tl.tl.tl.tl.c0.2
  go_enter Try.func4, Try.ntmps4
  go_wp2_with fail
  go_region
  · clear c0 z0 c1 z1 c2 z2 c3 z3 c4 z4 S0
    have S1 := Lib.hid (readsA w n f g L C)
    have c0 := S1.out.c0.1
    have z0 := S1.out.c0.2
    have c1 := S1.out.tl.c0.1
    have z1 := S1.out.tl.c0.2
    have c2 := S1.out.tl.tl.c0.1
    have z2 := S1.out.tl.tl.c0.2
    have c3 := S1.out.tl.tl.tl.c0.1
    have z3 := S1.out.tl.tl.tl.c0.2
    go_wp2_with fail
    refine (new_tree x _ hx).mono ?_
    rintro _ w1 ⟨b, o, rfl, hr, ⟨hq, -⟩, hb⟩
    clear c0 z0 c1 z1 c2 z2 c3 z3
    have S2 := Lib.hid (((S1.out).up hb).add hr)
    clear S1
    clear hb
    have c0 := S2.out.c0.1
    have z0 := S2.out.c0.2
    have c1 := S2.out.tl.c0.1
    have z1 := S2.out.tl.c0.2
    have c2 := S2.out.tl.tl.c0.1
    have z2 := S2.out.tl.tl.c0.2
    have c3 := S2.out.tl.tl.tl.c0.1
    have z3 := S2.out.tl.tl.tl.c0.2
    clear hr
    have Q := Lib.hid hq
    clear hq
    go_wp2_with fail
    refine (h1.out b o _ S2.out.r0 Q.out).mono ?_
    rintro _ w2 ⟨rfl, hb⟩
    clear c0 z0 c1 z1 c2 z2 c3 z3
    have S3 := Lib.hid (((S2.out).up hb))
    clear S2
    clear hb
    have c0 := S3.out.c0.1
    have z0 := S3.out.c0.2
    have c1 := S3.out.tl.c0.1
    have z1 := S3.out.tl.c0.2
    have c2 := S3.out.tl.tl.c0.1
    have z2 := S3.out.tl.tl.c0.2
    have c3 := S3.out.tl.tl.tl.c0.1
    have z3 := S3.out.tl.tl.tl.c0.2
    go_wp2_with fail
    refine (h2.out _).mono ?_
    rintro _ _ ⟨rfl, rfl⟩
    go_wp2_with fail
    refine (h3.out b o _ S3.out.r0 Q.out).mono ?_
    rintro _ w3 ⟨rfl, hb⟩
    clear c0 z0 c1 z1 c2 z2 c3 z3
    have S4 := Lib.hid (((S3.out).up hb))
    clear S3
    clear hb
    have c0 := S4.out.c0.1
    have z0 := S4.out.c0.2
    have c1 := S4.out.tl.c0.1
    have z1 := S4.out.tl.c0.2
    have c2 := S4.out.tl.tl.c0.1
    have z2 := S4.out.tl.tl.c0.2
    have c3 := S4.out.tl.tl.tl.c0.1
    have z3 := S4.out.tl.tl.tl.c0.2
    go_wp2_with fail
    refine (h4.out _).mono ?_
    rintro _ w4 ⟨rfl, hb⟩
    clear c0 z0 c1 z1 c2 z2 c3 z3
    have S5 := Lib.hid (((S4.out).up hb))
    clear S4
    clear hb
    have c0 := S5.out.c0.1
    have z0 := S5.out.c0.2
    have c1 := S5.out.tl.c0.1
    have z1 := S5.out.tl.c0.2
    have c2 := S5.out.tl.tl.c0.1
    have z2 := S5.out.tl.tl.c0.2
    have c3 := S5.out.tl.tl.tl.c0.1
    have z3 := S5.out.tl.tl.tl.c0.2
    go_wp2_with fail
    refine (h5.out b o _ S5.out.r0 Q.out).mono ?_
    rintro _ w5 ⟨rfl, hb⟩
    clear c0 z0 c1 z1 c2 z2 c3 z3
    have S6 := Lib.hid (((S5.out).up hb))
    clear S5
    clear hb
    have c0 := S6.out.c0.1
    have z0 := S6.out.c0.2
    have c1 := S6.out.tl.c0.1
    have z1 := S6.out.tl.c0.2
    have c2 := S6.out.tl.tl.c0.1
    have z2 := S6.out.tl.tl.c0.2
    have c3 := S6.out.tl.tl.tl.c0.1
    have z3 := S6.out.tl.tl.tl.c0.2
    go_wp2_with fail
    refine (h6.out _).mono ?_
    rintro _ w6 ⟨rfl, hb⟩
    clear c0 z0 c1 z1 c2 z2 c3 z3
    have S7 := Lib.hid (((S6.out).up hb))
    clear S6
    clear hb
    have c0 := S7.out.c0.1
    have z0 := S7.out.c0.2
    have c1 := S7.out.tl.c0.1
    have z1 := S7.out.tl.c0.2
    have c2 := S7.out.tl.tl.c0.1
    have z2 := S7.out.tl.tl.c0.2
    have c3 := S7.out.tl.tl.tl.c0.1
    have z3 := S7.out.tl.tl.tl.c0.2
    go_wp2_with fail
    refine (h7.out b o _ S7.out.r0 Q.out).mono ?_
    rintro _ w7 ⟨rfl, hb⟩
    clear c0 z0 c1 z1 c2 z2 c3 z3
    have S8 := Lib.hid (((S7.out).up hb))
    clear S7
    clear hb
    have S9 := Lib.hid (S8.out.place (x := v5) (y := v6))
    clear S8
    have c0 := S9.out.c0.1
    have z0 := S9.out.c0.2
    have c1 := S9.out.tl.c0.1
    have z1 := S9.out.tl.c0.2
    have c2 := S9.out.tl.tl.c0.1
    have z2 := S9.out.tl.tl.c0.2
    have c3 := S9.out.tl.tl.tl.c0.1
    have z3 := S9.out.tl.tl.tl.c0.2
    have c4 := S9.out.tl.tl.tl.tl.c0.1
    have z4 := S9.out.tl.tl.tl.tl.c0.2
    have c5 := S9.out.tl.tl.tl.tl.tl.c0.1
    have z5 := S9.out.tl.tl.tl.tl.tl.c0.2
    go_wp2_with fail
    refine (h8.out _).mono ?_
    rintro _ w8 ⟨rfl, hb⟩
    clear c0 z0 c1 z1 c2 z2 c3 z3 c4 z4 c5 z5
    have S10 := Lib.hid (((S9.out).up hb))
    clear S9
    clear hb
    have S11 := Lib.hid (S10.out.place (x := v5) (y := v6))
    clear S10
    have c0 := S11.out.c0.1
    have z0 := S11.out.c0.2
    have c1 := S11.out.tl.c0.1
    have z1 := S11.out.tl.c0.2
    have c2 := S11.out.tl.tl.c0.1
    have z2 := S11.out.tl.tl.c0.2
    have c3 := S11.out.tl.tl.tl.c0.1
    have z3 := S11.out.tl.tl.tl.c0.2
    have c4 := S11.out.tl.tl.tl.tl.c0.1
    have z4 := S11.out.tl.tl.tl.tl.c0.2
    have c5 := S11.out.tl.tl.tl.tl.tl.c0.1
    have z5 := S11.out.tl.tl.tl.tl.tl.c0.2
    have c6 := S11.out.tl.tl.tl.tl.tl.tl.c0.1
    have z6 := S11.out.tl.tl.tl.tl.tl.tl.c0.2
    have c7 := S11.out.tl.tl.tl.tl.tl.tl.tl.c0.1
    have z7 := S11.out.tl.tl.tl.tl.tl.tl.tl.c0.2
    go_wp2_with fail
    refine (h9.out b o _ S11.out.r0 Q.out).mono ?_
    rintro _ w9 ⟨rfl, hb⟩
    clear c0 z0 c1 z1 c2 z2 c3 z3 c4 z4 c5 z5 c6 z6 c7 z7
    have S12 := Lib.hid (((S11.out).up hb))
    clear S11
    clear hb
    have c0 := S12.out.c0.1
    have z0 := S12.out.c0.2
    have c1 := S12.out.tl.c0.1
    have z1 := S12.out.tl.c0.2
    have c2 := S12.out.tl.tl.c0.1
    have z2 := S12.out.tl.tl.c0.2
    have c3 := S12.out.tl.tl.tl.c0.1
    have z3 := S12.out.tl.tl.tl.c0.2
    have c4 := S12.out.tl.tl.tl.tl.c0.1
    have z4 := S12.out.tl.tl.tl.tl.c0.2
    have c5 := S12.out.tl.tl.tl.tl.tl.c0.1
    have z5 := S12.out.tl.tl.tl.tl.tl.c0.2
    have c6 := S12.out.tl.tl.tl.tl.tl.tl.c0.1
    have z6 := S12.out.tl.tl.tl.tl.tl.tl.c0.2
    have c7 := S12.out.tl.tl.tl.tl.tl.tl.tl.c0.1
    have z7 := S12.out.tl.tl.tl.tl.tl.tl.tl.c0.2
    go_wp2_with fail
    refine (h10.out _).mono ?_
    rintro _ w10 ⟨rfl, hb⟩
    clear c0 z0 c1 z1 c2 z2 c3 z3 c4 z4 c5 z5 c6 z6 c7 z7
    have S13 := Lib.hid (((S12.out).up hb))
    clear S12
    clear hb
    have c0 := S13.out.c0.1
    have z0 := S13.out.c0.2
    have c1 := S13.out.tl.c0.1
    have z1 := S13.out.tl.c0.2
    have c2 := S13.out.tl.tl.c0.1
    have z2 := S13.out.tl.tl.c0.2
    have c3 := S13.out.tl.tl.tl.c0.1
    have z3 := S13.out.tl.tl.tl.c0.2
    have c4 := S13.out.tl.tl.tl.tl.c0.1
    have z4 := S13.out.tl.tl.tl.tl.c0.2
    have c5 := S13.out.tl.tl.tl.tl.tl.c0.1
    have z5 := S13.out.tl.tl.tl.tl.tl.c0.2
    have c6 := S13.out.tl.tl.tl.tl.tl.tl.c0.1
    have z6 := S13.out.tl.tl.tl.tl.tl.tl.c0.2
    have c7 := S13.out.tl.tl.tl.tl.tl.tl.tl.c0.1
    have z7 := S13.out.tl.tl.tl.tl.tl.tl.tl.c0.2
    go_wp2_with fail
    refine (alive_any _).mono ?_
    rintro _ w11 ⟨rfl, hb⟩
    clear c0 z0 c1 z1 c2 z2 c3 z3 c4 z4 c5 z5 c6 z6 c7 z7
    have S14 := Lib.hid (((S13.out).up hb))
    clear S13
    clear hb
    go_wp2
    go_ret
    exact ⟨rfl, S14.out.1⟩
  · clear c0 z0 c1 z1 c2 z2 c3 z3 c4 z4 S0
    have S1 := Lib.hid (readsB w n f g L C)
    have c0 := S1.out.c0.1
    have z0 := S1.out.c0.2
    have c1 := S1.out.tl.c0.1
    have z1 := S1.out.tl.c0.2
    have c2 := S1.out.tl.tl.c0.1
    have z2 := S1.out.tl.tl.c0.2
    have c3 := S1.out.tl.tl.tl.c0.1
    have z3 := S1.out.tl.tl.tl.c0.2
    go_wp2_with fail
    refine (new_tree x _ hx).mono ?_
    rintro _ w1 ⟨b, o, rfl, hr, ⟨hq, -⟩, hb⟩
    clear c0 z0 c1 z1 c2 z2 c3 z3
    have S2 := Lib.hid (((S1.out).up hb).add hr)
    clear S1
    clear hb
    have c0 := S2.out.c0.1
    have z0 := S2.out.c0.2
    have c1 := S2.out.tl.c0.1
    have z1 := S2.out.tl.c0.2
    have c2 := S2.out.tl.tl.c0.1
    have z2 := S2.out.tl.tl.c0.2
    have c3 := S2.out.tl.tl.tl.c0.1
    have z3 := S2.out.tl.tl.tl.c0.2
    clear hr
    have Q := Lib.hid hq
    clear hq
    go_wp2_with fail
    refine (h1.out b o _ S2.out.r0 Q.out).mono ?_
    rintro _ w2 ⟨rfl, hb⟩
    clear c0 z0 c1 z1 c2 z2 c3 z3
    have S3 := Lib.hid (((S2.out).up hb))
    clear S2
    clear hb
    have c0 := S3.out.c0.1
    have z0 := S3.out.c0.2
    have c1 := S3.out.tl.c0.1
    have z1 := S3.out.tl.c0.2
    have c2 := S3.out.tl.tl.c0.1
    have z2 := S3.out.tl.tl.c0.2
    have c3 := S3.out.tl.tl.tl.c0.1
    have z3 := S3.out.tl.tl.tl.c0.2
    go_wp2_with fail
    refine (h2.out _).mono ?_
    rintro _ _ ⟨rfl, rfl⟩
    go_wp2_with fail
    refine (h3.out b o _ S3.out.r0 Q.out).mono ?_
    rintro _ w3 ⟨rfl, hb⟩
    clear c0 z0 c1 z1 c2 z2 c3 z3
    have S4 := Lib.hid (((S3.out).up hb))
    clear S3
    clear hb
    have c0 := S4.out.c0.1
    have z0 := S4.out.c0.2
    have c1 := S4.out.tl.c0.1
    have z1 := S4.out.tl.c0.2
    have c2 := S4.out.tl.tl.c0.1
    have z2 := S4.out.tl.tl.c0.2
    have c3 := S4.out.tl.tl.tl.c0.1
    have z3 := S4.out.tl.tl.tl.c0.2
    go_wp2_with fail
    refine (h4.out _).mono ?_
    rintro _ w4 ⟨rfl, hb⟩
    clear c0 z0 c1 z1 c2 z2 c3 z3
    have S5 := Lib.hid (((S4.out).up hb))
    clear S4
    clear hb
    have c0 := S5.out.c0.1
    have z0 := S5.out.c0.2
    have c1 := S5.out.tl.c0.1
    have z1 := S5.out.tl.c0.2
    have c2 := S5.out.tl.tl.c0.1
    have z2 := S5.out.tl.tl.c0.2
    have c3 := S5.out.tl.tl.tl.c0.1
    have z3 := S5.out.tl.tl.tl.c0.2
    go_wp2_with fail
    refine (h5.out b o _ S5.out.r0 Q.out).mono ?_
    rintro _ w5 ⟨rfl, hb⟩
    clear c0 z0 c1 z1 c2 z2 c3 z3
    have S6 := Lib.hid (((S5.out).up hb))
    clear S5
    clear hb
    have c0 := S6.out.c0.1
    have z0 := S6.out.c0.2
    have c1 := S6.out.tl.c0.1
    have z1 := S6.out.tl.c0.2
    have c2 := S6.out.tl.tl.c0.1
    have z2 := S6.out.tl.tl.c0.2
    have c3 := S6.out.tl.tl.tl.c0.1
    have z3 := S6.out.tl.tl.tl.c0.2
    go_wp2_with fail
    refine (h6.out _).mono ?_
    rintro _ w6 ⟨rfl, hb⟩
    clear c0 z0 c1 z1 c2 z2 c3 z3
    have S7 := Lib.hid (((S6.out).up hb))
    clear S6
    clear hb
    have c0 := S7.out.c0.1
    have z0 := S7.out.c0.2
    have c1 := S7.out.tl.c0.1
    have z1 := S7.out.tl.c0.2
    have c2 := S7.out.tl.tl.c0.1
    have z2 := S7.out.tl.tl.c0.2
    have c3 := S7.out.tl.tl.tl.c0.1
    have z3 := S7.out.tl.tl.tl.c0.2
    go_wp2_with fail
    refine (h7.out b o _ S7.out.r0 Q.out).mono ?_
    rintro _ w7 ⟨rfl, hb⟩
    clear c0 z0 c1 z1 c2 z2 c3 z3
    have S8 := Lib.hid (((S7.out).up hb))
    clear S7
    clear hb
    have S9 := Lib.hid (S8.out.place (x := v5) (y := v6))
    clear S8
    have c0 := S9.out.c0.1
    have z0 := S9.out.c0.2
    have c1 := S9.out.tl.c0.1
    have z1 := S9.out.tl.c0.2
    have c2 := S9.out.tl.tl.c0.1
    have z2 := S9.out.tl.tl.c0.2
    have c3 := S9.out.tl.tl.tl.c0.1
    have z3 := S9.out.tl.tl.tl.c0.2
    have c4 := S9.out.tl.tl.tl.tl.c0.1
    have z4 := S9.out.tl.tl.tl.tl.c0.2
    have c5 := S9.out.tl.tl.tl.tl.tl.c0.1
    have z5 := S9.out.tl.tl.tl.tl.tl.c0.2
    go_wp2_with fail
    refine (h8.out _).mono ?_
    rintro _ w8 ⟨rfl, hb⟩
    clear c0 z0 c1 z1 c2 z2 c3 z3 c4 z4 c5 z5
    have S10 := Lib.hid (((S9.out).up hb))
    clear S9
    clear hb
    have S11 := Lib.hid (S10.out.place (x := v5) (y := v6))
    clear S10
    have c0 := S11.out.c0.1
    have z0 := S11.out.c0.2
    have c1 := S11.out.tl.c0.1
    have z1 := S11.out.tl.c0.2
    have c2 := S11.out.tl.tl.c0.1
    have z2 := S11.out.tl.tl.c0.2
    have c3 := S11.out.tl.tl.tl.c0.1
    have z3 := S11.out.tl.tl.tl.c0.2
    have c4 := S11.out.tl.tl.tl.tl.c0.1
    have z4 := S11.out.tl.tl.tl.tl.c0.2
    have c5 := S11.out.tl.tl.tl.tl.tl.c0.1
    have z5 := S11.out.tl.tl.tl.tl.tl.c0.2
    have c6 := S11.out.tl.tl.tl.tl.tl.tl.c0.1
    have z6 := S11.out.tl.tl.tl.tl.tl.tl.c0.2
    have c7 := S11.out.tl.tl.tl.tl.tl.tl.tl.c0.1
    have z7 := S11.out.tl.tl.tl.tl.tl.tl.tl.c0.2
    go_wp2_with fail
    refine (h9.out b o _ S11.out.r0 Q.out).mono ?_
    rintro _ w9 ⟨rfl, hb⟩
    clear c0 z0 c1 z1 c2 z2 c3 z3 c4 z4 c5 z5 c6 z6 c7 z7
    have S12 := Lib.hid (((S11.out).up hb))
    clear S11
    clear hb
    have c0 := S12.out.c0.1
    have z0 := S12.out.c0.2
    have c1 := S12.out.tl.c0.1
    have z1 := S12.out.tl.c0.2
    have c2 := S12.out.tl.tl.c0.1
    have z2 := S12.out.tl.tl.c0.2
    have c3 := S12.out.tl.tl.tl.c0.1
    have z3 := S12.out.tl.tl.tl.c0.2
    have c4 := S12.out.tl.tl.tl.tl.c0.1
    have z4 := S12.out.tl.tl.tl.tl.c0.2
    have c5 := S12.out.tl.tl.tl.tl.tl.c0.1
    have z5 := S12.out.tl.tl.tl.tl.tl.c0.2
    have c6 := S12.out.tl.tl.tl.tl.tl.tl.c0.1
    have z6 := S12.out.tl.tl.tl.tl.tl.tl.c0.2
    have c7 := S12.out.tl.tl.tl.tl.tl.tl.tl.c0.1
    have z7 := S12.out.tl.tl.tl.tl.tl.tl.tl.c0.2
    go_wp2_with fail
    refine (h10.out _).mono ?_
    rintro _ w10 ⟨rfl, hb⟩
    clear c0 z0 c1 z1 c2 z2 c3 z3 c4 z4 c5 z5 c6 z6 c7 z7
    have S13 := Lib.hid (((S12.out).up hb))
    clear S12
    clear hb
    have c0 := S13.out.c0.1
    have z0 := S13.out.c0.2
    have c1 := S13.out.tl.c0.1
    have z1 := S13.out.tl.c0.2
    have c2 := S13.out.tl.tl.c0.1
    have z2 := S13.out.tl.tl.c0.2
    have c3 := S13.out.tl.tl.tl.c0.1
    have z3 := S13.out.tl.tl.tl.c0.2
    have c4 := S13.out.tl.tl.tl.tl.c0.1
    have z4 := S13.out.tl.tl.tl.tl.c0.2
    have c5 := S13.out.tl.tl.tl.tl.tl.c0.1
    have z5 := S13.out.tl.tl.tl.tl.tl.c0.2
    have c6 := S13.out.tl.tl.tl.tl.tl.tl.c0.1
    have z6 := S13.out.tl.tl.tl.tl.tl.tl.c0.2
    have c7 := S13.out.tl.tl.tl.tl.tl.tl.tl.c0.1
    have z7 := S13.out.tl.tl.tl.tl.tl.tl.tl.c0.2
    go_wp2_with fail
    refine (alive_any _).mono ?_
    rintro _ w11 ⟨rfl, hb⟩
    clear c0 z0 c1 z1 c2 z2 c3 z3 c4 z4 c5 z5 c6 z6 c7 z7
    have S14 := Lib.hid (((S13.out).up hb))
    clear S13
    clear hb
    go_wp2
    go_ret
    exact ⟨rfl, S14.out.1⟩

theorem reads_walk (x : ByteArray) (n f g L C : Int) (w : World) (hn : n ≤ 9223372036854775807) (hL : L ≤ 9223372036854775807) (hC : C ≤ 9223372036854775807) (hC2 : -9223372036854775808 ≤ C) :
    Calls Try.prog 4 #[.string x, lk n f g L C] w fun r w' => r = .returned (.bool true) ∧ Below w.heap.size w w' := by
  by_cases hx : 65536 < x.size
  · exact reads_long x n f g L C w hx
  · exact reads_ok x n f g L C w (by omega) hn hL hC hC2
end Go.Proofs.Ytagjeckgfjddmaa
