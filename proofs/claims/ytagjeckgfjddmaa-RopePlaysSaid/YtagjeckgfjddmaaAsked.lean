/- asked: what a rope says of some places is what the document says of its text. -/
import Derived.Test.YtagjeckgfjddmaaRReads
namespace Go.Proofs.Ytagjeckgfjddmaa
set_option linter.unusedSimpArgs false
set_option linter.unusedVariables false
open Go.RowKit
theorem of_le (x : ByteArray) (n : Int) (hx : x.size ≤ 65536) : 0 ≤ ofL x.data.toList n ∧ ofL x.data.toList n ≤ 65536 ∧ 0 ≤ ofC x.data.toList n ∧ ofC x.data.toList n ≤ 65536 := by
  have h0 : x.data.toList.length = x.size := by simp
  have h1 := cnt_le (x.data.toList.take n.toNat)
  have h2 := col_le (x.data.toList.take n.toNat)
  have h3 : (x.data.toList.take n.toNat).length ≤ x.data.toList.length := by rw [List.length_take]; omega
  unfold ofL ofC
  split <;> omega

set_option maxHeartbeats 4000000 in
set_option maxRecDepth 100000 in
theorem asked_made (b : Nat) (o : Option T) (x : ByteArray) (n : Int) (w : World) (hr : RopeAt w b o) (q : TreeOf x o) (hn : n ≤ 9223372036854775807) :
    Calls Try.prog 28 #[ptr b, .string x, .int .i64 n] w fun e w' => e = .returned (.bool true) ∧ Below w.heap.size w w' := by

  have hx := q.2.2
  have Q := Lib.hid q
  have hL := of_le x n hx
  have h1 := Lib.hid (fun (wz : World) (r : RopeAt wz b o) => byte_any b o x n wz r q)
  have h2 := Lib.hid (fun (wz : World) => rbyte_any x n wz (by omega))
  have h5 := Lib.hid (fun (wz : World) (r : RopeAt wz b o) => lines_made b o x wz r q)
  have h6 := Lib.hid (fun (wz : World) => rcount_any x wz (by omega))
  have h7 := Lib.hid (fun (wz : World) (r : RopeAt wz b o) => of_made b o x n wz r q hn)
  have h8 := Lib.hid (fun (wz : World) => rof_any x n wz (by omega))
  have h9 := Lib.hid (fun (wz : World) (r : RopeAt wz b o) => at_made b o x (ofL x.data.toList n) (ofC x.data.toList n) wz r q (by omega) (by omega) (by omega))
  have h10 := Lib.hid (fun (wz : World) => rat_any x (ofL x.data.toList n) (ofC x.data.toList n) wz (by omega))
  clear hL
  generalize byN x.data.toList n = v0 at *
  generalize byE x.data.toList n = v1 at *
  generalize (cntN x.data.toList : Int) + 1 = v2 at *
  generalize atN x.data.toList (ofL x.data.toList n) (ofC x.data.toList n) = v3 at *
  generalize atE x.data.toList (ofL x.data.toList n) (ofC x.data.toList n) = v4 at *
  generalize ofL x.data.toList n = v5 at *
  generalize ofC x.data.toList n = v6 at *
  generalize ofE x.data.toList n = v7 at *
  have S0 := Lib.hid (St.add (St.new w) hr)
  clear hr q hn
  go_enter Try.func28, Try.ntmps28
  go_wp2_with fail
  refine (h7.out _ S0.out.r0).mono ?_
  rintro _ w1 ⟨rfl, hb⟩
  have S1 := Lib.hid (((S0.out).up hb))
  clear S0
  clear hb
  have S2 := Lib.hid (S1.out.place (x := v5) (y := v6))
  clear S1
  have c0 := S2.out.c0.1
  have z0 := S2.out.c0.2
  have c1 := S2.out.tl.c0.1
  have z1 := S2.out.tl.c0.2
  go_wp2_with fail
  refine (h8.out _).mono ?_
  rintro _ w2 ⟨rfl, hb⟩
  clear c0 z0 c1 z1
  have S3 := Lib.hid (((S2.out).up hb))
  clear S2
  clear hb
  have S4 := Lib.hid (S3.out.place (x := v5) (y := v6))
  clear S3
  have c0 := S4.out.c0.1
  have z0 := S4.out.c0.2
  have c1 := S4.out.tl.c0.1
  have z1 := S4.out.tl.c0.2
  have c2 := S4.out.tl.tl.c0.1
  have z2 := S4.out.tl.tl.c0.2
  have c3 := S4.out.tl.tl.tl.c0.1
  have z3 := S4.out.tl.tl.tl.c0.2
  go_wp2_with fail
  refine (h9.out _ S4.out.r0).mono ?_
  rintro _ w3 ⟨rfl, hb⟩
  clear c0 z0 c1 z1 c2 z2 c3 z3
  have S5 := Lib.hid (((S4.out).up hb))
  clear S4
  clear hb
  have c0 := S5.out.c0.1
  have z0 := S5.out.c0.2
  have c1 := S5.out.tl.c0.1
  have z1 := S5.out.tl.c0.2
  have c2 := S5.out.tl.tl.c0.1
  have z2 := S5.out.tl.tl.c0.2
  have c3 := S5.out.tl.tl.tl.c0.1
  have z3 := S5.out.tl.tl.tl.c0.2
  go_wp2_with fail
  refine (h10.out _).mono ?_
  rintro _ w4 ⟨rfl, hb⟩
  clear c0 z0 c1 z1 c2 z2 c3 z3
  have S6 := Lib.hid (((S5.out).up hb))
  clear S5
  clear hb
  have c0 := S6.out.c0.1
  have z0 := S6.out.c0.2
  have c1 := S6.out.tl.c0.1
  have z1 := S6.out.tl.c0.2
  have c2 := S6.out.tl.tl.c0.1
  have z2 := S6.out.tl.tl.c0.2
  have c3 := S6.out.tl.tl.tl.c0.1
  have z3 := S6.out.tl.tl.tl.c0.2
  go_wp2_with fail
  refine (h1.out _ S6.out.r0).mono ?_
  rintro _ w5 ⟨rfl, hb⟩
  clear c0 z0 c1 z1 c2 z2 c3 z3
  have S7 := Lib.hid (((S6.out).up hb))
  clear S6
  clear hb
  have c0 := S7.out.c0.1
  have z0 := S7.out.c0.2
  have c1 := S7.out.tl.c0.1
  have z1 := S7.out.tl.c0.2
  have c2 := S7.out.tl.tl.c0.1
  have z2 := S7.out.tl.tl.c0.2
  have c3 := S7.out.tl.tl.tl.c0.1
  have z3 := S7.out.tl.tl.tl.c0.2
  go_wp2_with fail
  refine (h2.out _).mono ?_
  rintro _ _ ⟨rfl, rfl⟩
  go_wp2_with fail
  refine (h5.out _ S7.out.r0).mono ?_
  rintro _ w6 ⟨rfl, hb⟩
  clear c0 z0 c1 z1 c2 z2 c3 z3
  have S8 := Lib.hid (((S7.out).up hb))
  clear S7
  clear hb
  have c0 := S8.out.c0.1
  have z0 := S8.out.c0.2
  have c1 := S8.out.tl.c0.1
  have z1 := S8.out.tl.c0.2
  have c2 := S8.out.tl.tl.c0.1
  have z2 := S8.out.tl.tl.c0.2
  have c3 := S8.out.tl.tl.tl.c0.1
  have z3 := S8.out.tl.tl.tl.c0.2
  go_wp2_with fail
  refine (h6.out _).mono ?_
  rintro _ w7 ⟨rfl, hb⟩
  clear c0 z0 c1 z1 c2 z2 c3 z3
  have S9 := Lib.hid (((S8.out).up hb))
  clear S8
  clear hb
  have c0 := S9.out.c0.1
  have z0 := S9.out.c0.2
  have c1 := S9.out.tl.c0.1
  have z1 := S9.out.tl.c0.2
  have c2 := S9.out.tl.tl.c0.1
  have z2 := S9.out.tl.tl.c0.2
  have c3 := S9.out.tl.tl.tl.c0.1
  have z3 := S9.out.tl.tl.tl.c0.2
  go_wp2
  go_ret
  exact ⟨rfl, S9.out.1⟩

end Go.Proofs.Ytagjeckgfjddmaa
