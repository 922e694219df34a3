/- RopeGoes: the walk. -/
import Derived.Test.YtagjeckgfjddmaaLook
import Derived.Test.YtagjeckgfjddmaaEdF
namespace Go.Proofs.Ytagjeckgfjddmaa
set_option linter.unusedSimpArgs false
set_option linter.unusedVariables false
open Go.RowKit

/-- An edit that is taken back leaves the text. -/
theorem undo_text (x : ByteArray) (a c : Nat) (t : ByteArray) (h : a ≤ c) (hc : c ≤ x.size) : Ed.splice (Ed.splice x a c t) a (a + t.size) (x.extract a c) = x := by
  apply ByteArray.ext
  apply Array.toList_inj.mp
  have e1 : (x.extract a c).data.toList = (x.data.toList.take c).drop a := by
    rw [ByteArray.data_extract, Array.toList_extract, List.extract_eq_drop_take']
  have e2 : (Ed.splice x a c t).data.toList = x.data.toList.take a ++ t.data.toList ++ x.data.toList.drop c := Ed.splice_list x a c t
  have hl : (x.data.toList.take a).length = a := by rw [List.length_take, ba_len]; omega
  have ht : (x.data.toList.take a ++ t.data.toList).length = a + t.size := by rw [List.length_append, hl, ba_len]
  rw [Ed.splice_list, e1, e2]
  rw [List.drop_left' ht, List.append_assoc (x.data.toList.take a) t.data.toList, List.take_left' hl]
  have : x.data.toList.take a = (x.data.toList.take c).take a := by rw [List.take_take, Nat.min_eq_left h]
  rw [this, List.take_append_drop, List.take_append_drop]
theorem undo_fits (x : ByteArray) (a c : Nat) (t : ByteArray) (h : a ≤ c) (hc : c ≤ x.size) (hx : x.size ≤ 65536) (ht : t.size ≤ 65536 - (x.size - (c - a))) : Ed.checkZ (Ed.splice x a c t).size a (a + t.size : Nat) (x.extract a c) = 0 ∧ (Ed.splice x a c t).size = a + t.size + (x.size - c) := by
  have hs := Ed.splice_size x a c t (by omega)
  have hz : (x.extract a c).size = c - a := by simp; omega
  have hw : Ed.withinB a (a + t.size : Nat) (Ed.splice x a c t).size = true := by unfold Ed.withinB; rw [hs]; simp; omega
  rw [Int.natCast_add] at hw
  refine ⟨?_, hs⟩
  unfold Ed.checkZ
  rw [if_neg (by omega), if_neg (by simp [hw]), if_neg (by rw [hz]; omega)]

/-- What the loop carries: the rope, its text, the list as it was, the errors told. -/
theorem St.boxed {w0 w : World} {R : List (Nat × Option T)} {C : List (Nat × Nat × Value)} {s e : Int} {t : ByteArray} (h : St w0 w R C) : St w0 (w.alloc (.cells #[.int .i64 s, .int .i64 e, .string t] 55)) R ((w.heap.size, 0, .int .i64 s) :: (w.heap.size, 1, .int .i64 e) :: (w.heap.size, 2, .string t) :: C) :=
  (((h.alloc _).cell (by simp) (by simp)).cell (by simp) (by simp)).cell (by simp) (by simp)
theorem St.reads {w0 w : World} {R : List (Nat × Option T)} {C : List (Nat × Nat × Value)} {A : Option Addr} {n : Nat} {xs : List Value} {sz : Nat} (h : St w0 w R C) (hr : Reads w0 w0.heap.size sz A n xs) : Reads w w0.heap.size sz A n xs := hr.below h.1

set_option maxHeartbeats 8000000 in
set_option maxRecDepth 100000 in
theorem goes_long (x : ByteArray) (A : Option Addr) (n c : Nat) (w : World) (hx : 65536 < x.size) :
    Calls Try.prog 8 #[.string x, .slice A n c] w fun r w' => r = .returned (.bool true) ∧ Below w.heap.size w w' := by
  have S0 := Lib.hid (St.new w)
  go_enter Try.func8, Try.ntmps8
  go_wp2_with fail
  refine (new_long x _ hx).mono ?_
  rintro _ _ ⟨rfl, rfl⟩
  go_wp2_with fail
  refine (alive_any _).mono ?_
  rintro _ w1 ⟨rfl, hb⟩
  have S1 := Lib.hid (((S0.out).up hb))
  clear S0
  clear hb
  go_wp2
  go_ret
  exact ⟨rfl, S1.out.1⟩

set_option maxHeartbeats 8000000 in
set_option maxRecDepth 100000 in
theorem goes_big (x : ByteArray) (A : Option Addr) (n c : Nat) (w : World) (hx : x.size ≤ 65536) (h : 3000 < x.size ∨ 40 < n) :
    Calls Try.prog 8 #[.string x, .slice A n c] w fun r w' => r = .returned (.bool true) ∧ Below w.heap.size w w' := by
  have S0 := Lib.hid (St.new w)
  by_cases h3 : 3000 < x.size
  · clear h
    go_enter Try.func8, Try.ntmps8
    go_wp2_with fail
    refine (new_tree x _ hx).mono ?_
    rintro _ w1 ⟨b, o, rfl, hr, hq, hb⟩
    have S1 := Lib.hid (((S0.out).up hb))
    clear S0
    clear hb
    clear hr hq
    go_wp2_with fail
    refine (alive_any _).mono ?_
    rintro _ w2 ⟨rfl, hb⟩
    have S2 := Lib.hid (((S1.out).up hb))
    clear S1
    clear hb
    go_wp2
    go_ret
    exact ⟨rfl, S2.out.1⟩
  · have h4 : 40 < n := by omega
    clear h
    go_enter Try.func8, Try.ntmps8
    go_wp2_with fail
    refine (new_tree x _ hx).mono ?_
    rintro _ w1 ⟨b, o, rfl, hr, hq, hb⟩
    have S1 := Lib.hid (((S0.out).up hb))
    clear S0
    clear hb
    clear hr hq
    go_wp2_with fail
    refine (alive_any _).mono ?_
    rintro _ w2 ⟨rfl, hb⟩
    have S2 := Lib.hid (((S1.out).up hb))
    clear S1
    clear hb
    go_wp2
    go_ret
    exact ⟨rfl, S2.out.1⟩

set_option maxHeartbeats 8000000 in
set_option maxRecDepth 100000 in
theorem goes_main (x : ByteArray) (A : Option Addr) (n c : Nat) (l : List Ed.Ed) (w : World) (hx : x.size ≤ 3000) (hn : n ≤ 40) (ha : Reads w w.heap.size 3 A n (Ed.cellsE l)) (hs : Hid (∀ e ∈ l, e.2.2.size ≤ 9223372036854775807)) :
    Calls Try.prog 8 #[.string x, .slice A n c] w fun r w' => r = .returned (.bool true) ∧ Below w.heap.size w w' := by
  have S0 := Lib.hid (St.new w)
  have hl : l.length = n := by have := ha.1; rw [Ed.cellsE_length] at this; omega
  have n1 : ¬ 3000 < x.size := by omega
  have n2 : ¬ 40 < n := by omega
  have ha' := Lib.hid ha
  clear ha
  go_enter Try.func8, Try.ntmps8
  go_wp2_with fail
  refine (new_tree x _ (by omega)).mono ?_
  rintro _ w1 ⟨b, o, rfl, hr, ⟨hq, -⟩, hb⟩
  have S1 := Lib.hid (((S0.out).up hb).add hr)
  clear S0
  clear hb
  clear hr
  have Q := Lib.hid hq
  clear hq
  go_wp2_with fail
  refine (Ed.fold_any x A n c l _ ((S1.out.reads ha'.out).more S1.out.1.size) (by omega) (by omega) hs).mono ?_
  rintro _ w2 ⟨v, rfl, hown, hb, A2, c2, rfl⟩
  have hlt := hown.lt
  have hzz := hown.1
  have S2 := Lib.hid (((S1.out).up hb))
  clear S1
  clear hb
  have V := Lib.hid hown
  clear hown hlt hzz
  obtain ⟨all, hall⟩ : ∃ all, Ed.foldT x l = all := ⟨_, rfl⟩
  rw [hall]
  have hall' := Lib.hid hall
  clear hall
  have hw2 := S2.out.1.size
  go_wp2_with fail
  go_loopw [5, 9] (fun p i wr => ∃ (k b' : Nat) (o' : Option T), k ≤ n ∧ i = .int .i64 k ∧ p = ptr b' ∧ RopeAt wr b' o' ∧ TreeOf (Ed.foldT x (l.take k)) o' ∧ Below w2.heap.size w2 wr) (fun _ i _ => n - (intOf i).toNat)
  case atStart => exact ⟨0, b, o, Nat.zero_le _, rfl, rfl, S2.out.r0, Q.out, Below.refl _ _⟩
  case round =>
    obtain ⟨k, b', o', hk, rfl, rfl, hr, hq, hB⟩ := hrel
    have M := Lib.hid hB
    have R0 := Lib.hid hr
    have Q0 := Lib.hid hq
    clear hB hr hq
    have SS := Lib.hid (S2.out.up M.out)
    have V2 := Lib.hid (Ed.owns_below V.out M.out)
    by_cases hkn : k < n
    · obtain ⟨bk, off, hA, hbk, s, e, t, hx1, c0, c1, c2'⟩ := Ed.reads_at3 (SS.out.reads ha'.out) hkn
      subst hA
      have hbw : bk < wr.heap.size := Nat.lt_of_lt_of_le hbk SS.out.1.size
      have hsucc := Ed.foldT_succ x l k (s, e, t) hx1
      have hK : Ed.errK x l k = Ed.checkZ (Ed.foldT x (l.take k)).size s e t := by simp [Ed.errK, hx1]
      have ht0 : t.size ≤ 9223372036854775807 := hs.out (s, e, t) (List.mem_of_getElem? hx1)
      have i1 : (k : Int) < (n : Int) := by omega
      obtain ⟨ap, u, hA2, apl, hu, hcu⟩ := (Reads.of_own V2.out).at_ hkn
      subst hA2
      have hue : u = .int .i64 (Ed.errK x l k) := by
        have h1 : (Ed.ints (Ed.errs x l n))[k]? = some (.int .i64 (Ed.errK x l k)) := by simp [Ed.ints, Ed.errs, hkn]
        exact Option.some.inj (hu.symm.trans h1)
      subst hue
      clear hu hx1
      obtain ⟨y, hy⟩ : ∃ y, Ed.foldT x (l.take k) = y := ⟨_, rfl⟩
      rw [hy] at hsucc hK Q0
      have hy2 := Q0.out.2.2
      obtain ⟨K, hKK⟩ : ∃ K, Ed.errK x l k = K := ⟨_, rfl⟩
      rw [hKK] at hK hcu
      have hsucc' := Lib.hid hsucc
      clear hy hKK hsucc
      have S1 : Hid (St w wr [(b', o')] []) := Lib.hid (St.add ⟨SS.out.1, by simp, by simp⟩ R0.out)
      by_cases hbig : 3000 < t.size
      · clear hK
        go_wp2_with fail
        refine (alive_any _).mono ?_
        rintro _ w9 ⟨rfl, hb⟩
        go_wp2
        go_ret
        exact ⟨rfl, (S1.out.up hb).1⟩
      · have htx := Lib.hid (text_made b' o' y _ R0.out Q0.out)
        by_cases hz : Ed.checkZ y.size s e t = 0
        · obtain ⟨a, d, rfl, rfl, hac, hdy, htl⟩ := fits_nat hz
          rw [hz] at hK
          subst hK
          have hstep : Ed.foldT x (l.take (k + 1)) = Ed.splice y a d t := by rw [hsucc'.out, Ed.stepT, if_pos hz]; rfl
          obtain ⟨q1, q2⟩ := undo_fits y a d t hac hdy hy2 htl
          have hback := undo_text y a d t hac hdy
          have hsp := Lib.hid (fun (wz : World) (r : RopeAt wz b' o') => (splice_ok b' o' y a d t wz r Q0.out hac hdy htl hz).mono fun e w' (q : Made _ wz e w') => (show Made (TreeOf (Ed.splice y a d t)) wz e w' by obtain ⟨b2, o2, q1, q2, q3, q4⟩ := q; exact ⟨b2, o2, q1, q2, q3.1, q4⟩))
          have hun := Lib.hid (fun (wz : World) => Ed.undo_ok y a d t wz ht0 (by omega) hz)
          have hzz : (y.extract a d).size = d - a := by simp; omega
          have hpb := Lib.hid (fun (b2 : Nat) (o2 : Option T) (wz : World) (r : RopeAt wz b2 o2) (q : TreeOf (Ed.splice y a d t) o2) => (splice_ok b2 o2 (Ed.splice y a d t) a (a + t.size) (y.extract a d) wz r q (by omega) (by rw [q2]; omega) (by rw [hzz, q2]; omega) q1).mono fun e w' (q : Made _ wz e w') => (show Made (TreeOf y) wz e w' by obtain ⟨b2, o2, q1, q2, q3, q4⟩ := q; exact ⟨b2, o2, q1, q2, by have := q3.1; rwa [hback] at this, q4⟩))
          unfold Made at hsp hpb
          unfold Ed.undoV at hun
          rw [Int.natCast_add] at hpb
          obtain ⟨g, hg⟩ : ∃ g, y.extract a d = g := ⟨_, rfl⟩
          rw [hg] at hun hpb
          obtain ⟨z, hzs⟩ : ∃ z, Ed.splice y a d t = z := ⟨_, rfl⟩
          rw [hzs] at hsp hpb hstep
          have hstep' := Lib.hid hstep
          have hcu' := Lib.hid hcu
          have hR2 := Lib.hid (fun wz (h : Below wr.heap.size wr wz) => (show wz.cell? ⟨bk, off + k * 3, none⟩ = some (.int .i64 a) ∧ wz.cell? ⟨bk, off + k * 3 + 1, none⟩ = some (.int .i64 d) ∧ wz.cell? ⟨bk, off + k * 3 + 2, none⟩ = some (.string t) ∧ bk < wz.heap.size from ⟨(h.cell (p := ⟨bk, _, none⟩) hbw).trans c0, (h.cell (p := ⟨bk, _, none⟩) hbw).trans c1, (h.cell (p := ⟨bk, _, none⟩) hbw).trans c2', Nat.lt_of_lt_of_le hbw h.size⟩))
          have hR3 := Lib.hid (fun wz (h : Below wr.heap.size wr wz) => (h.cell (p := ap.add k) (show (ap.add k).block < _ by unfold Addr.add; split <;> exact apl)).trans hcu)
          have i2 : ¬ (n : Int) ≤ (k : Int) := by omega
          clear hcu hstep hsucc' hz q1 q2 hback hzz hg hzs hac hdy htl
          unfold Ed.ed at hun hsp hpb
          have S10 := Lib.hid (St.add (St.new wr) R0.out)
          go_wp2_with fail
          refine (htx.out).mono ?_
          rintro _ w11 ⟨rfl, hb⟩
          have S11 := Lib.hid (((S10.out).up hb))
          clear S10
          clear hb
          clear c0 c1 c2' htx
          obtain ⟨c0, c1, c2', hbk2⟩ := hR2.out _ S11.out.1
          go_wp2_with fail
          refine (hsp.out _ S11.out.r0).mono ?_
          rintro _ w12 ⟨b2, o2, rfl, hr, hq, hb⟩
          have S12 := Lib.hid (((S11.out).up hb).add hr)
          clear S11
          clear hb
          have Q2 := Lib.hid hq
          clear hr hq c0 c1 c2' hbk2 hsp
          have ct := hR3.out _ S12.out.1
          obtain ⟨c0, c1, c2', hbk2⟩ := hR2.out _ S12.out.1
          go_wp2_with fail
          refine (hun.out _).mono ?_
          rintro _ w13 ⟨rfl, hb⟩
          have S13 := Lib.hid (((S12.out).up hb))
          clear S12
          clear hb
          clear ct c0 c1 c2' hbk2 hun
          have S14 := Lib.hid (S13.out.boxed (s := a) (e := a + t.size) (t := g))
          clear S13
          have c0 := S14.out.c0.1
          have z0 := S14.out.c0.2
          have c1 := S14.out.tl.c0.1
          have z1 := S14.out.tl.c0.2
          have c2 := S14.out.tl.tl.c0.1
          have z2 := S14.out.tl.tl.c0.2
          go_wp2_with fail
          refine (hpb.out b2 o2 _ S14.out.r0 Q2.out).mono ?_
          rintro _ w14 ⟨b3, o3, rfl, hr, hq, hb⟩
          clear c0 z0 c1 z1 c2 z2
          have S15 := Lib.hid (((S14.out).up hb).add hr)
          clear S14
          clear hb
          have Q3 := Lib.hid hq
          clear hr hq hpb
          go_wp2_with fail
          refine (text_made b3 o3 y _ S15.out.r0 Q3.out).mono ?_
          rintro _ w15 ⟨rfl, hb⟩
          have S16 := Lib.hid (((S15.out).up hb))
          clear S15
          clear hb
          have hfin := Lib.hid (show RopeAt w15 b2 o2 ∧ TreeOf (Ed.foldT x (l.take (k + 1))) o2 ∧ Below w2.heap.size w2 w15 from ⟨S16.out.r1, by rw [hstep'.out]; exact Q2.out, M.out.trans (S16.out.1.mono M.out.size)⟩)
          go_wp2
          exact ⟨⟨k + 1, b2, o2, by omega, by go_num, rfl, hfin.out.1, hfin.out.2.1, hfin.out.2.2⟩, by simp [intOf]; omega⟩
        · have hR3 := Lib.hid (fun wz (h : Below wr.heap.size wr wz) => (h.cell (p := ap.add k) (show (ap.add k).block < _ by unfold Addr.add; split <;> exact apl)).trans hcu)
          have i2 : ¬ (n : Int) ≤ (k : Int) := by omega
          have hstep : Ed.foldT x (l.take (k + 1)) = y := by rw [hsucc'.out, Ed.stepT, if_neg hz]
          rw [← hK] at hz
          have hk' : (K != 0) = true := by simpa using hz
          have hsp := Lib.hid (fun (wz : World) (r : RopeAt wz b' o') => splice_err b' o' y s e t K wz r Q0.out ht0 hz hK.symm)
          have hstep' := Lib.hid hstep
          have hR2 := Lib.hid (fun wz (h : Below wr.heap.size wr wz) => (show wz.cell? ⟨bk, off + k * 3, none⟩ = some (.int .i64 s) ∧ wz.cell? ⟨bk, off + k * 3 + 1, none⟩ = some (.int .i64 e) ∧ wz.cell? ⟨bk, off + k * 3 + 2, none⟩ = some (.string t) ∧ bk < wz.heap.size from ⟨(h.cell (p := ⟨bk, _, none⟩) hbw).trans c0, (h.cell (p := ⟨bk, _, none⟩) hbw).trans c1, (h.cell (p := ⟨bk, _, none⟩) hbw).trans c2', Nat.lt_of_lt_of_le hbw h.size⟩))
          clear hcu hstep hsucc' hz hK
          unfold Ed.ed at hsp
          have S10 := Lib.hid (St.add (St.new wr) R0.out)
          go_wp2_with fail
          refine (htx.out).mono ?_
          rintro _ w11 ⟨rfl, hb⟩
          have S11 := Lib.hid (((S10.out).up hb))
          clear S10
          clear hb
          clear c0 c1 c2' htx
          obtain ⟨c0, c1, c2', hbk2⟩ := hR2.out _ S11.out.1
          go_wp2_with fail
          refine (hsp.out _ S11.out.r0).mono ?_
          rintro _ w12 ⟨rfl, hb⟩
          have S12 := Lib.hid (((S11.out).up hb))
          clear S11
          clear hb
          clear c0 c1 c2' hbk2 hsp
          have ct := hR3.out _ S12.out.1
          have hfin := Lib.hid (show RopeAt w12 b' o' ∧ TreeOf (Ed.foldT x (l.take (k + 1))) o' ∧ Below w2.heap.size w2 w12 from ⟨S12.out.r0, by rw [hstep'.out]; exact Q0.out, M.out.trans (S12.out.1.mono M.out.size)⟩)
          go_wp2
          exact ⟨⟨k + 1, b', o', by omega, by go_num, rfl, hfin.out.1, hfin.out.2.1, hfin.out.2.2⟩, by simp [intOf]; omega⟩
    · obtain rfl : k = l.length := by omega
      rw [List.take_length, hall'.out] at Q0
      have i1 : ¬ ((l.length : Nat) : Int) < (n : Int) := by omega
      have S10 := Lib.hid (St.add (R := []) (C := []) ⟨SS.out.1, by simp, by simp⟩ R0.out)
      go_wp2_with fail
      refine (text_made b' o' all _ S10.out.r0 Q0.out).mono ?_
      rintro _ w11 ⟨rfl, hb⟩
      have S11 := Lib.hid (((S10.out).up hb))
      clear S10
      clear hb
      go_wp2_with fail
      refine (alive_any _).mono ?_
      rintro _ w12 ⟨rfl, hb⟩
      have S12 := Lib.hid (((S11.out).up hb))
      clear S11
      clear hb
      go_wp2
      go_ret
      exact ⟨rfl, S12.out.1⟩

theorem goes_walk (x : ByteArray) (A : Option Addr) (n c : Nat) (l : List Ed.Ed) (w : World) (ha : Reads w w.heap.size 3 A n (Ed.cellsE l)) (hs : Hid (∀ e ∈ l, e.2.2.size ≤ 9223372036854775807)) :
    Calls Try.prog 8 #[.string x, .slice A n c] w fun r w' => r = .returned (.bool true) ∧ Below w.heap.size w w' := by
  by_cases h1 : 65536 < x.size
  · exact goes_long x A n c w h1
  · by_cases h2 : 3000 < x.size ∨ 40 < n
    · exact goes_big x A n c w (by omega) h2
    · exact goes_main x A n c l w (by omega) (by omega) ha hs

end Go.Proofs.Ytagjeckgfjddmaa
