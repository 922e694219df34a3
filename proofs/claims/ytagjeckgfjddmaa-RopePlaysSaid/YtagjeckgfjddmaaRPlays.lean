/- RopePlays: the walk. -/
import Derived.Test.YtagjeckgfjddmaaTwo
import Derived.Test.YtagjeckgfjddmaaRGoes
namespace Go.Proofs.Ytagjeckgfjddmaa
set_option linter.unusedSimpArgs false
set_option linter.unusedVariables false
open Go.RowKit
theorem up_rw {w0 w w' : World} {g7 g8 q m c7 c8 : Nat} {v u : Value} {L M : List Rp} (h : w.cell? ⟨g7, q, none⟩ = some v ∧ w.cell? ⟨g8, q, none⟩ = some u ∧ Rws w0 w (.slice (some ⟨g7, 0, none⟩) m c7) (.slice (some ⟨g8, 0, none⟩) m c8) L M) (hb : Below w.heap.size w w') :
    w'.cell? ⟨g7, q, none⟩ = some v ∧ w'.cell? ⟨g8, q, none⟩ = some u ∧ Rws w0 w' (.slice (some ⟨g7, 0, none⟩) m c7) (.slice (some ⟨g8, 0, none⟩) m c8) L M := by
  obtain ⟨h1, h2, R⟩ := h
  exact ⟨(hb.cell (p := ⟨g7, q, none⟩) (R.a.lt g7 rfl).2).trans h1, (hb.cell (p := ⟨g8, q, none⟩) (R.b.lt g8 rfl).2).trans h2, R.up hb⟩
theorem up_rw_k {w0 w : World} {g7 g8 q m c7 c8 : Nat} {v u : Value} {L M : List Rp} (h : w.cell? ⟨g7, q, none⟩ = some v ∧ w.cell? ⟨g8, q, none⟩ = some u ∧ Rws w0 w (.slice (some ⟨g7, 0, none⟩) m c7) (.slice (some ⟨g8, 0, none⟩) m c8) L M) : Rws w0 w (.slice (some ⟨g7, 0, none⟩) m c7) (.slice (some ⟨g8, 0, none⟩) m c8) L M := h.2.2
theorem info22 : (Try.prog.info? 22).map (fun i => (i.zero, i.size, i.bytes)) = some (some (.pointer none), 1, 8) := by kernel_rfl

set_option maxHeartbeats 8000000 in
set_option maxRecDepth 100000 in
theorem plays_long (x : ByteArray) (A : Option Addr) (n c : Nat) (w : World) (hx : 65536 < x.size) :
    Calls Try.prog 5 #[.string x, .slice A n c] w fun r w' => r = .returned (.bool true) ∧ Below w.heap.size w w' := by
  have S0 := Lib.hid (St.new w)
  go_enter Try.func5, Try.ntmps5
  go_wp2_with fail
  refine (new_long x _ hx).mono ?_
  rintro _ _ ⟨rfl, rfl⟩
  go_wp2_with fail
  refine (alive_any _).mono ?_
  rintro _ w1 ⟨rfl, hb⟩
  have S1 := Lib.hid (((S0.out).up hb))
  clear S0
  clear hb
  go_wp2
  go_ret
  exact ⟨rfl, S1.out.1⟩

set_option maxHeartbeats 8000000 in
set_option maxRecDepth 100000 in
theorem plays_big (x : ByteArray) (A : Option Addr) (n c : Nat) (w : World) (hx : x.size ≤ 65536) (h : 60 < n ∨ 3000 < x.size) :
    Calls Try.prog 5 #[.string x, .slice A n c] w fun r w' => r = .returned (.bool true) ∧ Below w.heap.size w w' := by
  have S0 := Lib.hid (St.new w)
  by_cases h3 : 60 < n
  · clear h
    go_enter Try.func5, Try.ntmps5
    go_wp2_with fail
    refine (new_tree x _ hx).mono ?_
    rintro _ w1 ⟨b, o, rfl, hr, hq, hb⟩
    have S1 := Lib.hid (((S0.out).up hb))
    clear S0
    clear hb
    clear hr hq
    go_wp2_with fail
    refine (alive_any _).mono ?_
    rintro _ w2 ⟨rfl, hb⟩
    have S2 := Lib.hid (((S1.out).up hb))
    clear S1
    clear hb
    go_wp2
    go_ret
    exact ⟨rfl, S2.out.1⟩
  · have h4 : 3000 < x.size := by omega
    clear h
    go_enter Try.func5, Try.ntmps5
    go_wp2_with fail
    refine (new_tree x _ hx).mono ?_
    rintro _ w1 ⟨b, o, rfl, hr, hq, hb⟩
    have S1 := Lib.hid (((S0.out).up hb))
    clear S0
    clear hb
    clear hr hq
    go_wp2_with fail
    refine (alive_any _).mono ?_
    rintro _ w2 ⟨rfl, hb⟩
    have S2 := Lib.hid (((S1.out).up hb))
    clear S1
    clear hb
    go_wp2
    go_ret
    exact ⟨rfl, S2.out.1⟩

set_option maxHeartbeats 8000000 in
set_option maxRecDepth 100000 in
theorem plays_main (x : ByteArray) (A : Option Addr) (n c : Nat) (l : List Ed.Ed) (w : World) (hx : x.size ≤ 3000) (hn : n ≤ 60) (ha : Reads w w.heap.size 3 A n (Ed.cellsE l)) (hs : Hid (∀ e ∈ l, e.2.2.size ≤ 9223372036854775807)) :
    Calls Try.prog 5 #[.string x, .slice A n c] w fun r w' => r = .returned (.bool true) ∧ Below w.heap.size w w' := by
  have S0 := Lib.hid (St.new w)
  obtain ⟨i0, hi0, hz0, hz1, hz2⟩ := info_parts info22
  obtain ⟨j0, hj0, jz0, jz1, jz2⟩ := info_parts info9
  have hl : l.length = n := by have := ha.1; rw [Ed.cellsE_length] at this; omega
  have n1 : ¬ 3000 < x.size := by omega
  have n2 : ¬ 60 < n := by omega
  have ha' := Lib.hid ha
  clear ha
  go_enter Try.func5, Try.ntmps5
  go_wp2_with fail
  refine (new_tree x _ (by omega)).mono ?_
  rintro _ w1 ⟨b, o, rfl, hr, ⟨hq, -⟩, hb⟩
  have S1 := Lib.hid (((S0.out).up hb).add hr)
  clear S0
  clear hb
  clear hr
  have Q := Lib.hid hq
  clear hq
  have F := Lib.hid (Rws.first S1.out.r0 Q.out S1.out.1)
  clear S1
  go_wp2_with fail
  go_loopw [0, 5, 7, 8, 9] (fun tx p v u i wr => ∃ (k b' : Nat) (o' : Option T) (y : ByteArray) (L : List Rp), k ≤ n ∧ L.length ≤ k + 1 ∧ i = .int .i64 k ∧ p = ptr b' ∧ tx = .string y ∧ (b', o', y) ∈ L ∧ Rws w wr v u L L) (fun _ _ _ _ i _ => n - (intOf i).toNat)
  case atStart => exact ⟨0, b, o, x, [(b, o, x)], Nat.zero_le _, by simp, rfl, rfl, rfl, by simp, F.out⟩
  case round =>
    clear F
    obtain ⟨k, b', o', y, L, hk, hL, rfl, rfl, rfl, hm, hF⟩ := hrel
    have F := Lib.hid hF
    have R0 := Lib.hid (hF.r _ hm).1
    have Q0 := Lib.hid (hF.r _ hm).2
    have hm' := Lib.hid hm
    clear hF hm
    by_cases hkn : k < n
    · obtain ⟨bk, off, hA, hbk, s, e, t, hx1, c0, c1, c2⟩ := Ed.reads_at3 (ha'.out.below F.out.below) hkn
      subst hA
      have hbw : bk < wr.heap.size := Nat.lt_of_lt_of_le hbk F.out.below.size
      have ht0 : t.size ≤ 9223372036854775807 := hs.out (s, e, t) (List.mem_of_getElem? hx1)
      have i1 : (k : Int) < (n : Int) := by omega
      have hy2 : y.size ≤ 65536 := Q0.out.2.2
      clear hx1
      by_cases hbig : 3000 < t.size
      · go_wp2
        exact ⟨⟨k + 1, b', o', y, L, by omega, by omega, by go_num, rfl, rfl, hm'.out, F.out⟩, by simp [intOf]; omega⟩
      · have hap := Lib.hid (fun (wz : World) => Ed.rapply_any y s e t wz ht0 (by omega))
        have hR2 := Lib.hid (fun wz (h : Below wr.heap.size wr wz) => (show wz.cell? ⟨bk, off + k * 3, none⟩ = some (.int .i64 s) ∧ wz.cell? ⟨bk, off + k * 3 + 1, none⟩ = some (.int .i64 e) ∧ wz.cell? ⟨bk, off + k * 3 + 2, none⟩ = some (.string t) ∧ bk < wz.heap.size from ⟨(h.cell (p := ⟨bk, _, none⟩) hbw).trans c0, (h.cell (p := ⟨bk, _, none⟩) hbw).trans c1, (h.cell (p := ⟨bk, _, none⟩) hbw).trans c2, Nat.lt_of_lt_of_le hbw h.size⟩))
        by_cases hz : Ed.checkZ y.size s e t = 0
        · obtain ⟨a, d, rfl, rfl, hac, hdy, htl⟩ := fits_nat hz
          have hsp := Lib.hid (fun (wz : World) (r : RopeAt wz b' o') => (splice_ok b' o' y a d t wz r Q0.out hac hdy htl hz).mono fun e w' (q : Made _ wz e w') => (show Made (TreeOf (Ed.splice y a d t)) wz e w' by obtain ⟨b2, o2, q1, q2, q3, q4⟩ := q; exact ⟨b2, o2, q1, q2, q3.1, q4⟩))
          unfold Made at hsp
          rw [Ed.apS, if_pos hz, Int.toNat_natCast, Int.toNat_natCast, hz] at hap
          have hsb : (a : Int) ≤ 9223372036854775807 := by omega
          clear hz
          obtain ⟨z, hzs⟩ : ∃ z, Ed.splice y a d t = z := ⟨_, rfl⟩
          rw [hzs] at hsp hap
          clear hzs hac hdy htl
          unfold Ed.ed at hsp hap
          have S10 := Lib.hid (St.add (St.new wr) R0.out)
          go_wp2_with fail
          refine (hsp.out _ S10.out.r0).mono ?_
          rintro _ w11 ⟨b2, o2, rfl, hr, hq, hb⟩
          have S11 := Lib.hid (((S10.out).up hb).add hr)
          clear S10
          clear hb
          have Q2 := Lib.hid hq
          clear hr hq c0 c1 c2 hsp
          have zle : z.size ≤ 65536 := Q2.out.2.2
          obtain ⟨c0, c1, c2, hbk2⟩ := hR2.out _ S11.out.1
          go_wp2_with fail
          refine (hap.out _).mono ?_
          rintro _ w12 ⟨rfl, hb⟩
          have S12 := Lib.hid (((S11.out).up hb))
          clear S11
          clear hb
          clear c0 c1 c2 hbk2 hap
          go_wp2_with fail
          refine (right_made b2 o2 z _ S12.out.r0 Q2.out).mono ?_
          rintro _ w13 ⟨rfl, hb⟩
          have S13 := Lib.hid (((S12.out).up hb))
          clear S12
          clear hb
          obtain ⟨c0, c1, c2, hbk2⟩ := hR2.out _ S13.out.1
          go_wp2_with fail
          refine (asked_made b2 o2 z a _ S13.out.r0 Q2.out hsb).mono ?_
          rintro _ w14 ⟨rfl, hb⟩
          have S14 := Lib.hid (((S13.out).up hb))
          clear S13
          clear hb
          clear c0 c1 c2 hbk2
          go_wp2_with fail
          refine (asked_made b2 o2 z z.size _ S14.out.r0 Q2.out (by omega)).mono ?_
          rintro _ w15 ⟨rfl, hb⟩
          have S15 := Lib.hid (((S14.out).up hb))
          clear S14
          clear hb
          have nq : ((z.size : Int) / 2) ≤ 9223372036854775807 := by omega
          go_wp2_with fail
          refine (asked_made b2 o2 z ((z.size : Int) / 2) _ S15.out.r0 Q2.out nq).mono ?_
          rintro _ w16 ⟨rfl, hb⟩
          have S16 := Lib.hid (((S15.out).up hb))
          clear S15
          clear hb
          have G := Lib.hid (F.out.up S16.out.1)
          have R2 := Lib.hid S16.out.r0
          clear F S16
          have hbs := G.out.below.size
          go_wp2_with (at_builtin; first | (refine wpList_append_any _ rfl (.tmp 113) (.tmp 115) _ rfl w.heap.size 22 i0 _ 1 8 Try.underlying53 hi0 hz0 hz1 hz2 rfl (by omega) _ L.length (rps L) rfl (G.out.a.alloc _) (w16.heap.size + 1) (some ⟨w16.heap.size, 0, none⟩) 1 1 (rps [(b2, o2, z)]) rfl (reads_cell w16 _ _) (rps_one (b2, o2, z)) (by simp only [maxLen]; omega) (by omega) (by simp; omega) ?_; intro v2 w17 hown2 hg2 hat2; have G2 := Lib.hid ((G.out.alloc (.cells #[ptr b2] 22)).growA (x := (b2, o2, z)) hown2 hg2 hat2 (R2.out.below ((Below.refl _ _).alloc (Nat.le_refl _) _)) Q2.out); clear hown2 hg2 hat2; have hbs2 := G2.out.below.size) | (refine wpList_append_any _ rfl (.tmp 117) (.tmp 119) _ rfl w.heap.size 9 j0 _ 1 16 Try.underlying28 hj0 jz0 jz1 jz2 rfl (by omega) _ L.length (rtx L) rfl (G2.out.b.alloc _) (w17.heap.size + 1) (some ⟨w17.heap.size, 0, none⟩) 1 1 (rtx [(b2, o2, z)]) rfl (reads_cell w17 _ _) (rtx_one (b2, o2, z)) (by simp only [maxLen]; omega) (by omega) (by simp; omega) ?_; intro v3 w18 hown3 hg3 hat3; have G3 := Lib.hid ((G2.out.alloc (.cells #[.string z] 9)).growB (x := (b2, o2, z)) hown3 hg3 hat3); clear hown3 hg3 hat3))
          try go_wp2
          exact ⟨⟨k + 1, b2, o2, z, L ++ [(b2, o2, z)], by omega, by rw [List.length_append]; simp; omega, by go_num, rfl, rfl, by simp, G3.out⟩, by simp [intOf]; omega⟩
        · rw [Ed.apS, if_neg hz] at hap
          obtain ⟨K, hK⟩ : ∃ K, Ed.checkZ y.size s e t = K := ⟨_, rfl⟩
          rw [hK] at hz hap
          have hk' : (K != 0) = true := by simpa using hz
          have hsp := Lib.hid (fun (wz : World) (r : RopeAt wz b' o') => splice_err b' o' y s e t K wz r Q0.out ht0 hz hK)
          clear hz hK
          unfold Ed.ed at hsp hap
          have S10 := Lib.hid (St.add (St.new wr) R0.out)
          go_wp2_with fail
          refine (hsp.out _ S10.out.r0).mono ?_
          rintro _ w11 ⟨rfl, hb⟩
          have S11 := Lib.hid (((S10.out).up hb))
          clear S10
          clear hb
          clear c0 c1 c2 hsp
          obtain ⟨c0, c1, c2, hbk2⟩ := hR2.out _ S11.out.1
          go_wp2_with fail
          refine (hap.out _).mono ?_
          rintro _ w12 ⟨rfl, hb⟩
          have S12 := Lib.hid (((S11.out).up hb))
          clear S11
          clear hb
          clear c0 c1 c2 hbk2 hap
          have G := Lib.hid (F.out.up S12.out.1)
          clear F
          go_wp2
          exact ⟨⟨k + 1, b', o', y, L, by omega, by omega, by go_num, rfl, rfl, hm'.out, G.out⟩, by simp [intOf]; omega⟩
    · have i1 : ¬ (k : Int) < (n : Int) := by omega
      clear Q0 R0 hm'
      obtain ⟨g7, cap7, rfl, -, -⟩ := F.out.a.form F.out.l
      obtain ⟨g8, cap8, rfl, -, -⟩ := F.out.b.form F.out.m
      go_wp2_with fail
      go_loopw [14] (fun i wz => ∃ q : Nat, q ≤ L.length ∧ i = .int .i64 q ∧ Rws w wz (.slice (some ⟨g7, 0, none⟩) L.length cap7) (.slice (some ⟨g8, 0, none⟩) L.length cap8) L L) (fun i _ => L.length - (intOf i).toNat)
      case atStart => exact ⟨0, Nat.zero_le _, rfl, F.out⟩
      case round =>
        clear F
        obtain ⟨q, hq, rfl, hF⟩ := hrel
        have F := Lib.hid hF
        clear hF
        by_cases hql : q < L.length
        · have j1 : (q : Int) < (L.length : Int) := by omega
          obtain ⟨bx, ox, yx, hx⟩ : ∃ bx ox yx, L[q]? = some (bx, ox, yx) := ⟨_, _, _, List.getElem?_eq_getElem hql⟩
          have hx' := Lib.hid (List.mem_of_getElem? hx)
          have d7 := (F.out.a.cellAt q (by omega)).trans (show (rps L)[q]? = some (ptr bx) by simp [rps, hx])
          have d8 := (F.out.b.cellAt q (by omega)).trans (show (rtx L)[q]? = some (.string yx) by simp [rtx, hx])
          have QX := Lib.hid (F.out.r _ hx'.out).2
          clear hx
          go_wp2_with fail
          go_region_held3 (fun w' => w'.cell? ⟨g7, q, none⟩ = some (ptr bx) ∧ w'.cell? ⟨g8, q, none⟩ = some (.string yx) ∧ Rws w w' (.slice (some ⟨g7, 0, none⟩) L.length cap7) (.slice (some ⟨g8, 0, none⟩) L.length cap8) L L)
            (first | assumption | exact ⟨d7, d8, F.out.drew⟩ | exact up_rw (by assumption) hb | exact up_rw (by assumption) ((Below.refl _ _).alloc (Nat.le_refl _) _))
            (first | (go_at_call 14; refine (right_made bx ox yx _ (by first | exact (F.out.drew.r _ hx'.out).1 | exact ((up_rw_k (by assumption)).r _ hx'.out).1) QX.out).mono ?_; rintro _ w' ⟨rfl, hb⟩))
          all_goals
            have F2 := Lib.hid (up_rw_k (by assumption))
            clear F d7 d8
            go_wp2
            exact ⟨⟨q + 1, by omega, by go_num, F2.out⟩, by simp [intOf]; omega⟩
        · have j1 : ¬ (q : Int) < (L.length : Int) := by omega
          go_wp2_with fail
          refine (alive_any _).mono ?_
          rintro _ w9 ⟨rfl, hb⟩
          go_wp2
          go_ret
          exact ⟨rfl, F.out.below.trans (hb.mono F.out.below.size)⟩

theorem plays_walk (x : ByteArray) (A : Option Addr) (n c : Nat) (l : List Ed.Ed) (w : World) (ha : Reads w w.heap.size 3 A n (Ed.cellsE l)) (hs : Hid (∀ e ∈ l, e.2.2.size ≤ 9223372036854775807)) :
    Calls Try.prog 5 #[.string x, .slice A n c] w fun r w' => r = .returned (.bool true) ∧ Below w.heap.size w w' := by
  by_cases h1 : 65536 < x.size
  · exact plays_long x A n c w h1
  · by_cases h2 : 60 < n ∨ 3000 < x.size
    · exact plays_big x A n c w (by omega) h2
    · exact plays_main x A n c l w (by omega) (by omega) ha hs

end Go.Proofs.Ytagjeckgfjddmaa
