/- RopeTwice: the walk. -/
import Derived.Test.YtagjeckgfjddmaaRShares
namespace Go.Proofs.Ytagjeckgfjddmaa
set_option linter.unusedSimpArgs false
set_option linter.unusedVariables false
open Go.RowKit

theorem St.sp (w : World) (f g : Int) : St w (w.alloc (.cells #[.int .i64 f, .int .i64 g] 32)) [] [(w.heap.size, 0, .int .i64 f), (w.heap.size, 1, .int .i64 g)] :=
  ⟨(Below.refl _ _).alloc (Nat.le_refl _) _, by simp, by
    intro c hc
    simp only [List.mem_cons, List.not_mem_nil, or_false] at hc
    rcases hc with rfl | rfl <;> exact ⟨by simp, by simp⟩⟩
theorem splice_back (x : ByteArray) (f g : Nat) (h : f ≤ g) (hg : g ≤ x.size) : Ed.splice (x.extract 0 f ++ x.extract g x.size) f f (x.extract f g) = x := by
  apply ByteArray.ext
  apply Array.toList_inj.mp
  have e1 : (x.extract 0 f).data.toList = x.data.toList.take f := sub_head x f (by omega)
  have e2 : (x.extract g x.size).data.toList = x.data.toList.drop g := sz_drop x g
  have e3 : (x.extract f g).data.toList = (x.data.toList.take g).drop f := by
    rw [ByteArray.data_extract, Array.toList_extract, List.extract_eq_drop_take']
  have hl : (x.data.toList.take f).length = f := by rw [List.length_take, ba_len]; omega
  unfold Ed.splice
  rw [ba_list, e1, e2, e3]
  simp only
  rw [List.take_left' hl, List.drop_left' hl, List.append_assoc]
  have : x.data.toList.take f = (x.data.toList.take g).take f := by rw [List.take_take, Nat.min_eq_left h]
  rw [this, ← List.append_assoc, List.take_append_drop, List.take_append_drop]

set_option maxHeartbeats 4000000 in
set_option maxRecDepth 100000 in
theorem twice_out (x : ByteArray) (f g : Int) (w : World) (h : ¬ (x.size ≤ 3000 ∧ 0 ≤ f ∧ f ≤ g ∧ g ≤ x.size)) :
    Calls Try.prog 11 #[.string x, sp f g] w fun r w' => r = .returned (.bool true) ∧ Below w.heap.size w w' := by
  have S0 := Lib.hid (St.sp w f g)
  have key : ∀ (p1 p2 p3 p4 : Bool), decide ((3000 : Int) < (x.size : Int)) = p1 → decide (f < 0) = p2 → decide (g < f) = p3 → decide ((x.size : Int) < g) = p4 → (p1 || p2 || p3 || p4) = true →
      Calls Try.prog 11 #[.string x, sp f g] w fun r w' => r = .returned (.bool true) ∧ Below w.heap.size w w' := by
    intro p1 p2 p3 p4 d1 d2 d3 d4 hp
    have c0 := S0.out.c0.1
    have z0 := S0.out.c0.2
    have c1 := S0.out.tl.c0.1
    clear h
    cases p1 <;> cases p2 <;> cases p3 <;> cases p4 <;> first
      | (exfalso; exact absurd hp (by decide))
      | (clear hp
         go_enter Try.func11, Try.ntmps11
         go_wp2_with fail
         refine (alive_any _).mono ?_
         rintro _ w2 ⟨rfl, hb⟩
         go_wp2
         go_ret
         exact ⟨rfl, (S0.out.up hb).1⟩)
  exact key _ _ _ _ rfl rfl rfl rfl (by simp; omega)

theorem up_tw {v0 v1 : Value} {b0 : Nat} {w0 w w' : World} {R : List (Nat × Option T)} {C : List (Nat × Nat × Value)} (h : w.cell? ⟨b0, 0, none⟩ = some (v0) ∧ w.cell? ⟨b0, 1, none⟩ = some (v1) ∧ b0 < w.heap.size ∧ St w0 w R C) (hb : Below w.heap.size w w') : w'.cell? ⟨b0, 0, none⟩ = some (v0) ∧ w'.cell? ⟨b0, 1, none⟩ = some (v1) ∧ b0 < w'.heap.size ∧ St w0 w' R C := by
  obtain ⟨h0, h1, z0, K⟩ := h
  exact ⟨(hb.cell (p := ⟨b0, 0, none⟩) z0).trans h0, (hb.cell (p := ⟨b0, 1, none⟩) z0).trans h1, Nat.lt_of_lt_of_le z0 hb.size, K.up hb⟩
theorem up_tw_k {v0 v1 : Value} {b0 : Nat} {w0 w : World} {R : List (Nat × Option T)} {C : List (Nat × Nat × Value)} (h : w.cell? ⟨b0, 0, none⟩ = some (v0) ∧ w.cell? ⟨b0, 1, none⟩ = some (v1) ∧ b0 < w.heap.size ∧ St w0 w R C) : St w0 w R C := h.2.2.2

set_option maxHeartbeats 4000000 in
set_option maxRecDepth 100000 in
theorem twice_in (x : ByteArray) (f g : Nat) (w : World) (hx : x.size ≤ 3000) (hfg : f ≤ g) (hg : g ≤ x.size) :
    Calls Try.prog 11 #[.string x, sp f g] w fun r w' => r = .returned (.bool true) ∧ Below w.heap.size w w' := by
  have S0 := Lib.hid (St.sp w f g)
  have c0 := S0.out.c0.1
  have z0 := S0.out.c0.2
  have c1 := S0.out.tl.c0.1
  have z1 := S0.out.tl.c0.2
  have n1 : ¬ (3000 : Int) < (x.size : Int) := by omega
  have n2 : ¬ (f : Int) < 0 := by omega
  have n3 : ¬ g < f := by omega
  have n4 : ¬ x.size < g := by omega
  have hbk := splice_back x f g hfg hg
  have p1 : (x.extract 0 f).size = f := ext0_size x f (by omega)
  have p2 : (x.extract g x.size).size = x.size - g := ext1_size x g hg
  have p3 : (x.extract f g).size = g - f := by simp; omega
  have hsl := Lib.hid (fun (b : Nat) (o : Option T) (wz : World) (r : RopeAt wz b o) (q : TreeOf x o) => slice_in b o x f g wz r q hfg hg)
  obtain ⟨u, hu⟩ : ∃ u, x.extract 0 f = u := ⟨_, rfl⟩
  obtain ⟨v, hv⟩ : ∃ v, x.extract g x.size = v := ⟨_, rfl⟩
  obtain ⟨t, ht⟩ : ∃ t, x.extract f g = t := ⟨_, rfl⟩
  rw [hu] at hbk p1
  rw [hv] at hbk p2
  rw [ht] at hbk p3 hsl
  obtain ⟨y, hy⟩ : ∃ y, u ++ v = y := ⟨_, rfl⟩
  rw [hy] at hbk
  have p4 : y.size = f + (x.size - g) := by rw [← hy, ba_size, p1, p2]
  have hz : Ed.checkZ y.size f f t = 0 := by
    have hw : Ed.withinB f f y.size = true := by unfold Ed.withinB; simp; omega
    unfold Ed.checkZ; rw [if_neg (by omega), if_neg (by simp [hw]), if_neg (by omega)]
  have hsp := Lib.hid (fun (b : Nat) (o : Option T) (wz : World) (r : RopeAt wz b o) (q : TreeOf y o) => (splice_ok b o y f f t wz r q (Nat.le_refl _) (by omega) (by omega) hz).mono fun e w' (q : Made _ wz e w') => (show Made (TreeOf x) wz e w' by obtain ⟨b2, o2, q1, q2, q3, q4⟩ := q; exact ⟨b2, o2, q1, q2, by have := q3.1; rwa [hbk] at this, q4⟩))
  have hnew := Lib.hid (fun (wz : World) => new_tree y wz (by omega))
  unfold Made at hnew
  have hu' := Lib.hid hu
  have hv' := Lib.hid hv
  have ht' := Lib.hid ht
  have hy' := Lib.hid hy
  have hsum : ¬ 9223372036854775807 < u.size + v.size := by omega
  have j1 : (0 : Int) ≤ (f : Int) := by omega
  have j2 : (f : Int) ≤ (x.size : Int) := by omega
  have j3 : (0 : Int) ≤ (g : Int) := by omega
  have j4 : (g : Int) ≤ (x.size : Int) := by omega
  have j5 : (f : Int) ≤ (g : Int) := by omega
  clear hz hbk hu hv ht hy p1 p2 p3 p4 j1 j2 j3 j4 j5 hsum
  go_enter Try.func11, Try.ntmps11
  go_wp2_with fail
  refine (new_tree x _ (by omega)).mono ?_
  rintro _ w1 ⟨b, o, rfl, hr, ⟨hq, -⟩, hb⟩
  clear c0 z0 c1 z1
  have S1 := Lib.hid (((S0.out).up hb).add hr)
  clear S0
  clear hb
  have c0 := S1.out.c0.1
  have z0 := S1.out.c0.2
  have c1 := S1.out.tl.c0.1
  have z1 := S1.out.tl.c0.2
  clear hr
  have Q := Lib.hid hq
  clear hq
  go_wp2_with fail
  have j1 : (0 : Int) ≤ (f : Int) := by omega
  have j2 : (f : Int) ≤ (x.size : Int) := by omega
  have j3 : (0 : Int) ≤ (g : Int) := by omega
  have j4 : (g : Int) ≤ (x.size : Int) := by omega
  have hu := hu'.out
  have hv := hv'.out
  have hy := hy'.out
  have hsum : ¬ 9223372036854775807 < u.size + v.size := by rw [← ba_size, hy, ← hy, ba_size, ← hu, ← hv]; simp; omega
  go_region_held3 (fun w' => w'.cell? ⟨w.heap.size, 0, none⟩ = some (.int .i64 f) ∧ w'.cell? ⟨w.heap.size, 1, none⟩ = some (.int .i64 g) ∧ w.heap.size < w'.heap.size ∧ St w w' [(b, o)] [(w.heap.size, 0, .int .i64 f), (w.heap.size, 1, .int .i64 g)])
    (first | assumption | exact ⟨c0, c1, z0, S1.out.drew⟩ | exact up_tw (by assumption) hb | exact up_tw (by assumption) ((Below.refl _ _).alloc (Nat.le_refl _) _))
    (first | (go_at_call 12; refine (hnew.out _).mono ?_; rintro _ w' ⟨b1, o1, rfl, hr, ⟨hq, -⟩, hb⟩))
  clear hu hv hy hsum j1 j2 j3 j4
  have hx := Lib.hid (up_tw_k (by assumption))
  clear c0 z0 c1 z1
  clear hb S1
  have S2 := Lib.hid (hx.out.add hr)
  clear hx hr
  have Q1 := Lib.hid hq
  clear hq
  rename_i hh
  clear hh
  have c0 := S2.out.c0.1
  have z0 := S2.out.c0.2
  have c1 := S2.out.tl.c0.1
  have z1 := S2.out.tl.c0.2
  unfold Made at hsp
  go_wp2_with fail
  have j1 : (0 : Int) ≤ (f : Int) := by omega
  have j4 : (g : Int) ≤ (x.size : Int) := by omega
  have j5 : (f : Int) ≤ (g : Int) := by omega
  have ht := ht'.out
  go_region_held3 (fun w' => w'.cell? ⟨w.heap.size, 0, none⟩ = some (.int .i64 f) ∧ w'.cell? ⟨w.heap.size, 1, none⟩ = some (.int .i64 g) ∧ w.heap.size < w'.heap.size ∧ St w w' [(b1, o1), (b, o)] [(w.heap.size, 0, .int .i64 f), (w.heap.size, 1, .int .i64 g)])
    (first | assumption | exact ⟨c0, c1, z0, S2.out.drew⟩ | exact up_tw (by assumption) hb | exact up_tw (by assumption) ((Below.refl _ _).alloc (Nat.le_refl _) _))
    (first | (go_at_call 26; refine (hsp.out _ _ _ (by first | exact S2.out.drew.r0 | exact (up_tw_k (by assumption)).r0) Q1.out).mono ?_; rintro _ w' ⟨b2, o2, rfl, hr, hq, hb⟩))
  clear ht j1 j4 j5
  have hx := Lib.hid (up_tw_k (by assumption))
  clear c0 z0 c1 z1
  clear hb S2
  have S3 := Lib.hid (hx.out.add hr)
  clear hx hr
  have Q2 := Lib.hid hq
  clear hq
  rename_i hh
  clear hh
  have c0 := S3.out.c0.1
  have z0 := S3.out.c0.2
  have c1 := S3.out.tl.c0.1
  have z1 := S3.out.tl.c0.2
  have txt := Lib.hid (fun (b : Nat) (o : Option T) (wz : World) (r : RopeAt wz b o) (q : TreeOf x o) => text_made b o x wz r q)
  have lns := Lib.hid (fun (b : Nat) (o : Option T) (wz : World) (r : RopeAt wz b o) (q : TreeOf x o) => lines_made b o x wz r q)
  have len := Lib.hid (fun (b : Nat) (o : Option T) (wz : World) (r : RopeAt wz b o) (q : TreeOf x o) => len_is b o x wz r q)
  generalize (cntN x.data.toList : Int) + 1 = NL at *
  have hle := Q2.out.len
  have ssh := Lib.hid (fun (wz : World) (r1 : RopeAt wz b2 o2) => shared_made b2 b2 o2 o2 wz r1 r1 (by omega) (by omega))
  rw [shr_self, blks_len] at ssh
  have slv := Lib.hid (fun (wz : World) (r : RopeAt wz b2 o2) => leaves_made b2 o2 wz r (by omega))
  unfold TxtMade at slv
  obtain ⟨N, hN⟩ : ∃ N, (lvs o2).length = N := ⟨_, rfl⟩
  rw [hN] at ssh slv
  have hN' := Lib.hid hN
  clear hN hle
  go_wp2_with fail
  refine (hsl.out b o _ S3.out.r2 Q.out).mono ?_
  rintro _ w2 ⟨rfl, hb⟩
  clear c0 z0 c1 z1
  have S4 := Lib.hid (((S3.out).up hb))
  clear S3
  clear hb
  have c0 := S4.out.c0.1
  have z0 := S4.out.c0.2
  have c1 := S4.out.tl.c0.1
  have z1 := S4.out.tl.c0.2
  go_wp2_with fail
  refine (hsl.out b2 o2 _ S4.out.r0 Q2.out).mono ?_
  rintro _ w3 ⟨rfl, hb⟩
  clear c0 z0 c1 z1
  have S5 := Lib.hid (((S4.out).up hb))
  clear S4
  clear hb
  have c0 := S5.out.c0.1
  have z0 := S5.out.c0.2
  have c1 := S5.out.tl.c0.1
  have z1 := S5.out.tl.c0.2
  go_wp2_with fail
  refine (txt.out b o _ S5.out.r2 Q.out).mono ?_
  rintro _ w4 ⟨rfl, hb⟩
  clear c0 z0 c1 z1
  have S6 := Lib.hid (((S5.out).up hb))
  clear S5
  clear hb
  have c0 := S6.out.c0.1
  have z0 := S6.out.c0.2
  have c1 := S6.out.tl.c0.1
  have z1 := S6.out.tl.c0.2
  go_wp2_with fail
  refine (txt.out b2 o2 _ S6.out.r0 Q2.out).mono ?_
  rintro _ w5 ⟨rfl, hb⟩
  clear c0 z0 c1 z1
  have S7 := Lib.hid (((S6.out).up hb))
  clear S6
  clear hb
  have c0 := S7.out.c0.1
  have z0 := S7.out.c0.2
  have c1 := S7.out.tl.c0.1
  have z1 := S7.out.tl.c0.2
  go_wp2_with fail
  refine (len.out b o _ S7.out.r2 Q.out).mono ?_
  rintro _ _ ⟨rfl, rfl⟩
  go_wp2_with fail
  refine (len.out b2 o2 _ S7.out.r0 Q2.out).mono ?_
  rintro _ _ ⟨rfl, rfl⟩
  go_wp2_with fail
  refine (lns.out b o _ S7.out.r2 Q.out).mono ?_
  rintro _ w6 ⟨rfl, hb⟩
  clear c0 z0 c1 z1
  have S8 := Lib.hid (((S7.out).up hb))
  clear S7
  clear hb
  have c0 := S8.out.c0.1
  have z0 := S8.out.c0.2
  have c1 := S8.out.tl.c0.1
  have z1 := S8.out.tl.c0.2
  go_wp2_with fail
  refine (lns.out b2 o2 _ S8.out.r0 Q2.out).mono ?_
  rintro _ w7 ⟨rfl, hb⟩
  clear c0 z0 c1 z1
  have S9 := Lib.hid (((S8.out).up hb))
  clear S8
  clear hb
  have c0 := S9.out.c0.1
  have z0 := S9.out.c0.2
  have c1 := S9.out.tl.c0.1
  have z1 := S9.out.tl.c0.2
  go_wp2_with fail
  refine (ssh.out _ S9.out.r0).mono ?_
  rintro _ w8 ⟨rfl, hb⟩
  clear c0 z0 c1 z1
  have S10 := Lib.hid (((S9.out).up hb))
  clear S9
  clear hb
  have c0 := S10.out.c0.1
  have z0 := S10.out.c0.2
  have c1 := S10.out.tl.c0.1
  have z1 := S10.out.tl.c0.2
  go_wp2_with fail
  refine (slv.out _ S10.out.r0).mono ?_
  rintro _ w9 ⟨v, rfl, hown, hb⟩
  clear c0 z0 c1 z1
  have S11 := Lib.hid (((S10.out).up hb))
  clear S10
  clear hb
  have c0 := S11.out.c0.1
  have z0 := S11.out.c0.2
  have c1 := S11.out.tl.c0.1
  have z1 := S11.out.tl.c0.2
  obtain ⟨A, cc, rfl⟩ := owns_slice hown
  clear hown
  go_wp2_with fail
  refine (alive_any _).mono ?_
  rintro _ w10 ⟨rfl, hb⟩
  clear c0 z0 c1 z1
  have S12 := Lib.hid (((S11.out).up hb))
  clear S11
  clear hb
  go_wp2
  go_ret
  exact ⟨rfl, S12.out.1⟩

theorem twice_walk (x : ByteArray) (f g : Int) (w : World) :
    Calls Try.prog 11 #[.string x, sp f g] w fun r w' => r = .returned (.bool true) ∧ Below w.heap.size w w' := by
  by_cases h : x.size ≤ 3000 ∧ 0 ≤ f ∧ f ≤ g ∧ g ≤ x.size
  · have := twice_in x f.toNat g.toNat w h.1 (by omega) (by omega)
    rwa [show ((f.toNat : Nat) : Int) = f by omega, show ((g.toNat : Nat) : Int) = g by omega] at this
  · exact twice_out x f g w h

end Go.Proofs.Ytagjeckgfjddmaa
