/- RopeShares: the walk. -/
import Derived.Test.YtagjeckgfjddmaaRPlaces
namespace Go.Proofs.Ytagjeckgfjddmaa
set_option linter.unusedSimpArgs false
set_option linter.unusedVariables false
open Go.RowKit

theorem pre_comm (l m : List Nat) : pre l m = pre m l := by
  induction l generalizing m with
  | nil => cases m <;> simp [pre]
  | cons a l ih =>
    cases m with
    | nil => simp [pre]
    | cons b m =>
      rw [pre, pre]
      by_cases h : a = b
      · rw [if_pos h, if_pos h.symm, ih]
      · rw [if_neg h, if_neg (fun e => h e.symm)]
theorem pre_self (l : List Nat) : pre l l = l.length := by
  induction l with
  | nil => rfl
  | cons a l ih => rw [pre, if_pos rfl, ih]; rfl
theorem pre_ge (Q a b : List Nat) : Q.length ≤ pre (Q ++ a) (Q ++ b) := by
  induction Q with
  | nil => simp
  | cons x Q ih => simp only [List.cons_append, pre, if_pos, List.length_cons]; omega
theorem pre_takes (Q a b : List Nat) (i j : Nat) : min Q.length (min i j) ≤ pre ((Q ++ a).take i) ((Q ++ b).take j) := by
  obtain ⟨k, hk⟩ : ∃ k, min Q.length (min i j) = k := ⟨_, rfl⟩
  rw [hk]
  have e1 : ∀ c i, k ≤ i → (Q ++ c).take i = Q.take k ++ ((Q ++ c).take i).drop k := by
    intro c i hi
    conv => lhs; rw [← List.take_append_drop k ((Q ++ c).take i)]
    rw [List.take_take, Nat.min_eq_left hi, List.take_append_of_le_length (by omega)]
  rw [e1 a i (by omega), e1 b j (by omega)]
  have := pre_ge (Q.take k) (((Q ++ a).take i).drop k) (((Q ++ b).take j).drop k)
  rw [List.length_take] at this
  omega
theorem shr_comm (l m : List Nat) : shr l m = shr m l := by unfold shr; rw [pre_comm l m, pre_comm (l.drop _).reverse]
theorem shr_self (l : List Nat) : shr l l = l.length := by unfold shr; rw [pre_self]; simp [pre]
theorem shr_le (l m : List Nat) : shr l m ≤ m.length := by
  unfold shr
  have h1 := (pre_le l m).2
  have h2 := (pre_le (l.drop (pre l m)).reverse (m.drop (pre l m)).reverse).2
  rw [List.length_reverse, List.length_drop] at h2
  omega
theorem shr_ge (P X K S : List Nat) : P.length + S.length ≤ shr (P ++ X ++ S) (P ++ K ++ S) := by
  unfold shr
  obtain ⟨n, hn⟩ : ∃ n, pre (P ++ X ++ S) (P ++ K ++ S) = n := ⟨_, rfl⟩
  have h1 := pre_ge P (X ++ S) (K ++ S)
  rw [← List.append_assoc, ← List.append_assoc, hn] at h1
  have h2 := pre_le (P ++ X ++ S) (P ++ K ++ S)
  rw [hn] at h2 ⊢
  have e : ∀ Y : List Nat, ((P ++ Y ++ S).drop n).reverse = (S.reverse ++ (P ++ Y).reverse).take ((P ++ Y ++ S).length - n) := by
    intro Y
    rw [List.reverse_drop, List.reverse_append]
  rw [e X, e K]
  have h3 := pre_takes S.reverse (P ++ X).reverse (P ++ K).reverse ((P ++ X ++ S).length - n) ((P ++ K ++ S).length - n)
  rw [List.length_reverse] at h3
  simp only [List.length_append] at h2 h3 ⊢
  omega
theorem blks_app (a b : List Lf) : blks (a ++ b) = blks a ++ blks b := List.map_append ..
theorem blks_len (a : List Lf) : (blks a).length = a.length := List.length_map ..
theorem TreeOf.len {s : ByteArray} {o : Option T} (h : TreeOf s o) : (lvs o).length ≤ 65536 := by
  have := h.2.1.good.len_le; rw [h.total] at this; have := h.2.2; omega
theorem spliced_shr {s t : ByteArray} {a c : Nat} {o u : Option T} (h : Spliced s a c t o u) : (lvs u).length ≤ shr (blks (lvs o)) (blks (lvs u)) + 2 + (t.size + 63) / 64 := by
  obtain ⟨-, P, X, S, K, e1, e2, e3⟩ := h
  have := shr_ge (blks P) (blks X) (blks K) (blks S)
  rw [← blks_app, ← blks_app, ← blks_app, ← blks_app, ← e1, ← e2, blks_len, blks_len] at this
  rw [e2, List.length_append, List.length_append]
  rw [e2] at this
  omega
theorem St.ed (w : World) (s e : Int) (t : ByteArray) : St w (w.alloc (edO s e t)) [] [(w.heap.size, 2, .string t), (w.heap.size, 0, .int .i64 s), (w.heap.size, 1, .int .i64 e)] :=
  ⟨(Below.refl _ _).alloc (Nat.le_refl _) _, by simp, by
    intro c hc
    simp only [List.mem_cons, List.not_mem_nil, or_false] at hc
    rcases hc with rfl | rfl | rfl <;> exact ⟨by simp, by simp⟩⟩

set_option maxHeartbeats 4000000 in
set_option maxRecDepth 100000 in
theorem shares_long (x t : ByteArray) (a c : Int) (w : World) (hx : 65536 < x.size) :
    Calls Try.prog 7 #[.string x, Ed.ed a c t] w fun r w' => r = .returned (.bool true) ∧ Below w.heap.size w w' := by
  have S0 := Lib.hid (St.ed w a c t)
  go_enter Try.func7, Try.ntmps7
  go_wp2_with fail
  refine (new_long x _ hx).mono ?_
  rintro _ _ ⟨rfl, rfl⟩
  go_wp2_with fail
  refine (alive_any _).mono ?_
  rintro _ w1 ⟨rfl, hb⟩
  have S1 := Lib.hid (((S0.out).up hb))
  clear S0
  clear hb
  go_wp2
  go_ret
  exact ⟨rfl, S1.out.1⟩

set_option maxHeartbeats 4000000 in
set_option maxRecDepth 100000 in
theorem shares_err (x t : ByteArray) (a c k : Int) (w : World) (hx : x.size ≤ 65536) (ht : t.size ≤ 9223372036854775807) (hk : k ≠ 0) (hz : Ed.checkZ x.size a c t = k) :
    Calls Try.prog 7 #[.string x, Ed.ed a c t] w fun r w' => r = .returned (.bool true) ∧ Below w.heap.size w w' := by
  have S0 := Lib.hid (St.ed w a c t)
  have hsp := Lib.hid (fun (b : Nat) (o : Option T) (wz : World) (r : RopeAt wz b o) (q : TreeOf x o) => splice_err b o x a c t k wz r q ht hk hz)
  have hk' : (k != 0) = true := by simpa using hk
  clear hk hz
  go_enter Try.func7, Try.ntmps7
  go_wp2_with fail
  refine (new_tree x _ hx).mono ?_
  rintro _ w1 ⟨b, o, rfl, hr, ⟨hq, -⟩, hb⟩
  have S1 := Lib.hid (((S0.out).up hb).add hr)
  clear S0
  clear hb
  have c0 := S1.out.c0.1
  have z0 := S1.out.c0.2
  have c1 := S1.out.tl.c0.1
  have z1 := S1.out.tl.c0.2
  have c2 := S1.out.tl.tl.c0.1
  have z2 := S1.out.tl.tl.c0.2
  clear hr
  have Q := Lib.hid hq
  clear hq
  go_wp2_with fail
  refine (hsp.out b o _ S1.out.r0 Q.out).mono ?_
  rintro _ w2 ⟨rfl, hb⟩
  clear c0 z0 c1 z1 c2 z2
  have S2 := Lib.hid (((S1.out).up hb))
  clear S1
  clear hb
  go_wp2_with fail
  refine (alive_any _).mono ?_
  rintro _ w3 ⟨rfl, hb⟩
  have S3 := Lib.hid (((S2.out).up hb))
  clear S2
  clear hb
  go_wp2
  go_ret
  exact ⟨rfl, S3.out.1⟩

set_option maxHeartbeats 4000000 in
set_option maxRecDepth 100000 in
theorem shares_ok (x t : ByteArray) (a c : Nat) (w : World) (hx : x.size ≤ 65536) (hac : a ≤ c) (hc : c ≤ x.size) (ht : t.size ≤ 65536 - (x.size - (c - a))) (hz : Ed.checkZ x.size a c t = 0) :
    Calls Try.prog 7 #[.string x, Ed.ed a c t] w fun r w' => r = .returned (.bool true) ∧ Below w.heap.size w w' := by
  have S0 := Lib.hid (St.ed w a c t)
  have hsp := Lib.hid (fun (b : Nat) (o : Option T) (wz : World) (r : RopeAt wz b o) (q : TreeOf x o) => splice_ok b o x a c t wz r q hac hc ht hz)
  have ht2 : t.size ≤ 65536 := by omega
  clear hz
  go_enter Try.func7, Try.ntmps7
  go_wp2_with fail
  refine (new_tree x _ hx).mono ?_
  rintro _ w1 ⟨b, o, rfl, hr, ⟨hq, -⟩, hb⟩
  have S1 := Lib.hid (((S0.out).up hb).add hr)
  clear S0
  clear hb
  have c0 := S1.out.c0.1
  have z0 := S1.out.c0.2
  have c1 := S1.out.tl.c0.1
  have z1 := S1.out.tl.c0.2
  have c2 := S1.out.tl.tl.c0.1
  have z2 := S1.out.tl.tl.c0.2
  clear hr
  have Q := Lib.hid hq
  have g1 := hq.len
  clear hq
  go_wp2_with fail
  refine (hsp.out b o _ S1.out.r0 Q.out).mono ?_
  rintro _ w2 ⟨b2, o2, rfl, hr, hq, hb⟩
  clear c0 z0 c1 z1 c2 z2
  have S2 := Lib.hid (((S1.out).up hb).add hr)
  clear S1
  clear hb
  have c0 := S2.out.c0.1
  have z0 := S2.out.c0.2
  have c1 := S2.out.tl.c0.1
  have z1 := S2.out.tl.c0.2
  have c2 := S2.out.tl.tl.c0.1
  have z2 := S2.out.tl.tl.c0.2
  clear hr
  have Q2 := Lib.hid hq.1
  have g2 := hq.1.len
  have g3 := spliced_shr hq
  clear hq
  have g4 := shr_le (blks (lvs o)) (blks (lvs o2))
  rw [blks_len] at g4
  have sss := Lib.hid (fun (wz : World) (r1 : RopeAt wz b2 o2) (r2 : RopeAt wz b2 o2) => shared_made b2 b2 o2 o2 wz r1 r2 (by omega) (by omega))
  have srr := Lib.hid (fun (wz : World) (r1 : RopeAt wz b o) (r2 : RopeAt wz b o) => shared_made b b o o wz r1 r2 (by omega) (by omega))
  have srs := Lib.hid (fun (wz : World) (r1 : RopeAt wz b o) (r2 : RopeAt wz b2 o2) => shared_made b b2 o o2 wz r1 r2 (by omega) (by omega))
  have ssr := Lib.hid (fun (wz : World) (r1 : RopeAt wz b2 o2) (r2 : RopeAt wz b o) => shared_made b2 b o2 o wz r1 r2 (by omega) (by omega))
  rw [shr_self, blks_len] at sss srr
  rw [shr_comm] at ssr
  have l1 := Lib.hid (fun (wz : World) (r : RopeAt wz b o) => leaves_made b o wz r (by omega))
  have l2 := Lib.hid (fun (wz : World) (r : RopeAt wz b2 o2) => leaves_made b2 o2 wz r (by omega))
  unfold TxtMade at l1 l2
  generalize shr (blks (lvs o)) (blks (lvs o2)) = M at *
  obtain ⟨N, hN⟩ : ∃ N, (lvs o2).length = N := ⟨_, rfl⟩
  obtain ⟨N1, hN1⟩ : ∃ N1, (lvs o).length = N1 := ⟨_, rfl⟩
  rw [hN] at sss l2 g2 g3 g4
  rw [hN1] at srr l1 g1
  have hN' := Lib.hid hN
  have hN1' := Lib.hid hN1
  clear hN hN1
  have g5 : (N : Int) - 2 - ((t.size : Int) + 64 - 1) / 64 ≤ (M : Int) := by omega
  have g6 : (M : Int) ≤ (N : Int) := by omega
  clear g3 g4
  go_wp2_with fail
  refine (l2.out _ S2.out.r0).mono ?_
  rintro _ w3 ⟨v, rfl, hown, hb⟩
  clear c0 z0 c1 z1 c2 z2
  have S3 := Lib.hid (((S2.out).up hb))
  clear S2
  clear hb
  have c0 := S3.out.c0.1
  have z0 := S3.out.c0.2
  have c1 := S3.out.tl.c0.1
  have z1 := S3.out.tl.c0.2
  have c2 := S3.out.tl.tl.c0.1
  have z2 := S3.out.tl.tl.c0.2
  obtain ⟨A, cc, rfl⟩ := owns_slice hown
  clear hown
  go_wp2_with fail
  refine (srs.out _ S3.out.r1 S3.out.r0).mono ?_
  rintro _ w4 ⟨rfl, hb⟩
  clear c0 z0 c1 z1 c2 z2
  have S4 := Lib.hid (((S3.out).up hb))
  clear S3
  clear hb
  have c0 := S4.out.c0.1
  have z0 := S4.out.c0.2
  have c1 := S4.out.tl.c0.1
  have z1 := S4.out.tl.c0.2
  have c2 := S4.out.tl.tl.c0.1
  have z2 := S4.out.tl.tl.c0.2
  go_wp2_with fail
  refine (ssr.out _ S4.out.r0 S4.out.r1).mono ?_
  rintro _ w5 ⟨rfl, hb⟩
  clear c0 z0 c1 z1 c2 z2
  have S5 := Lib.hid (((S4.out).up hb))
  clear S4
  clear hb
  have c0 := S5.out.c0.1
  have z0 := S5.out.c0.2
  have c1 := S5.out.tl.c0.1
  have z1 := S5.out.tl.c0.2
  have c2 := S5.out.tl.tl.c0.1
  have z2 := S5.out.tl.tl.c0.2
  go_wp2_with fail
  refine (sss.out _ S5.out.r0 S5.out.r0).mono ?_
  rintro _ w6 ⟨rfl, hb⟩
  clear c0 z0 c1 z1 c2 z2
  have S6 := Lib.hid (((S5.out).up hb))
  clear S5
  clear hb
  have c0 := S6.out.c0.1
  have z0 := S6.out.c0.2
  have c1 := S6.out.tl.c0.1
  have z1 := S6.out.tl.c0.2
  have c2 := S6.out.tl.tl.c0.1
  have z2 := S6.out.tl.tl.c0.2
  go_wp2_with fail
  refine (srr.out _ S6.out.r1 S6.out.r1).mono ?_
  rintro _ w7 ⟨rfl, hb⟩
  clear c0 z0 c1 z1 c2 z2
  have S7 := Lib.hid (((S6.out).up hb))
  clear S6
  clear hb
  have c0 := S7.out.c0.1
  have z0 := S7.out.c0.2
  have c1 := S7.out.tl.c0.1
  have z1 := S7.out.tl.c0.2
  have c2 := S7.out.tl.tl.c0.1
  have z2 := S7.out.tl.tl.c0.2
  go_wp2_with fail
  refine (l1.out _ S7.out.r1).mono ?_
  rintro _ w8 ⟨v, rfl, hown, hb⟩
  clear c0 z0 c1 z1 c2 z2
  have S8 := Lib.hid (((S7.out).up hb))
  clear S7
  clear hb
  have c0 := S8.out.c0.1
  have z0 := S8.out.c0.2
  have c1 := S8.out.tl.c0.1
  have z1 := S8.out.tl.c0.2
  have c2 := S8.out.tl.tl.c0.1
  have z2 := S8.out.tl.tl.c0.2
  obtain ⟨A, cc, rfl⟩ := owns_slice hown
  clear hown
  go_wp2_with fail
  refine (alive_any _).mono ?_
  rintro _ w9 ⟨rfl, hb⟩
  clear c0 z0 c1 z1 c2 z2
  have S9 := Lib.hid (((S8.out).up hb))
  clear S8
  clear hb
  have c0 := S9.out.c0.1
  have z0 := S9.out.c0.2
  have c1 := S9.out.tl.c0.1
  have z1 := S9.out.tl.c0.2
  have c2 := S9.out.tl.tl.c0.1
  have z2 := S9.out.tl.tl.c0.2
  go_wp2
  go_ret
  exact ⟨rfl, S9.out.1⟩

theorem shares_walk (x t : ByteArray) (a c : Int) (w : World) (ht : t.size ≤ 9223372036854775807) :
    Calls Try.prog 7 #[.string x, Ed.ed a c t] w fun r w' => r = .returned (.bool true) ∧ Below w.heap.size w w' := by
  by_cases h1 : 65536 < x.size
  · exact shares_long x t a c w h1
  by_cases h3 : Ed.checkZ x.size a c t = 0
  · obtain ⟨y, z, rfl, rfl, h4, h5, h6⟩ := fits_nat h3
    exact shares_ok x t y z w (by omega) h4 h5 h6 h3
  · exact shares_err x t a c _ w (by omega) ht h3 rfl
end Go.Proofs.Ytagjeckgfjddmaa
