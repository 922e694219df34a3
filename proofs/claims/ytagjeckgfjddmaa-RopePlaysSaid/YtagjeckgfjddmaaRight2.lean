/- right: the leaves of a rope are its text's, and the tree is balanced. -/
import Derived.Test.YtagjeckgfjddmaaRight
namespace Go.Proofs.Ytagjeckgfjddmaa
set_option linter.unusedSimpArgs false
set_option linter.unusedVariables false
open Go.RowKit

theorem ext_part (P Q : List Lf) (x : Lf) (s : ByteArray) (h : flat (P ++ x :: Q) = s.data.toList) : s.extract (total P) (total P + x.2.size) = x.2 := by
  apply ByteArray.ext
  apply Array.toList_inj.mp
  rw [ByteArray.data_extract, Array.toList_extract, List.extract_eq_drop_take', ← h, flat_app, flat_cons]
  have h1 : (flat P).length = total P := flat_len _
  have h2 : x.2.data.toList.length = x.2.size := ba_len _
  rw [← h1, ← h2, ← List.length_append, ← List.append_assoc, List.take_left, List.drop_left]
theorem flat_part (l : List Lf) (k : Nat) (x : Lf) (hx : l[k]? = some x) (s : ByteArray) (h : flat l = s.data.toList) : s.extract (total (l.take k)) (total (l.take k) + x.2.size) = x.2 := by
  have e : l = l.take k ++ x :: l.drop (k + 1) := by
    obtain ⟨hk, hv⟩ := List.getElem?_eq_some_iff.1 hx
    rw [← hv, List.getElem_cons_drop, List.take_append_drop]
  exact ext_part _ (l.drop (k + 1)) x s (by rw [← e]; exact h)
theorem txts_get {l : List Lf} {k : Nat} {u : Value} (h : (txts l)[k]? = some u) : ∃ x, u = .string x.2 ∧ l[k]? = some x := by
  unfold txts at h
  rw [List.getElem?_map] at h
  cases e : l[k]? with
  | none => rw [e] at h; cases h
  | some x => rw [e] at h; exact ⟨x, (Option.some.inj h).symm, rfl⟩
theorem total_take_le (l : List Lf) (k : Nat) (x : Lf) (hx : l[k]? = some x) : total (l.take k) + x.2.size ≤ total l ∧ total (l.take (k + 1)) = total (l.take k) + x.2.size := by
  have e : l.take (k + 1) = l.take k ++ [x] := by rw [List.take_add_one, hx]; rfl
  have h2 : total (l.take (k + 1)) = total (l.take k) + x.2.size := by rw [e, total_app, total_cons, total_nil]; omega
  refine ⟨?_, h2⟩
  rw [← h2]
  have h3 := total_app (l.take (k + 1)) (l.drop (k + 1))
  rw [List.take_append_drop] at h3
  omega

set_option maxHeartbeats 4000000 in
set_option maxRecDepth 100000 in
theorem right_made (b : Nat) (o : Option T) (s : ByteArray) (w : World) (hr : RopeAt w b o) (q : TreeOf s o) :
    Calls Try.prog 14 #[ptr b, .string s] w fun e w' => e = .returned (.bool true) ∧ Below w.heap.size w w' := by
  have hll := q.2.1.good.len_le
  have htt := q.total
  have hs := q.2.2
  have c1 := Lib.hid (leaves_made b o w hr (by omega))
  have c2 := Lib.hid (fun wz (h : Below w.heap.size w wz) => height_made b o wz (hr.below h))
  have c3 := Lib.hid (fun wz (h : Below w.heap.size w wz) => len_is b o s wz (hr.below h) q)
  have c4 := Lib.hid (fun wz (h : Below w.heap.size w wz) => text_made b o s wz (hr.below h) q)
  have hpart := Lib.hid (fun k x hx => flat_part (lvs o) k x hx s q.1)
  have hpos := Lib.hid (fun k x (hx : (lvs o)[k]? = some x) => q.2.1.good.pos x (List.mem_of_getElem? hx))
  have hfin : (lvs o = [] ∧ hgtO o = 0) ∨ (0 < (lvs o).length ∧ (∀ k : Nat, (lvs o).length < 2 ^ k → hgtO o ≤ 2 * k + 2) ∧ (hgtO o = 0 ↔ (lvs o).length = 1)) := by
    cases o with
    | none => exact .inl ⟨rfl, rfl⟩
    | some t => exact .inr ⟨List.length_pos_iff.2 t.leaves_ne, fun k hk => t.low q.2.1.1 k hk, t.one_leaf⟩
  generalize hgtO o = H at *
  generalize lvs o = l at *
  obtain ⟨n, hn⟩ : ∃ n, l.length = n := ⟨_, rfl⟩
  have hfin' := Lib.hid hfin
  have htt' := Lib.hid htt
  rw [hn] at hll
  have hnb : n ≤ 65536 := by omega
  have hn' := Lib.hid hn
  clear hr q hfin htt hn
  go_enter Try.func14, Try.ntmps14
  go_wp2_with fail
  refine c1.out.mono ?_
  rintro _ w1 ⟨v, rfl, hown, hB⟩
  obtain ⟨A, c, rfl⟩ := owns_slice hown
  have r1 := Lib.hid (Reads.of_own hown)
  rw [hn'.out] at r1 ⊢
  have hL := Lib.hid hB
  clear hown hB
  go_wp2_with fail
  go_loopw [6, 7] (fun a i wr => ∃ k q : Nat, k ≤ n ∧ i = .int .i64 k ∧ a = .int .i64 (total (l.take k)) ∧ wr = w1.drewN q) (fun _ i _ => n - (intOf i).toNat)
  case atStart => exact ⟨0, 0, Nat.zero_le _, rfl, rfl, rfl⟩
  case round =>
    obtain ⟨k, q, hk, rfl, rfl, rfl⟩ := hrel
    by_cases hkn : k < n
    · obtain ⟨p, u, hA, _, hu, hc⟩ := r1.out.at_ hkn
      obtain ⟨x, rfl, hx⟩ := txts_get hu
      subst hA
      have hp := Lib.hid (hpart.out k x hx)
      obtain ⟨p1, p2⟩ := hpos.out k x hx
      obtain ⟨p3, p4⟩ := total_take_le l k x hx
      rw [htt'.out] at p3
      obtain ⟨y, hy⟩ : ∃ y, x.2 = y := ⟨_, rfl⟩
      rw [hy] at hp p1 p2 p3 p4 hc
      generalize total (l.take k) = a at *
      have p4' := Lib.hid p4
      have i1 : (k : Int) < (n : Int) := by omega
      clear hu hx hy p4
      obtain ⟨z, hz⟩ : ∃ z, a + y.size = z := ⟨_, rfl⟩
      rw [hz] at hp
      have i2 : (a : Int) ≤ (z : Int) := by omega
      have i3 : (z : Int) ≤ (s.size : Int) := by omega
      have i0 : (0 : Int) ≤ (a : Int) := by omega
      have d1 : decide ((y.size : Int) < 1) = false := by simp; omega
      have d2 : decide (64 < (y.size : Int)) = false := by simp; omega
      have d3 : decide ((s.size : Int) - (a : Int) < (y.size : Int)) = false := by simp; omega
      have f1x : IntKind.i64.wrap ((a : Int) + (y.size : Int)) = (z : Int) := by rw [IntWalk.i64_in _ (by omega)]; omega
      have f2x : IntKind.i64.wrap ((s.size : Int) - (a : Int)) = (s.size : Int) - (a : Int) := IntWalk.i64_in _ (by omega)
      have f1' := Lib.hid f1x
      have f2' := Lib.hid f2x
      have hz' := Lib.hid hz
      clear f1x f2x hz
      go_wp2_with fail
      have f1 := f1'.out
      have f2 := f2'.out
      have f3 := hp.out
      go_quiet (fail)
      clear f1 f2 f3 d1 d2 d3
      go_wp2
      exact ⟨⟨k + 1, q + nq, by omega, by go_num, by rw [p4'.out]; go_num, rfl⟩, by simp [intOf]; omega⟩
    · obtain rfl : k = n := by omega
      have e : total (l.take k) = s.size := by rw [List.take_of_length_le (by rw [hn'.out]; omega), htt'.out]
      rw [e]
      clear e hkn
      have hL1 := Lib.hid (below_drewN hL.out q)
      go_wp2_with fail
      refine (c2.out _ hL1.out).mono ?_
      rintro _ _ ⟨rfl, rfl⟩
      have hh0 : (0 : Int) ≤ (H : Int) := by omega
      rcases hfin'.out with ⟨h1, h2⟩ | ⟨h1, h2, h3⟩
      · subst h2
        obtain rfl : k = 0 := by rw [← hn'.out, h1]; rfl
        clear h1
        go_wp2_with fail
        refine (c3.out _ hL1.out).mono ?_
        rintro _ _ ⟨rfl, rfl⟩
        go_wp2_with fail
        refine (c4.out _ hL1.out).mono ?_
        rintro _ w4 ⟨rfl, hb4⟩
        go_wp2
        go_ret
        exact ⟨rfl, hL1.out.trans (hb4.mono hL1.out.size)⟩
      · rw [hn'.out] at h1 h2 h3
        have h2' := Lib.hid h2
        have h3' := Lib.hid h3
        clear h2 h3
        go_wp2_with fail
        refine (c3.out _ hL1.out).mono ?_
        rintro _ _ ⟨rfl, rfl⟩
        go_wp2_with fail
        refine (c4.out _ hL1.out).mono ?_
        rintro _ w4 ⟨rfl, hb4⟩
        have hL4 := Lib.hid (hL1.out.trans (hb4.mono hL1.out.size))
        clear hb4
        go_wp2_with fail
        refine (high_any k _ (by omega)).mono ?_
        rintro _ _ ⟨⟨t, rfl, ht1, ht2⟩, rfl⟩
        have hhi : (H : Int) ≤ 2 * (t : Int) + 2 := by have := h2'.out t ht1; omega
        have ht1' := Lib.hid ht1
        clear ht1
        by_cases hH : H = 0
        · have hk1 : k = 1 := h3'.out.1 hH
          subst hH hk1
          go_wp2
          go_ret
          exact ⟨rfl, hL4.out⟩
        · have hk1 : ¬ k = 1 := fun e => hH (h3'.out.2 e)
          have b1 : ((H : Int) == 0) = false := by simpa using hH
          have b2 : ((k : Int) == 1) = false := by simp; omega
          have b3 : (k == 1) = false := by simpa using hk1
          have b4 : (H == 0) = false := by simpa using hH
          clear hH hk1
          go_wp2
          go_ret
          exact ⟨rfl, hL4.out⟩
end Go.Proofs.Ytagjeckgfjddmaa
