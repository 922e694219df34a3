/- Fold over a row of edits: the program's. -/
import Derived.Test.YtejllankcgcclaaFold
namespace Go.Proofs.Ytejllankcgcclaa
open Go.RowKit
set_option linter.unusedVariables false

theorem info24 : (Try.prog.info? 24).map (fun i => (i.zero, i.size, i.bytes)) = some (some (.int .i64 0), 1, 8) := by kernel_rfl

/-- What Fold hands back. -/
def FoldMade (w : World) (n : Nat) (x : ByteArray) (l : List Ed) (r : Ending) (w' : World) : Prop :=
  ∃ v, r = .returned (.tuple #[.string (foldT x l), v]) ∧ w'.ownsRow w.heap.size 24 1 v n (ints (errs x l n)) ∧ Below w.heap.size w w' ∧ ∃ A c, v = .slice A n c

/-- The errors told so far, and noughts. -/
def errsTo (x : ByteArray) (l : List Ed) (k n : Nat) : List Value := ints (errs x l k) ++ List.replicate (n - k) (.int .i64 0)
theorem errsTo_set (x : ByteArray) (l : List Ed) (k n : Nat) (h : k < n) : (errsTo x l k n).set k (.int .i64 (errK x l k)) = errsTo x l (k + 1) n := by
  unfold errsTo
  rw [List.set_append_right _ _ (by simp [ints, errs]), errs_succ]
  obtain ⟨m, hm⟩ : ∃ m, n - k = m + 1 := ⟨n - k - 1, by omega⟩
  rw [hm, show n - (k + 1) = m by omega]
  simp [ints, errs, List.replicate_succ]

theorem owns_below {w w' : World} {base : Nat} {e : TypeId} {size : Nat} {v : Value} {n : Nat} {xs : List Value} (h : w.ownsRow base e size v n xs) (hb : Below w.heap.size w w') : w'.ownsRow base e size v n xs := by
  refine ⟨h.1, ?_⟩
  rcases h.2 with h0 | ⟨g, cap, cur, hv, hg, hh, hc⟩
  · exact .inl h0
  · refine .inr ⟨g, cap, cur, hv, hg, (hb.block g ?_).trans hh, hc⟩
    rcases Nat.lt_or_ge g w.heap.size with hlt | hge
    · exact hlt
    · rw [Array.getElem?_eq_none hge] at hh; cases hh

set_option maxHeartbeats 1000000 in
theorem fold_any (x : ByteArray) (A : Option Addr) (n c : Nat) (l : List Ed) (w : World) (ha : Reads w w.heap.size 3 A n (cellsE l)) (hn : n ≤ 300) (hx : x.size ≤ 281474976710656) (hs : Hid (∀ e ∈ l, e.2.2.size ≤ 9223372036854775807)) :
    Calls Try.prog 20 #[.string x, .slice A n c] w (FoldMade w n x l) := by
  obtain ⟨i0, hi0, hz0, hz1, hz2⟩ := info_parts info24
  have hl : l.length = n := by have := ha.1; rw [cellsE_length] at this; omega
  have ha' := Lib.hid ha; clear ha
  go_enter Try.func20, Try.ntmps20
  go_wp2_with fail
  refine (clone_any _ _ hx).mono ?_
  rintro _ w1 ⟨rfl, hb1⟩
  have L1' := Lib.hid hb1; clear hb1
  go_wp2_with (refine wpList_make_full _ rfl (.tmp 14) (.tmp 14) 33 rfl w.heap.size 24 i0 _ 1 Try.underlying33 hi0 hz0 hz1 _ _ _ _ n rfl rfl rfl rfl ?c1 ?c2 ?c3 ?_)
  case c1 => rw [hz2]; omega
  case c2 => simp only [maxLen]; omega
  case c3 => exact L1'.out.size
  intro w2 hown hg
  have L2 := L1'.out.grown hg L1'.out.size (by simp)
  have L2' := Lib.hid L2; clear L2 hg L1'
  rw [show (madeCells #[Value.int .i64 0] n).toList = errsTo x l 0 n by simp [errsTo, errs, ints, toList_madeCells_one]] at hown
  have hown' := Lib.hid hown; clear hown
  generalize w1.heap.size = g at hown' ⊢
  go_wp2_with fail
  go_loopw [0, 18] (fun tx i wr => ∃ k : Nat, k ≤ n ∧ i = .int .i64 k ∧ tx = .string (foldT x (l.take k)) ∧ wr.ownsRow w.heap.size 24 1 (.slice (some ⟨g, 0, none⟩) n n) n (errsTo x l k n) ∧ Below w.heap.size w wr) (fun _ i _ => n - (intOf i).toNat)
  case atStart => exact ⟨0, Nat.zero_le _, rfl, rfl, hown'.out, L2'.out⟩
  case round =>
    clear hown' L2'
    obtain ⟨k, hk, rfl, rfl, hown, L⟩ := hrel
    have hown' := Lib.hid hown; clear hown
    have L' := Lib.hid L; clear L
    by_cases hkn : k < n
    · obtain ⟨b, off, hA, _, s, e, t, hx1, c0, c1, c2⟩ := (ha'.out.below L'.out).at3 hkn
      subst hA
      have ht : t.size ≤ 9223372036854775807 := hs.out (s, e, t) (List.mem_of_getElem? hx1)
      have hX : (foldT x (l.take k)).size ≤ 9223372036854775807 := Nat.le_trans (foldT_size (l.take k) 281474976710656 (by omega) x hx) (by omega)
      have hsucc := foldT_succ x l k (s, e, t) hx1
      have hK : errK x l k = checkZ (foldT x (l.take k)).size s e t := by simp [errK, hx1]
      have hset := errsTo_set x l k n hkn
      have hfin : ∀ (Y : ByteArray) (K : Int) (wq : World), foldT x (l.take (k + 1)) = Y → errK x l k = K → wq.ownsRow w.heap.size 24 1 (.slice (some ⟨g, 0, none⟩) n n) n ((errsTo x l k n).set k (.int .i64 K)) → Below w.heap.size w wq →
          ∃ k' : Nat, k' ≤ n ∧ Value.int .i64 ((k : Int) + 1) = .int .i64 k' ∧ Value.string Y = .string (foldT x (l.take k')) ∧ wq.ownsRow w.heap.size 24 1 (.slice (some ⟨g, 0, none⟩) n n) n (errsTo x l k' n) ∧ Below w.heap.size w wq :=
        fun Y K wq h1 h2 h3 h4 => ⟨k + 1, by omega, by go_num, by rw [h1], by rw [← hset, h2]; exact h3, h4⟩
      have hfin' := Lib.hid hfin; clear hfin hset
      have hK' := Lib.hid hK; clear hK
      have hsucc' := Lib.hid hsucc; clear hsucc
      obtain ⟨X, hXX⟩ : ∃ X, foldT x (l.take k) = X := ⟨_, rfl⟩
      rw [hXX] at hX hK' hsucc' ⊢
      clear hXX
      have hcell := (hown'.out.cellAt k (by omega))
      have hfz := (hown'.out.frozenAt k)
      have hlen : (errsTo x l k n)[k]? = some (.int .i64 0) := by
        unfold errsTo
        rw [List.getElem?_append_right (by simp [ints, errs])]
        obtain ⟨m, hm⟩ : ∃ m, n - k = m + 1 := ⟨n - k - 1, by omega⟩
        simp [ints, errs, hm, List.replicate_succ]
      rw [hlen] at hcell
      clear hlen
      have hgb := (hown'.out.lt g rfl).2
      have i1 : (k : Int) < (n : Int) := by omega
      by_cases h0 : checkZ X.size s e t = 0
      · have k1 := fun wz => apply_ok X s e t wz ht hX h0
        have k1' := Lib.hid k1; clear k1
        have hs1 : foldT x (l.take (k + 1)) = splice X s.toNat e.toNat t := by rw [hsucc'.out, stepT, if_pos h0]
        rw [h0] at hK'
        clear h0
        have hs1' := Lib.hid hs1; clear hs1
        obtain ⟨Y, hY⟩ : ∃ Y, splice X s.toNat e.toNat t = Y := ⟨_, rfl⟩
        rw [hY] at k1' hs1'
        clear hY
        go_wp2_with fail
        refine (k1'.out _).mono ?_
        rintro _ w5 ⟨rfl, hb5⟩
        have L5 := Lib.hid (Bcall (Bnew L'.out _) hb5)
        have O5 := Lib.hid (owns_below (hown'.out.alloc _) hb5)
        have q0 : w5.cell? ⟨g, k, none⟩ = some (.int .i64 0) := (hb5.cell (p := ⟨g, k, none⟩) (by simp; omega)).trans ((World.cell?_alloc_past _ _ _ hgb).trans hcell)
        have q1 : w5.frozen? ⟨g, k, none⟩ = false := by rw [hb5.frozen (p := ⟨g, k, none⟩) (by simp; omega), World.frozen?_alloc_old _ _ _ (by simp; omega)]; exact hfz
        clear hb5 hcell hfz c0 c1 c2
        go_wp2
        exact ⟨hfin'.out Y 0 _ hs1'.out hK'.out (O5.out.stored k _).1 (L5.out.setCell (by have := (hown'.out.lt g rfl).1; exact this) _), by simp [intOf]; omega⟩
      · obtain ⟨K, hKK⟩ : ∃ K, checkZ X.size s e t = K := ⟨_, rfl⟩
        have k1 := fun wz => apply_is X s e t wz ht hX K (by rw [← hKK]; exact h0) hKK
        have k1' := Lib.hid k1; clear k1
        have hs1 : foldT x (l.take (k + 1)) = X := by rw [hsucc'.out, stepT, if_neg h0]
        rw [hKK] at hK' h0
        clear hKK
        have h0' : (K == 0) = false := by simpa using h0
        clear h0
        have hs1' := Lib.hid hs1; clear hs1
        go_wp2_with fail
        refine (k1'.out _).mono ?_
        rintro _ w5 ⟨rfl, hb5⟩
        have L5 := Lib.hid (Bcall (Bnew L'.out _) hb5)
        have O5 := Lib.hid (owns_below (hown'.out.alloc _) hb5)
        have q0 : w5.cell? ⟨g, k, none⟩ = some (.int .i64 0) := (hb5.cell (p := ⟨g, k, none⟩) (by simp; omega)).trans ((World.cell?_alloc_past _ _ _ hgb).trans hcell)
        have q1 : w5.frozen? ⟨g, k, none⟩ = false := by rw [hb5.frozen (p := ⟨g, k, none⟩) (by simp; omega), World.frozen?_alloc_old _ _ _ (by simp; omega)]; exact hfz
        clear hb5 hcell hfz c0 c1 c2
        go_wp2
        exact ⟨hfin'.out X K _ hs1'.out hK'.out (O5.out.stored k _).1 (L5.out.setCell (by have := (hown'.out.lt g rfl).1; exact this) _), by simp [intOf]; omega⟩
    · obtain rfl : k = n := by omega
      go_wp2
      go_ret2
      refine ⟨_, by rw [List.take_of_length_le (by omega)]; rfl, ?_, L'.out, _, _, rfl⟩
      simpa [errsTo] using hown'.out
theorem owns_slice {w : World} {base : Nat} {e : TypeId} {size : Nat} {v : Value} {n : Nat} {xs : List Value} (h : w.ownsRow base e size v n xs) : ∃ A c, v = .slice A n c := by
  rcases h.2 with ⟨rfl, rfl⟩ | ⟨g, cap, cur, rfl, _⟩
  · exact ⟨_, _, rfl⟩
  · exact ⟨_, _, rfl⟩
theorem reads_int (w : World) (z : Int) : Reads (w.alloc (.cells #[.int .i64 z] 24)) (w.heap.size + 1) 1 (some ⟨w.heap.size, 0, none⟩) 1 (ints [z]) :=
  ⟨by simp [ints], fun _ => ⟨_, rfl, by simp, cell_one_new _ _ _⟩⟩
theorem ints_one (l : List Int) : ∀ u ∈ ints l, u.oneCell' = true := by
  intro u hu
  simp only [ints, List.mem_map] at hu
  obtain ⟨x, _, rfl⟩ := hu
  rfl

set_option maxHeartbeats 1000000 in
theorem rfold_any (x : ByteArray) (A : Option Addr) (n c : Nat) (l : List Ed) (w : World) (ha : Reads w w.heap.size 3 A n (cellsE l)) (hn : n ≤ 300) (hx : x.size ≤ 281474976710656) (hs : Hid (∀ e ∈ l, e.2.2.size ≤ 9223372036854775807)) :
    Calls Try.prog 21 #[.string x, .slice A n c] w (FoldMade w n x l) := by
  obtain ⟨i0, hi0, hz0, hz1, hz2⟩ := info_parts info24
  have hl : l.length = n := by have := ha.1; rw [cellsE_length] at this; omega
  have ha' := Lib.hid ha; clear ha
  go_enter Try.func21, Try.ntmps21
  go_wp2_with fail
  go_loopw [0, 6, 7] (fun tx v i wr => ∃ k : Nat, k ≤ n ∧ i = .int .i64 k ∧ tx = .string (foldT x (l.take k)) ∧ wr.ownsRow w.heap.size 24 1 v k (ints (errs x l k)) ∧ Below w.heap.size w wr) (fun _ _ i _ => n - (intOf i).toNat)
  case atStart => exact ⟨0, Nat.zero_le _, rfl, rfl, World.ownsRow_nil _ _ _ _, Below.refl _ _⟩
  case round =>
    obtain ⟨k, hk, rfl, rfl, hown, L⟩ := hrel
    have hown' := Lib.hid hown; clear hown
    have L' := Lib.hid L; clear L
    by_cases hkn : k < n
    · obtain ⟨b, off, hA, _, s, e, t, hx1, c0, c1, c2⟩ := (ha'.out.below L'.out).at3 hkn
      subst hA
      have ht : t.size ≤ 9223372036854775807 := hs.out (s, e, t) (List.mem_of_getElem? hx1)
      have hX : (foldT x (l.take k)).size ≤ 9223372036854775807 := Nat.le_trans (foldT_size (l.take k) 281474976710656 (by omega) x hx) (by omega)
      have hsucc := foldT_succ x l k (s, e, t) hx1
      have hK : errK x l k = checkZ (foldT x (l.take k)).size s e t := by simp [errK, hx1]
      have hes := errs_succ x l k
      have hes' := Lib.hid hes; clear hes
      have hK' := Lib.hid hK; clear hK
      have hsucc' := Lib.hid hsucc; clear hsucc
      obtain ⟨X, hXX⟩ : ∃ X, foldT x (l.take k) = X := ⟨_, rfl⟩
      rw [hXX] at hX hK' hsucc' ⊢
      clear hXX
      have i1 : (k : Int) < (n : Int) := by omega
      obtain ⟨K, hKK⟩ : ∃ K, checkZ X.size s e t = K := ⟨_, rfl⟩
      obtain ⟨Z, hZZ⟩ : ∃ Z, apS X s e t = Z := ⟨_, rfl⟩
      obtain ⟨Y, hY⟩ : ∃ Y, foldT x (l.take (k + 1)) = Y := ⟨_, rfl⟩
      have hYK : (K = 0 ∧ Y = Z) ∨ ((K == 0) = false ∧ Y = X) := by
        rw [← hY, hsucc'.out, stepT, ← hZZ, apS, ← hKK]
        by_cases h0 : checkZ X.size s e t = 0
        · exact .inl ⟨h0, by rw [if_pos h0, if_pos h0]⟩
        · exact .inr ⟨by simpa using h0, by rw [if_neg h0]⟩
      have k1 : ∀ wz : World, Calls Try.prog 18 #[.string X, ed s e t] wz fun r w' => r = .returned (.tuple #[.string Z, .int .i64 K]) ∧ Below wz.heap.size wz w' := fun wz => by
        have q := rapply_any X s e t wz ht hX
        rwa [hKK, hZZ] at q
      rw [hKK] at hK'
      clear hKK hZZ hsucc'
      have k1' := Lib.hid k1; clear k1
      have hY' := Lib.hid hY; clear hY
      rcases hYK with ⟨rfl, rfl⟩ | ⟨h0, rfl⟩
      all_goals
        go_wp2_with fail
        refine (k1'.out _).mono ?_
        rintro _ w5 ⟨rfl, hb5⟩
        have L5 := Lib.hid (Bcall L'.out hb5)
        have O5 := Lib.hid (owns_below hown'.out hb5)
        clear hb5 c0 c1 c2
        go_wp2_with (at_builtin; refine wpList_append_any _ rfl (.tmp 28) (.tmp 30) _ rfl w.heap.size 24 i0 _ 1 8 Try.underlying33 hi0 hz0 hz1 hz2 rfl (by omega) _ k (ints (errs x l k)) rfl (O5.out.alloc _) (w5.heap.size + 1) (some ⟨w5.heap.size, 0, none⟩) 1 1 (ints [_]) rfl (reads_int w5 _) (ints_one _) (by simp only [maxLen]; omega) (by omega) (by have := L5.out.size; simp; omega) ?_; intro v2 w2 hown2 hg2 hat2)
        have L2 : Below w.heap.size w w2 := (Bnew L5.out _).grown hg2 (by have := L5.out.size; simp; omega) (fun g hg => by have := (O5.out.lt g hg).1; exact this)
        have hown3 : w2.ownsRow w.heap.size 24 1 v2 (k + 1) (ints (errs x l (k + 1))) := by
          rw [hes'.out, hK'.out]
          simpa [ints] using hown2
        clear hg2 hat2 hown2
        have hown3' := Lib.hid hown3; clear hown3
        have L2' := Lib.hid L2; clear L2
        go_wp2
        exact ⟨⟨k + 1, by omega, by go_num, by rw [hY'.out], hown3'.out, L2'.out⟩, by simp [intOf]; omega⟩
    · obtain rfl : k = n := by omega
      go_wp2
      go_ret2
      exact ⟨_, by rw [List.take_of_length_le (by omega)]; rfl, hown'.out, L'.out, owns_slice hown'.out⟩
end Go.Proofs.Ytejllankcgcclaa
