/- Package edits: a list of edits in memory, opened; Fold over it. -/
import Derived.Test.YtagjeckgfjddmaaEd
import Derived.Test.YtagjeckgfjddmaaWords
import Derived.LoopTactic
import Derived.ProofKit
import Derived.SizedLaws
namespace Go.Proofs.Ytagjeckgfjddmaa.Ed
set_option linter.unusedSimpArgs false
set_option linter.unusedVariables false
open Go.RowKit Go.ChangeShapes Go.WideShapes Go.Deep


theorem ba_len (s : ByteArray) : s.data.toList.length = s.size := by simp
def ints (l : List Int) : List Value := l.map (.int .i64)
/-- An edit's three cells, and a list's. -/
abbrev Ed := Int × Int × ByteArray
def cellE (x : Ed) : List Value := [.int .i64 x.1, .int .i64 x.2.1, .string x.2.2]
def cellsE (l : List Ed) : List Value := l.flatMap cellE
theorem cellsE_length (l : List Ed) : (cellsE l).length = l.length * 3 := by
  induction l with
  | nil => rfl
  | cons x l ih => simp [cellsE, cellE] at ih ⊢; omega
theorem cellsE_at (l : List Ed) (k j : Nat) (x : Ed) (hx : l[k]? = some x) (hj : j < 3) : (cellsE l)[k * 3 + j]? = (cellE x)[j]? := by
  induction l generalizing k with
  | nil => simp at hx
  | cons y l ih =>
    cases k with
    | zero =>
      simp at hx
      subst hx
      simp only [cellsE, List.flatMap_cons]
      rw [List.getElem?_append_left (by simp [cellE]; omega)]
      simp
    | succ k =>
      simp only [cellsE, List.flatMap_cons]
      rw [List.getElem?_append_right (by simp [cellE]; omega)]
      have := ih k (by simpa using hx)
      rw [cellsE] at this
      rw [← this]
      congr 1
      simp [cellE]
      omega
theorem reads_at3 {w : World} {M n : Nat} {A : Option Addr} {l : List Ed} (h : Reads w M 3 A n (cellsE l)) {k : Nat} (hk : k < n) :
    ∃ b off, A = some ⟨b, off, none⟩ ∧ b < M ∧ ∃ (s e : Int) (t : ByteArray), l[k]? = some (s, e, t) ∧ w.cell? ⟨b, off + k * 3, none⟩ = some (.int .i64 s) ∧ w.cell? ⟨b, off + k * 3 + 1, none⟩ = some (.int .i64 e) ∧ w.cell? ⟨b, off + k * 3 + 2, none⟩ = some (.string t) := by
  obtain ⟨ad, hA, hb, hc⟩ := h.2 (by omega)
  have hl : l.length = n := by have := h.1; rw [cellsE_length] at this; omega
  have hx : l[k]? = some l[k] := List.getElem?_eq_getElem (by omega)
  obtain ⟨⟨s, e, t⟩, hv⟩ : ∃ x, l[k] = x := ⟨_, rfl⟩
  rw [hv] at hx
  have g0 := hc (k * 3 + 0) (.int .i64 s) (by rw [cellsE_at l k 0 _ hx (by omega)]; rfl)
  have g1 := hc (k * 3 + 1) (.int .i64 e) (by rw [cellsE_at l k 1 _ hx (by omega)]; rfl)
  have g2 := hc (k * 3 + 2) (.string t) (by rw [cellsE_at l k 2 _ hx (by omega)]; rfl)
  have g := hc 0 (.int .i64 (l[0]'(by omega)).1) ((cellsE_at l 0 0 _ (List.getElem?_eq_getElem (by omega)) (by omega)).trans rfl)
  obtain ⟨b, off, spot⟩ := ad
  have hspot : spot = none := by
    have := World.cell?_spot g
    simpa [Addr.add] using this
  subst hspot
  refine ⟨b, off, hA, hb, s, e, t, hx, ?_, ?_, ?_⟩
  · cases k with
    | zero => simpa [Addr.add] using g0
    | succ k => simpa [Addr.add] using g0
  · simpa [Addr.add, Nat.add_assoc] using g1
  · simpa [Addr.add, Nat.add_assoc] using g2
theorem splice_list (x : ByteArray) (a c : Nat) (t : ByteArray) : (splice x a c t).data.toList = x.data.toList.take a ++ t.data.toList ++ x.data.toList.drop c := by simp [splice]
theorem splice_size (x : ByteArray) (a c : Nat) (t : ByteArray) (h : a ≤ x.size) : (splice x a c t).size = a + t.size + (x.size - c) := by
  rw [← ba_len, splice_list]
  simp
  omega
theorem apply_is (x : ByteArray) (s e : Int) (t : ByteArray) (w : World) (ht : t.size ≤ 9223372036854775807) (hx : x.size ≤ 9223372036854775807) (k : Int) (hk : k ≠ 0) (h : checkZ x.size s e t = k) :
    Calls Try.prog 62 #[.string x, ed s e t] w fun r w' => r = .returned (.tuple #[.string .empty, .int .i64 k]) ∧ Below w.heap.size w w' := by
  subst h; exact apply_err x s e t w ht hx hk

def stepT (x : ByteArray) (e : Ed) : ByteArray := if checkZ x.size e.1 e.2.1 e.2.2 = 0 then splice x e.1.toNat e.2.1.toNat e.2.2 else x
def foldT (x : ByteArray) (l : List Ed) : ByteArray := l.foldl stepT x
def errK (x : ByteArray) (l : List Ed) (k : Nat) : Int := match l[k]? with | some e => checkZ (foldT x (l.take k)).size e.1 e.2.1 e.2.2 | none => 0
def errs (x : ByteArray) (l : List Ed) (k : Nat) : List Int := (List.range k).map (errK x l)
theorem errs_length (x : ByteArray) (l : List Ed) (k : Nat) : (errs x l k).length = k := by simp [errs]
theorem errs_succ (x : ByteArray) (l : List Ed) (k : Nat) : errs x l (k + 1) = errs x l k ++ [errK x l k] := by simp [errs, List.range_succ]
theorem foldT_succ (x : ByteArray) (l : List Ed) (k : Nat) (e : Ed) (h : l[k]? = some e) : foldT x (l.take (k + 1)) = stepT (foldT x (l.take k)) e := by
  have hk : k < l.length := (List.getElem?_eq_some_iff.1 h).1
  have he : l[k] = e := (List.getElem?_eq_some_iff.1 h).2
  unfold foldT
  rw [List.take_succ_eq_append_getElem hk, List.foldl_append, he]
  rfl
theorem stepT_size (x : ByteArray) (e : Ed) (m : Nat) (h : x.size ≤ m) (hm : 65536 ≤ m) : (stepT x e).size ≤ m := by
  unfold stepT
  split
  · rename_i hk
    obtain ⟨n1, n2, n3, n4, n5⟩ := fits hk
    rw [splice_size _ _ _ _ (by omega)]
    omega
  · exact h
theorem foldT_size (l : List Ed) (m : Nat) (hm : 65536 ≤ m) : ∀ x : ByteArray, x.size ≤ m → (foldT x l).size ≤ m := by
  induction l with
  | nil => intro x h; exact h
  | cons e l ih => intro x h; exact ih _ (stepT_size x e m h hm)

theorem info24 : (Try.prog.info? 23).map (fun i => (i.zero, i.size, i.bytes)) = some (some (.int .i64 0), 1, 8) := by kernel_rfl
/-- What Fold hands back. -/
def FoldMade (w : World) (n : Nat) (x : ByteArray) (l : List Ed) (r : Ending) (w' : World) : Prop :=
  ∃ v, r = .returned (.tuple #[.string (foldT x l), v]) ∧ w'.ownsRow w.heap.size 23 1 v n (ints (errs x l n)) ∧ Below w.heap.size w w' ∧ ∃ A c, v = .slice A n c
/-- The errors told so far, and noughts. -/
def errsTo (x : ByteArray) (l : List Ed) (k n : Nat) : List Value := ints (errs x l k) ++ List.replicate (n - k) (.int .i64 0)
theorem errsTo_set (x : ByteArray) (l : List Ed) (k n : Nat) (h : k < n) : (errsTo x l k n).set k (.int .i64 (errK x l k)) = errsTo x l (k + 1) n := by
  unfold errsTo
  rw [List.set_append_right _ _ (by simp [ints, errs]), errs_succ]
  obtain ⟨m, hm⟩ : ∃ m, n - k = m + 1 := ⟨n - k - 1, by omega⟩
  rw [hm, show n - (k + 1) = m by omega]
  simp [ints, errs, List.replicate_succ]
theorem owns_below {w w' : World} {base : Nat} {e : TypeId} {size : Nat} {v : Value} {n : Nat} {xs : List Value} (h : w.ownsRow base e size v n xs) (hb : Below w.heap.size w w') : w'.ownsRow base e size v n xs := by
  refine ⟨h.1, ?_⟩
  rcases h.2 with h0 | ⟨g, cap, cur, hv, hg, hh, hc⟩
  · exact .inl h0
  · refine .inr ⟨g, cap, cur, hv, hg, (hb.block g ?_).trans hh, hc⟩
    rcases Nat.lt_or_ge g w.heap.size with hlt | hge
    · exact hlt
    · rw [Array.getElem?_eq_none hge] at hh; cases hh
set_option maxHeartbeats 1000000 in
theorem fold_any (x : ByteArray) (A : Option Addr) (n c : Nat) (l : List Ed) (w : World) (ha : Reads w w.heap.size 3 A n (cellsE l)) (hn : n ≤ 300) (hx : x.size ≤ 281474976710656) (hs : Hid (∀ e ∈ l, e.2.2.size ≤ 9223372036854775807)) :
    Calls Try.prog 34 #[.string x, .slice A n c] w (FoldMade w n x l) := by
  obtain ⟨i0, hi0, hz0, hz1, hz2⟩ := info_parts info24
  have hl : l.length = n := by have := ha.1; rw [cellsE_length] at this; omega
  have ha' := Lib.hid ha; clear ha
  go_enter Try.func34, Try.ntmps34
  go_wp2_with fail
  refine (clone_any _ _ hx).mono ?_
  rintro _ w1 ⟨rfl, hb1⟩
  have L1' := Lib.hid hb1; clear hb1
  go_wp2_with (refine wpList_make_full _ rfl (.tmp 14) (.tmp 14) 68 rfl w.heap.size 23 i0 _ 1 Try.underlying68 hi0 hz0 hz1 _ _ _ _ n rfl rfl rfl rfl ?c1 ?c2 ?c3 ?_)
  case c1 => rw [hz2]; omega
  case c2 => simp only [maxLen]; omega
  case c3 => exact L1'.out.size
  intro w2 hown hg
  have L2 := L1'.out.grown hg L1'.out.size (by simp)
  have L2' := Lib.hid L2; clear L2 hg L1'
  rw [show (madeCells #[Value.int .i64 0] n).toList = errsTo x l 0 n by simp [errsTo, errs, ints, toList_madeCells_one]] at hown
  have hown' := Lib.hid hown; clear hown
  generalize w1.heap.size = g at hown' ⊢
  go_wp2_with fail
  go_loopw [0, 18] (fun tx i wr => ∃ k : Nat, k ≤ n ∧ i = .int .i64 k ∧ tx = .string (foldT x (l.take k)) ∧ wr.ownsRow w.heap.size 23 1 (.slice (some ⟨g, 0, none⟩) n n) n (errsTo x l k n) ∧ Below w.heap.size w wr) (fun _ i _ => n - (intOf i).toNat)
  case atStart => exact ⟨0, Nat.zero_le _, rfl, rfl, hown'.out, L2'.out⟩
  case round =>
    clear hown' L2'
    obtain ⟨k, hk, rfl, rfl, hown, L⟩ := hrel
    have hown' := Lib.hid hown; clear hown
    have L' := Lib.hid L; clear L
    by_cases hkn : k < n
    · obtain ⟨b, off, hA, _, s, e, t, hx1, c0, c1, c2⟩ := reads_at3 (ha'.out.below L'.out) hkn
      subst hA
      have ht : t.size ≤ 9223372036854775807 := hs.out (s, e, t) (List.mem_of_getElem? hx1)
      have hX : (foldT x (l.take k)).size ≤ 9223372036854775807 := Nat.le_trans (foldT_size (l.take k) 281474976710656 (by omega) x hx) (by omega)
      have hsucc := foldT_succ x l k (s, e, t) hx1
      have hK : errK x l k = checkZ (foldT x (l.take k)).size s e t := by simp [errK, hx1]
      have hset := errsTo_set x l k n hkn
      have hfin : ∀ (Y : ByteArray) (K : Int) (wq : World), foldT x (l.take (k + 1)) = Y → errK x l k = K → wq.ownsRow w.heap.size 23 1 (.slice (some ⟨g, 0, none⟩) n n) n ((errsTo x l k n).set k (.int .i64 K)) → Below w.heap.size w wq →
          ∃ k' : Nat, k' ≤ n ∧ Value.int .i64 ((k : Int) + 1) = .int .i64 k' ∧ Value.string Y = .string (foldT x (l.take k')) ∧ wq.ownsRow w.heap.size 23 1 (.slice (some ⟨g, 0, none⟩) n n) n (errsTo x l k' n) ∧ Below w.heap.size w wq :=
        fun Y K wq h1 h2 h3 h4 => ⟨k + 1, by omega, by go_num, by rw [h1], by rw [← hset, h2]; exact h3, h4⟩
      have hfin' := Lib.hid hfin; clear hfin hset
      have hK' := Lib.hid hK; clear hK
      have hsucc' := Lib.hid hsucc; clear hsucc
      obtain ⟨X, hXX⟩ : ∃ X, foldT x (l.take k) = X := ⟨_, rfl⟩
      rw [hXX] at hX hK' hsucc' ⊢
      clear hXX
      have hcell := (hown'.out.cellAt k (by omega))
      have hfz := (hown'.out.frozenAt k)
      have hlen : (errsTo x l k n)[k]? = some (.int .i64 0) := by
        unfold errsTo
        rw [List.getElem?_append_right (by simp [ints, errs])]
        obtain ⟨m, hm⟩ : ∃ m, n - k = m + 1 := ⟨n - k - 1, by omega⟩
        simp [ints, errs, hm, List.replicate_succ]
      rw [hlen] at hcell
      clear hlen
      have hgb := (hown'.out.lt g rfl).2
      have i1 : (k : Int) < (n : Int) := by omega
      by_cases h0 : checkZ X.size s e t = 0
      · have k1 := fun wz => apply_ok X s e t wz ht hX h0
        have k1' := Lib.hid k1; clear k1
        have hs1 : foldT x (l.take (k + 1)) = splice X s.toNat e.toNat t := by rw [hsucc'.out, stepT, if_pos h0]
        rw [h0] at hK'
        clear h0
        have hs1' := Lib.hid hs1; clear hs1
        obtain ⟨Y, hY⟩ : ∃ Y, splice X s.toNat e.toNat t = Y := ⟨_, rfl⟩
        rw [hY] at k1' hs1'
        clear hY
        go_wp2_with fail
        refine (k1'.out _).mono ?_
        rintro _ w5 ⟨rfl, hb5⟩
        have L5 := Lib.hid (Bcall (Bnew L'.out _) hb5)
        have O5 := Lib.hid (owns_below (hown'.out.alloc _) hb5)
        have q0 : w5.cell? ⟨g, k, none⟩ = some (.int .i64 0) := (hb5.cell (p := ⟨g, k, none⟩) (by simp; omega)).trans ((World.cell?_alloc_past _ _ _ hgb).trans hcell)
        have q1 : w5.frozen? ⟨g, k, none⟩ = false := by rw [hb5.frozen (p := ⟨g, k, none⟩) (by simp; omega), World.frozen?_alloc_old _ _ _ (by simp; omega)]; exact hfz
        clear hb5 hcell hfz c0 c1 c2
        go_wp2
        exact ⟨hfin'.out Y 0 _ hs1'.out hK'.out (O5.out.stored k _).1 (L5.out.setCell (by have := (hown'.out.lt g rfl).1; exact this) _), by simp [intOf]; omega⟩
      · obtain ⟨K, hKK⟩ : ∃ K, checkZ X.size s e t = K := ⟨_, rfl⟩
        have k1 := fun wz => apply_is X s e t wz ht hX K (by rw [← hKK]; exact h0) hKK
        have k1' := Lib.hid k1; clear k1
        have hs1 : foldT x (l.take (k + 1)) = X := by rw [hsucc'.out, stepT, if_neg h0]
        rw [hKK] at hK' h0
        clear hKK
        have h0' : (K == 0) = false := by simpa using h0
        clear h0
        have hs1' := Lib.hid hs1; clear hs1
        go_wp2_with fail
        refine (k1'.out _).mono ?_
        rintro _ w5 ⟨rfl, hb5⟩
        have L5 := Lib.hid (Bcall (Bnew L'.out _) hb5)
        have O5 := Lib.hid (owns_below (hown'.out.alloc _) hb5)
        have q0 : w5.cell? ⟨g, k, none⟩ = some (.int .i64 0) := (hb5.cell (p := ⟨g, k, none⟩) (by simp; omega)).trans ((World.cell?_alloc_past _ _ _ hgb).trans hcell)
        have q1 : w5.frozen? ⟨g, k, none⟩ = false := by rw [hb5.frozen (p := ⟨g, k, none⟩) (by simp; omega), World.frozen?_alloc_old _ _ _ (by simp; omega)]; exact hfz
        clear hb5 hcell hfz c0 c1 c2
        go_wp2
        exact ⟨hfin'.out X K _ hs1'.out hK'.out (O5.out.stored k _).1 (L5.out.setCell (by have := (hown'.out.lt g rfl).1; exact this) _), by simp [intOf]; omega⟩
    · obtain rfl : k = n := by omega
      go_wp2
      go_ret2
      refine ⟨_, by rw [List.take_of_length_le (by omega)]; rfl, ?_, L'.out, _, _, rfl⟩
      simpa [errsTo] using hown'.out
theorem owns_slice {w : World} {base : Nat} {e : TypeId} {size : Nat} {v : Value} {n : Nat} {xs : List Value} (h : w.ownsRow base e size v n xs) : ∃ A c, v = .slice A n c := by
  rcases h.2 with ⟨rfl, rfl⟩ | ⟨g, cap, cur, rfl, _⟩
  · exact ⟨_, _, rfl⟩
  · exact ⟨_, _, rfl⟩

theorem list_of {α : Type} {Q : Nat → α → Prop} : ∀ n : Nat, (∀ i, i < n → ∃ x, Q i x) → ∃ l : List α, l.length = n ∧ ∀ i x, l[i]? = some x → Q i x := by
  intro n
  induction n with
  | zero => intro _; exact ⟨[], rfl, fun i x h => by simp at h⟩
  | succ n ih =>
    intro h
    obtain ⟨l, hl, hq⟩ := ih fun i hi => h i (by omega)
    obtain ⟨x, hx⟩ := h n (by omega)
    refine ⟨l ++ [x], by simp [hl], fun i y hy => ?_⟩
    by_cases hi : i < n
    · rw [List.getElem?_append_left (by omega)] at hy
      exact hq i y hy
    · rw [List.getElem?_append_right (by omega), hl] at hy
      have h0 : i = n := by
        have := (List.getElem?_eq_some_iff.1 hy).1
        simp at this
        omega
      subst h0
      simp at hy
      subst hy
      exact hx
theorem cellsE_split (l : List Ed) (j : Nat) (u : Value) (h : (cellsE l)[j]? = some u) : ∃ x, l[j / 3]? = some x ∧ (cellE x)[j % 3]? = some u := by
  have hj : j < l.length * 3 := by
    have := (List.getElem?_eq_some_iff.1 h).1
    rwa [cellsE_length] at this
  have hk : j / 3 < l.length := by omega
  refine ⟨l[j / 3], List.getElem?_eq_getElem hk, ?_⟩
  have := cellsE_at l (j / 3) (j % 3) _ (List.getElem?_eq_getElem hk) (by omega)
  rw [← this, ← h]
  congr 1
  omega
theorem open_edits {H : Type} {enc : TypeId × Value → H} {W : World} {a : Option Addr} {len cap : Nat} {d : DataW H} {p : List MemPlace} (h : DataW.Trod enc Try.prog W 0 (fun _ => true) true 52 (.slice a len cap) d p) :
    ∃ l : List Ed, Reads W W.heap.size 3 a len (cellsE l) ∧ ∀ e ∈ l, e.2.2.size ≤ 9223372036854775807 := by
  obtain ⟨fuel, hf⟩ := h
  rcases open_slice_fields Try.underlying52 Try.underlying55 (by kernel_rfl) (by kernel_rfl) hf with ⟨hcs, _⟩ | ⟨ad, len', cap', m, D, Pl, hcs, _, hl, hm, hmm, _, hi⟩
  · simp [Value.cells] at hcs
    obtain ⟨rfl, rfl, rfl⟩ := hcs
    exact ⟨[], Reads.none_, fun e he => by simp at he⟩
  · simp [Value.cells] at hcs
    obtain ⟨rfl, rfl, rfl⟩ := hcs
    have hm' : m = cap := by simpa using hmm
    subst hm'
    have key : ∀ i, i < len → ∃ x : Ed, (∀ j u, (cellE x)[j]? = some u → W.cell? (ad.add (i * 3 + j)) = some u) ∧ x.2.2.size ≤ 9223372036854775807 := by
      intro i hil
      obtain ⟨ys, n, _, _, _, hfs⟩ := hi i (by omega)
      obtain ⟨v0, y0, hc0, _, t0⟩ := hfs 0 _ rfl
      obtain ⟨v1, y1, hc1, _, t1⟩ := hfs 1 _ rfl
      obtain ⟨v2, y2, hc2, _, t2⟩ := hfs 2 _ rfl
      obtain ⟨s, e0, -, -⟩ := DataW.trod_int Try.underlying3 t0
      obtain ⟨e, e1, -, -⟩ := DataW.trod_int Try.underlying3 t1
      obtain ⟨t, e2, -, ht⟩ := DataW.trod_string Try.underlying9 t2
      obtain rfl : v0 = _ := by simpa using e0
      obtain rfl : v1 = _ := by simpa using e1
      obtain rfl : v2 = _ := by simpa using e2
      refine ⟨(s, e, t), fun j u hu => ?_, ht⟩
      match j, hu with
      | 0, hu => simp [cellE] at hu; subst hu; exact hc0
      | 1, hu => simp [cellE] at hu; subst hu; exact hc1
      | 2, hu => simp [cellE] at hu; subst hu; exact hc2
    obtain ⟨l, hll, hq⟩ := list_of len key
    refine ⟨l, ⟨by rw [cellsE_length, hll], fun hn => ⟨ad, rfl, ?_, fun j u hu => ?_⟩⟩, fun e he => ?_⟩
    · obtain ⟨x, hx, _⟩ := key 0 hn
      have h0 := hx 0 _ rfl
      exact World.block_lt_of_cell? W _ (by simpa [Addr.add] using h0)
    · obtain ⟨x, hx, hu'⟩ := cellsE_split l j u hu
      have := (hq _ x hx).1 _ u hu'
      rwa [show j / 3 * 3 + j % 3 = j by omega] at this
    · obtain ⟨i, hi'⟩ := List.getElem?_of_mem he
      exact (hq i e hi').2
theorem reach_string {H : Type} {P : Program} {ts : List TypeId} {ds : List (DataW H)} (h : (DataW.weightsEach P ts ds).all (· ≤ reachBytes) = true) {j : Nat} {t : TypeId} {s : ByteArray} (ht : ts[j]? = some t) (hd : ds[j]? = some (.lit (.string s.data.toList))) : s.size ≤ 140737488355328 := by
  have h1 := sized_string h ht hd
  have h2 := reachBytes_lt
  have h3 : s.data.toList.length = s.size := by simp
  omega
end Go.Proofs.Ytagjeckgfjddmaa.Ed
