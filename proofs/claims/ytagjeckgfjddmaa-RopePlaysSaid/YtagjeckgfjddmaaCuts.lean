/- What cutting a tree leaves, step by step; how many leaves an edit leaves in their place; how high a balanced tree is. No program, no world. -/
import Derived.Test.YtagjeckgfjddmaaTree
namespace Go.Proofs.Ytagjeckgfjddmaa
set_option linter.unusedSimpArgs false
set_option linter.unusedVariables false

theorem headO_leaf {b n k : Nat} {s u : ByteArray} (hg : Good [(b, s)]) (h0 : 0 < k) (hk : k < s.size) (hu : u.data.toList = s.data.toList.take k) : HeadO [(b, s)] k [(n, u)] := by
  have hs : u.size = k := by
    have : u.data.toList.length = (s.data.toList.take k).length := by rw [hu]
    simp at this; omega
  refine ⟨⟨[], [(n, u)], [(b, s)], rfl, rfl, by simp, by simp [total]⟩, by simp [flat, hu], ?_, ?_⟩
  · simp [Good] at hg ⊢; omega
  · intro P S h1 h2
    cases P with
    | nil => simp [total] at h2; omega
    | cons x P =>
      simp at h1
      obtain ⟨rfl, h1⟩ := h1
      have : P = [] := by cases P with | nil => rfl | cons y P => simp at h1
      subst this
      simp [total] at h2; omega
theorem tailO_leaf {b n k : Nat} {s u : ByteArray} (hg : Good [(b, s)]) (h0 : 0 < k) (hk : k < s.size) (hu : u.data.toList = s.data.toList.drop k) : TailO [(b, s)] k [(n, u)] := by
  have hs : u.size + k = s.size := by
    have : u.data.toList.length = (s.data.toList.drop k).length := by rw [hu]
    simp at this; omega
  refine ⟨⟨[(b, s)], [(n, u)], [], rfl, rfl, by simp, by simp [total]; omega⟩, by simp [flat, hu], ?_, ?_⟩
  · simp [Good] at hg ⊢; omega
  · intro P S h1 h2
    cases P with
    | nil => simp [total] at h2; omega
    | cons x P =>
      simp at h1
      obtain ⟨rfl, h1⟩ := h1
      have : P = [] := by cases P with | nil => rfl | cons y P => simp at h1
      subst this
      simp [total] at h2; omega

theorem headO_left {l r o : List Lf} {k : Nat} (hg : Good (l ++ r)) (hk : k ≤ total l) (h : HeadO l k o) : HeadO (l ++ r) k o := by
  obtain ⟨⟨P, N, S, h1, h2, h3, h4⟩, h5, h6, h7⟩ := h
  refine ⟨⟨P, N, S ++ r, by rw [h1, List.append_assoc], h2, h3, h4⟩, ?_, h6, ?_⟩
  · rw [h5, flat_app, List.take_append_of_le_length (by rw [flat_len]; exact hk)]
  · intro P' S' e1 e2
    obtain ⟨Z, z1, z2⟩ := pre_of_total (P := P') (X := S') (Y := l) (S := r) (by rw [← e1]; exact hg) e1.symm (by omega)
    exact h7 P' Z z1 e2
theorem headO_right {l r m o : List Lf} {k : Nat} (hg : Good (l ++ r)) (hk : total l < k) (h : HeadO r (k - total l) m) (hl : LinkO l m o) (ho : Good o) : HeadO (l ++ r) k o := by
  obtain ⟨⟨P, N, S, h1, h2, h3, h4⟩, h5, h6, h7⟩ := h
  refine ⟨?_, ?_, ho, ?_⟩
  · rcases hl with rfl | ⟨pa, x, y, pb, n, rfl, rfl, h8, rfl⟩
    · exact ⟨l ++ P, N, S, by rw [h1, List.append_assoc], by rw [h2, List.append_assoc], h3, by rw [total_app]; omega⟩
    · cases P with
      | nil =>
        simp at h2
        subst h2
        have : pb = [] := by cases pb with | nil => rfl | cons z pb => simp at h3
        subst this
        refine ⟨pa, [(n, x.2 ++ y.2)], [x] ++ r, by simp, rfl, by simp, ?_⟩
        rw [total_app] at hk; omega
      | cons z P =>
        exfalso
        rw [List.cons_append] at h2
        injection h2 with e1 e2
        subst e1
        rw [h1, List.cons_append] at hg
        have := Good.meet (p := pa) (x := x) hg
        omega
  · rw [hl.flat, h5, flat_app, List.take_append]
    rw [flat_len, List.take_of_length_le (l := flat l) (by rw [flat_len]; omega)]
  · intro P' S' e1 e2
    obtain ⟨Z, z1, z2⟩ := pre_of_total (P := l) (X := r) (Y := P') (S := S') hg e1 (by omega)
    subst z1
    rw [total_app] at e2
    have := h7 Z S' z2 (by omega)
    subst this
    rw [z2, ← List.append_assoc] at hg
    exact hl.same hg.left

theorem tailO_right {l r o : List Lf} {k : Nat} (hg : Good (l ++ r)) (hk : total l ≤ k) (h : TailO r (k - total l) o) : TailO (l ++ r) k o := by
  obtain ⟨⟨P, N, S, h1, h2, h3, h4⟩, h5, h6, h7⟩ := h
  refine ⟨⟨l ++ P, N, S, by rw [h1, List.append_assoc], h2, h3, by rw [total_app]; omega⟩, ?_, h6, ?_⟩
  · rw [h5, flat_app, List.drop_append, List.drop_eq_nil_of_le (as := flat l) (by rw [flat_len]; exact hk), flat_len]; rfl
  · intro P' S' e1 e2
    obtain ⟨Z, z1, z2⟩ := pre_of_total (P := l) (X := r) (Y := P') (S := S') hg e1 (by omega)
    subst z1
    rw [total_app] at e2
    exact h7 Z S' z2 (by omega)
theorem tailO_left {l r m o : List Lf} {k : Nat} (hg : Good (l ++ r)) (hk : k < total l) (h : TailO l k m) (hl : LinkO m r o) (ho : Good o) : TailO (l ++ r) k o := by
  obtain ⟨⟨P, N, S, h1, h2, h3, h4⟩, h5, h6, h7⟩ := h
  refine ⟨?_, ?_, ho, ?_⟩
  · rcases hl with rfl | ⟨pa, x, y, pb, n, e1, rfl, h8, rfl⟩
    · exact ⟨P, N, S ++ r, by rw [h1, List.append_assoc], by rw [h2, List.append_assoc], h3, h4⟩
    · rcases List.eq_nil_or_concat S with rfl | ⟨S', z, rfl⟩
      · simp at h2
        subst h2
        have : pa = [] := by
          cases pa with
          | nil => rfl
          | cons q pa => rw [e1] at h3; simp at h3
        subst this
        refine ⟨l ++ [y], [(n, x.2 ++ y.2)], pb, by simp, rfl, by simp, ?_⟩
        rw [total_app]; omega
      · exfalso
        rw [e1, List.concat_eq_append, ← List.append_assoc] at h2
        have hx : x = z := by
          have := congrArg List.getLast? h2
          simpa using this
        subst hx
        rw [h1, List.concat_eq_append, ← List.append_assoc] at hg
        have := Good.meet (p := P ++ S') (x := x) (y := y) (q := pb) (by simpa using hg)
        omega
  · rw [hl.flat, h5, flat_app, List.drop_append, flat_len, show k - total l = 0 by omega]; rfl
  · intro P' S' e1 e2
    obtain ⟨Z, z1, z2⟩ := pre_of_total (P := P') (X := S') (Y := l) (S := r) (by rw [← e1]; exact hg) e1.symm (by omega)
    have := h7 P' Z z1 e2
    subst this
    subst z2
    rw [z1, List.append_assoc] at hg
    exact hl.same hg.right

/-- Linking three: what stays of the first one's beginning, of the last one's end, and how many stand between. -/
theorem link3 {P N M N' S o1 o : List Lf} (h1 : LinkO (P ++ N) M o1) (h2 : LinkO o1 (N' ++ S) o) (hn : N.length ≤ 1) (hn' : N'.length ≤ 1) :
    ∃ P' X Y S' K, P = P' ++ X ∧ S = Y ++ S' ∧ o = P' ++ K ++ S' ∧ K.length ≤ 2 + M.length := by
  have e1 : ∃ P' X K, P = P' ++ X ∧ o1 = P' ++ K ∧ K.length ≤ 1 + M.length := by
    rcases h1 with rfl | ⟨pa, x, y, pb, n, e1, rfl, _, rfl⟩
    · exact ⟨P, [], N ++ M, by simp, by simp, by simp; omega⟩
    · rcases List.eq_nil_or_concat N with rfl | ⟨N1, z, rfl⟩
      · simp at e1
        exact ⟨pa, [x], (n, x.2 ++ y.2) :: pb, e1, rfl, by simp⟩
      · have : N1 = [] := by cases N1 with | nil => rfl | cons q N1 => simp at hn
        subst this
        have hpa : pa = P := by
          have := congrArg List.dropLast e1
          simpa using this.symm
        subst hpa
        exact ⟨pa, [], (n, x.2 ++ y.2) :: pb, by simp, rfl, by simp⟩
  obtain ⟨P', X, K, rfl, rfl, hk⟩ := e1
  rcases h2 with rfl | ⟨pa, x, y, pb, n, e1, e2, _, rfl⟩
  · exact ⟨P', X, [], S, K ++ N', rfl, by simp, by simp, by simp; omega⟩
  · rcases List.eq_nil_or_concat K with rfl | ⟨K1, z, rfl⟩
    · simp at e1
      subst e1
      cases N' with
      | nil =>
        simp at e2
        exact ⟨pa, [x] ++ X, [y], pb, [(n, x.2 ++ y.2)], by simp, by simp [e2], by simp, by simp; omega⟩
      | cons q N' =>
        have : N' = [] := by cases N' with | nil => rfl | cons q N' => simp at hn'
        subst this
        simp at e2
        obtain ⟨rfl, rfl⟩ := e2
        exact ⟨pa, [x] ++ X, [], S, [(n, x.2 ++ q.2)], by simp, by simp, by simp, by simp; omega⟩
    · have hpa : pa = P' ++ K1 := by
        have := congrArg List.dropLast e1
        simpa [← List.append_assoc] using this.symm
      subst hpa
      simp at hk
      cases N' with
      | nil =>
        simp at e2
        exact ⟨P', X, [y], pb, K1 ++ [(n, x.2 ++ y.2)], rfl, by simp [e2], by simp, by simp; omega⟩
      | cons q N' =>
        have : N' = [] := by cases N' with | nil => rfl | cons q N' => simp at hn'
        subst this
        simp at e2
        obtain ⟨rfl, rfl⟩ := e2
        exact ⟨P', X, [], S, K1 ++ [(n, x.2 ++ q.2)], rfl, by simp, by simp, by simp; omega⟩

/-- Behind an edit: some first and some last leaves of both are the same ones, and few others are new. -/
theorem splice_shares {la A M B o1 o : List Lf} {s e : Nat} (hg : Good la) (hA : HeadO la s A) (hB : TailO la e B) (hse : s ≤ e) (h1 : LinkO A M o1) (h2 : LinkO o1 B o) :
    ∃ P X S K, la = P ++ X ++ S ∧ o = P ++ K ++ S ∧ K.length ≤ 2 + M.length := by
  obtain ⟨⟨P, N, Q, a1, a2, a3, a4⟩, -⟩ := hA
  obtain ⟨⟨R, N', S, b1, b2, b3, b4⟩, -⟩ := hB
  subst a2 b2
  obtain ⟨P', X, Y, S', K, c1, c2, c3, c4⟩ := link3 h1 h2 a3 b3
  obtain ⟨Z, z1, z2⟩ := pre_of_total (P := P) (X := Q) (Y := R) (S := S) (by rw [← a1]; exact hg) (by rw [← a1, b1]) (by omega)
  exact ⟨P', X ++ Z ++ Y, S', K, by rw [b1, z1, c1, c2]; simp, c3, c4⟩

/-- How many leaves a balanced tree has at least. -/
theorem T.many (t : T) (h : t.bal) : 2 ^ (t.hgt / 2) ≤ t.leaves.length := by
  induction t with
  | leaf b s => simp [T.hgt, T.leaves]
  | fork b l r hl hr =>
    obtain ⟨h1, h2, h3, h4⟩ := h
    have a := hl h1
    have b' := hr h2
    simp only [T.hgt, T.leaves, List.length_append]
    have e1 : ∀ n, (max l.hgt r.hgt + 1) / 2 = n → 2 ^ n ≤ l.leaves.length + r.leaves.length := by
      intro n hn
      cases n with
      | zero => have := List.length_pos_iff.2 l.leaves_ne; simp; omega
      | succ n =>
        have m1 : 2 ^ n ≤ 2 ^ (l.hgt / 2) := Nat.pow_le_pow_right (by omega) (by omega)
        have m2 : 2 ^ n ≤ 2 ^ (r.hgt / 2) := Nat.pow_le_pow_right (by omega) (by omega)
        rw [Nat.pow_succ]; omega
    exact e1 _ rfl
theorem T.low (t : T) (h : t.bal) (k : Nat) (hk : t.leaves.length < 2 ^ k) : t.hgt ≤ 2 * k + 2 := by
  have := t.many h
  have h2 : 2 ^ (t.hgt / 2) < 2 ^ k := by omega
  have := (Nat.pow_lt_pow_iff_right (by omega)).1 h2
  omega
theorem T.one_leaf (t : T) : t.hgt = 0 ↔ t.leaves.length = 1 := by
  cases t with
  | leaf b s => simp [T.hgt, T.leaves]
  | fork b l r =>
    have h1 := List.length_pos_iff.2 l.leaves_ne
    have h2 := List.length_pos_iff.2 r.leaves_ne
    simp [T.hgt, T.leaves]; omega
end Go.Proofs.Ytagjeckgfjddmaa
