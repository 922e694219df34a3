/- Trees of leaves, as plain things: what leaves they have, how high they are, and what joining, linking and cutting them leaves. No program, no world. -/
import Derived.Test.YtagjeckgfjddmaaText
namespace Go.Proofs.Ytagjeckgfjddmaa
set_option linter.unusedSimpArgs false
set_option linter.unusedVariables false

/-- A leaf: where it lies, and its bytes. -/
abbrev Lf := Nat × ByteArray
inductive T where
  | leaf (b : Nat) (s : ByteArray)
  | fork (b : Nat) (l r : T)
def T.blk : T → Nat | .leaf b _ => b | .fork b _ _ => b
def T.size : T → Nat | .leaf _ s => s.size | .fork _ l r => l.size + r.size
def T.hgt : T → Nat | .leaf _ _ => 0 | .fork _ l r => max l.hgt r.hgt + 1
def T.leaves : T → List Lf | .leaf b s => [(b, s)] | .fork _ l r => l.leaves ++ r.leaves
def T.bytes : T → List UInt8 | .leaf _ s => s.data.toList | .fork _ l r => l.bytes ++ r.bytes
def T.bal : T → Prop | .leaf _ _ => True | .fork _ l r => l.bal ∧ r.bal ∧ l.hgt ≤ r.hgt + 1 ∧ r.hgt ≤ l.hgt + 1

def flat (l : List Lf) : List UInt8 := l.flatMap (·.2.data.toList)
def total (l : List Lf) : Nat := (l.map (·.2.size)).sum
/-- All have bytes, and few; two side by side have more than fit in one. -/
def Good : List Lf → Prop
  | [] => True
  | [x] => 1 ≤ x.2.size ∧ x.2.size ≤ 64
  | x :: y :: l => 1 ≤ x.2.size ∧ x.2.size ≤ 64 ∧ 64 < x.2.size + y.2.size ∧ Good (y :: l)

theorem flat_nil : flat [] = [] := rfl
theorem flat_app (l m : List Lf) : flat (l ++ m) = flat l ++ flat m := by simp [flat]
theorem flat_cons (x : Lf) (m : List Lf) : flat (x :: m) = x.2.data.toList ++ flat m := by simp [flat]
theorem total_nil : total [] = 0 := rfl
theorem total_app (l m : List Lf) : total (l ++ m) = total l + total m := by simp [total]
theorem total_cons (x : Lf) (m : List Lf) : total (x :: m) = x.2.size + total m := by simp [total]
theorem flat_len (l : List Lf) : (flat l).length = total l := by
  induction l with
  | nil => rfl
  | cons x l ih => rw [flat_cons, total_cons, List.length_append, ih]; simp
theorem T.bytes_eq (t : T) : t.bytes = flat t.leaves := by
  induction t with
  | leaf b s => simp [T.bytes, T.leaves, flat]
  | fork b l r hl hr => simp only [T.bytes, T.leaves, flat_app, hl, hr]
theorem T.size_eq (t : T) : t.size = total t.leaves := by
  induction t with
  | leaf b s => simp [T.size, T.leaves, total]
  | fork b l r hl hr => simp only [T.size, T.leaves, total_app, hl, hr]
theorem T.len_eq (t : T) : t.bytes.length = t.size := by rw [T.bytes_eq, flat_len, T.size_eq]
theorem T.leaves_ne (t : T) : t.leaves ≠ [] := by
  induction t with
  | leaf b s => simp [T.leaves]
  | fork b l r hl hr => simp [T.leaves, hl]

theorem good_cons {x : Lf} {l : List Lf} : Good (x :: l) ↔ (1 ≤ x.2.size ∧ x.2.size ≤ 64) ∧ (∀ y, l.head? = some y → 64 < x.2.size + y.2.size) ∧ Good l := by
  cases l with
  | nil => simp [Good]
  | cons y l => simp [Good, and_assoc]
theorem Good.app_iff {l m : List Lf} : Good (l ++ m) ↔ Good l ∧ Good m ∧ (∀ x y, l.getLast? = some x → m.head? = some y → 64 < x.2.size + y.2.size) := by
  induction l with
  | nil => simp [Good]
  | cons x l ih =>
    rw [List.cons_append, good_cons, ih, good_cons]
    cases l with
    | nil =>
      simp only [Good, List.nil_append, true_and, List.head?_nil, reduceCtorEq, false_implies, implies_true, and_true, List.getLast?_singleton, Option.some.injEq, forall_eq']
      constructor
      · rintro ⟨a, b, c, d⟩; exact ⟨a, c, fun p q hp hq => by subst hp; exact b q hq⟩
      · rintro ⟨a, b, c⟩; exact ⟨a, fun y hy => c x y rfl hy, b, fun p q hp => by cases hp⟩
    | cons y l =>
      simp only [List.cons_append, List.head?_cons, Option.some.injEq, forall_eq', List.getLast?_cons_cons]
      constructor
      · rintro ⟨a, b, c, d, e⟩; exact ⟨⟨a, b, c⟩, d, e⟩
      · rintro ⟨⟨a, b, c⟩, d, e⟩; exact ⟨a, b, c, d, e⟩
theorem Good.left {l m : List Lf} (h : Good (l ++ m)) : Good l := (Good.app_iff.1 h).1
theorem Good.right {l m : List Lf} (h : Good (l ++ m)) : Good m := (Good.app_iff.1 h).2.1
theorem Good.meet {p q : List Lf} {x y : Lf} (h : Good (p ++ [x] ++ (y :: q))) : 64 < x.2.size + y.2.size := (Good.app_iff.1 h).2.2 x y (by simp) (by simp)
theorem Good.pos {l : List Lf} (h : Good l) : ∀ x ∈ l, 1 ≤ x.2.size ∧ x.2.size ≤ 64 := by
  induction l with
  | nil => simp
  | cons x l ih =>
    rw [good_cons] at h
    intro y hy
    rcases List.mem_cons.1 hy with rfl | hy
    · exact h.1
    · exact ih h.2.2 y hy
theorem Good.len_le {l : List Lf} (h : Good l) : l.length ≤ total l := by
  induction l with
  | nil => simp
  | cons x l ih =>
    rw [good_cons] at h
    have := ih h.2.2
    rw [total_cons, List.length_cons]; omega
theorem Good.total_pos {l : List Lf} (h : Good l) (hl : l ≠ []) : 0 < total l := by
  have := h.len_le
  have : 0 < l.length := List.length_pos_iff.2 hl
  omega
theorem Good.tree {t : T} (h : Good t.leaves) : 0 < t.size := by rw [T.size_eq]; exact h.total_pos t.leaves_ne

/-- Two prefixes of one list: the one with the fewer bytes is the shorter one. -/
theorem pre_of_total {P X Y S : List Lf} (hg : Good (P ++ X)) (h : P ++ X = Y ++ S) (ht : total P ≤ total Y) : ∃ Z, Y = P ++ Z ∧ X = Z ++ S := by
  rcases List.append_eq_append_iff.1 h with ⟨a, h1, h2⟩ | ⟨c, h1, h2⟩
  · exact ⟨a, h1, h2⟩
  · subst h1
    rw [total_app] at ht
    have hc : Good c := (hg.left).right
    have : c = [] := by
      cases c with
      | nil => rfl
      | cons z c => have := hc.total_pos (by simp); omega
    subst this
    exact ⟨[], by simp, by simpa using h2.symm⟩

/-- What linking leaves: the leaves of both, but that the two that meet may have become one. -/
def LinkO (la lb l : List Lf) : Prop := l = la ++ lb ∨ ∃ pa x y pb n, la = pa ++ [x] ∧ lb = y :: pb ∧ x.2.size + y.2.size ≤ 64 ∧ l = pa ++ (n, x.2 ++ y.2) :: pb
theorem ba_list (x y : ByteArray) : (x ++ y).data.toList = x.data.toList ++ y.data.toList := by rw [ByteArray.data_append, Array.toList_append]
theorem LinkO.flat {la lb l : List Lf} (h : LinkO la lb l) : flat l = flat la ++ flat lb := by
  rcases h with rfl | ⟨pa, x, y, pb, n, rfl, rfl, _, rfl⟩
  · exact flat_app _ _
  · simp only [flat_app, flat_cons, flat_nil, ba_list, List.append_assoc, List.append_nil]
theorem LinkO.total {la lb l : List Lf} (h : LinkO la lb l) : total l = total la + total lb := by
  rw [← flat_len, h.flat, List.length_append, flat_len, flat_len]
/-- Where the two that meet are too great, nothing else can be. -/
theorem LinkO.same {la lb l : List Lf} (h : LinkO la lb l) (hg : Good (la ++ lb)) : l = la ++ lb := by
  rcases h with rfl | ⟨pa, x, y, pb, n, rfl, rfl, h1, rfl⟩
  · rfl
  · have := Good.meet hg; omega
theorem ba_size (x y : ByteArray) : (x ++ y).size = x.size + y.size := ByteArray.size_append
theorem link_good {pa pb : List Lf} {x y : Lf} {n : Nat} (ha : Good (pa ++ [x])) (hb : Good (y :: pb)) (h : x.2.size + y.2.size ≤ 64) : Good (pa ++ (n, x.2 ++ y.2) :: pb) := by
  rw [Good.app_iff] at ha ⊢
  obtain ⟨a1, a2, a3⟩ := ha
  rw [good_cons] at hb ⊢
  obtain ⟨b1, b2, b3⟩ := hb
  simp only [Good] at a2
  refine ⟨a1, ⟨⟨by simp [ba_size]; omega, by simp [ba_size]; omega⟩, ?_, b3⟩, ?_⟩
  · intro z hz
    have := b2 z hz
    simp [ba_size]; omega
  · intro p q hp hq
    simp only [List.head?_cons, Option.some.injEq] at hq
    subst hq
    have := a3 p x hp (by simp)
    simp [ba_size]; omega

/-- What cutting off behind an offset leaves: some first leaves, and at most one more. -/
def HeadO (la : List Lf) (k : Nat) (l : List Lf) : Prop :=
  (∃ P N S, la = P ++ S ∧ l = P ++ N ∧ N.length ≤ 1 ∧ total P ≤ k) ∧ flat l = (flat la).take k ∧ Good l ∧ ∀ P S, la = P ++ S → total P = k → l = P
def TailO (la : List Lf) (k : Nat) (l : List Lf) : Prop :=
  (∃ P N S, la = P ++ S ∧ l = N ++ S ∧ N.length ≤ 1 ∧ k ≤ total P) ∧ flat l = (flat la).drop k ∧ Good l ∧ ∀ P S, la = P ++ S → total P = k → l = S

theorem headO_none {la : List Lf} (hg : Good la) : HeadO la 0 [] := by
  refine ⟨⟨[], [], la, rfl, rfl, by simp, by simp [total]⟩, by simp [flat], trivial, ?_⟩
  intro P S h1 h2
  subst h1
  cases P with
  | nil => rfl
  | cons x P => have := hg.left.total_pos (by simp); omega
theorem headO_all {la : List Lf} (hg : Good la) (k : Nat) (hk : total la ≤ k) : HeadO la k la := by
  refine ⟨⟨la, [], [], by simp, by simp, by simp, hk⟩, by rw [List.take_of_length_le (by rw [flat_len]; exact hk)], hg, ?_⟩
  intro P S h1 h2
  subst h1
  rw [total_app] at hk
  cases S with
  | nil => simp
  | cons x S => have := hg.right.total_pos (by simp); omega
theorem tailO_all {la : List Lf} (hg : Good la) : TailO la 0 la := by
  refine ⟨⟨[], [], la, rfl, rfl, by simp, by simp [total]⟩, by simp, hg, ?_⟩
  intro P S h1 h2
  subst h1
  cases P with
  | nil => rfl
  | cons x P => have := hg.left.total_pos (by simp); omega
theorem tailO_none {la : List Lf} (hg : Good la) : TailO la (total la) [] := by
  refine ⟨⟨la, [], [], by simp, by simp, by simp, Nat.le_refl _⟩, ?_, trivial, ?_⟩
  · rw [List.drop_eq_nil_of_le (by rw [flat_len]; exact Nat.le_refl _)]; rfl
  · intro P S h1 h2
    subst h1
    rw [total_app] at h2
    cases S with
    | nil => simp
    | cons x S => have := hg.right.total_pos (by simp); omega
end Go.Proofs.Ytagjeckgfjddmaa
