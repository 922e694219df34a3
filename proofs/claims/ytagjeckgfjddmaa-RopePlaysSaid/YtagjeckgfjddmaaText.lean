/- Lines and columns of a list of bytes: how many bytes 10, how many bytes behind the last one; the offset of a place. No program, no world. -/
import Derived.Lib.Bytealg
namespace Go.Proofs.Ytagjeckgfjddmaa
set_option linter.unusedSimpArgs false
set_option linter.unusedVariables false

def cntN (l : List UInt8) : Nat := l.count 10
def colN (l : List UInt8) : Nat := (l.reverse.takeWhile (· != 10)).length

theorem cnt_nil : cntN [] = 0 := rfl
theorem col_nil : colN [] = 0 := rfl
theorem cnt_app (l m : List UInt8) : cntN (l ++ m) = cntN l + cntN m := List.count_append
theorem cnt_nl (l : List UInt8) : cntN (l ++ [10]) = cntN l + 1 := by rw [cnt_app]; rfl
theorem cnt_other (l : List UInt8) (c : UInt8) (h : c ≠ 10) : cntN (l ++ [c]) = cntN l := by
  rw [cnt_app]; unfold cntN; simp [List.count_cons, h]
theorem col_nl (l : List UInt8) : colN (l ++ [10]) = 0 := by unfold colN; simp
theorem col_other (l : List UInt8) (c : UInt8) (h : c ≠ 10) : colN (l ++ [c]) = colN l + 1 := by unfold colN; simp [List.takeWhile_cons, h]
theorem cnt_none (m : List UInt8) (h : ∀ x ∈ m, x ≠ 10) : cntN m = 0 := by
  unfold cntN; exact List.count_eq_zero.2 fun hm => h 10 hm rfl
theorem col_none (l m : List UInt8) (h : ∀ x ∈ m, x ≠ 10) : colN (l ++ m) = colN l + m.length := by
  unfold colN
  rw [List.reverse_append, List.takeWhile_append_of_pos (by intro a ha; simpa using h a (by simpa using ha))]
  simp; omega
theorem col_behind (l m : List UInt8) (h : ∀ x ∈ m, x ≠ 10) : colN (l ++ 10 :: m) = m.length := by
  have := col_none (l ++ [10]) m h
  rw [col_nl, List.append_assoc] at this
  simpa using this
theorem cnt_le (l : List UInt8) : cntN l ≤ l.length := List.count_le_length
theorem col_le (l : List UInt8) : colN l ≤ l.length := by
  unfold colN
  have := (List.takeWhile_sublist (· != (10 : UInt8)) (l := l.reverse)).length_le
  simpa using this

/-- Where a byte 10 stands first. -/
theorem index_spec (l : List UInt8) : (Lib.indexByte l 10 = -1 ∧ ∀ x ∈ l, x ≠ 10) ∨ ∃ p q, l = p ++ 10 :: q ∧ (∀ x ∈ p, x ≠ 10) ∧ Lib.indexByte l 10 = p.length := by
  induction l with
  | nil => exact .inl ⟨rfl, by simp⟩
  | cons b l ih =>
    by_cases hb : b = 10
    · subst hb; exact .inr ⟨[], l, rfl, by simp, by simp [Lib.indexByte]⟩
    · have hb' : (b == (10 : UInt8)) = false := by simpa using hb
      rcases ih with ⟨h1, h2⟩ | ⟨p, q, rfl, h2, h3⟩
      · left
        refine ⟨by unfold Lib.indexByte; rw [hb', h1]; rfl, ?_⟩
        intro x hx
        rcases List.mem_cons.1 hx with rfl | hx
        · exact hb
        · exact h2 x hx
      · right
        refine ⟨b :: p, q, rfl, ?_, ?_⟩
        · intro x hx
          rcases List.mem_cons.1 hx with rfl | hx
          · exact hb
          · exact h2 x hx
        · unfold Lib.indexByte
          rw [hb', h3]
          have : (((p.length : Nat) : Int) == -1) = false := by rw [beq_eq_false_iff_ne]; omega
          rw [this]; simp

theorem take_succ' (l : List UInt8) (n : Nat) (h : n < l.length) : l.take (n + 1) = l.take n ++ [l[n]] := by
  rw [List.take_succ_eq_append_getElem h]

/-- One byte further: a later place. -/
theorem step_rise (l : List UInt8) (n : Nat) (h : n < l.length) :
    cntN (l.take n) < cntN (l.take (n + 1)) ∨ (cntN (l.take n) = cntN (l.take (n + 1)) ∧ colN (l.take n) < colN (l.take (n + 1))) := by
  rw [take_succ' l n h]
  by_cases hc : l[n] = 10
  · rw [hc, cnt_nl]; left; omega
  · rw [cnt_other _ _ hc, col_other _ _ hc]; right; omega

theorem rise (l : List UInt8) : ∀ (d n : Nat), n + d + 1 ≤ l.length →
    cntN (l.take n) < cntN (l.take (n + d + 1)) ∨ (cntN (l.take n) = cntN (l.take (n + d + 1)) ∧ colN (l.take n) < colN (l.take (n + d + 1)))
  | 0, n, h => step_rise l n h
  | d + 1, n, h => by
    have h1 := rise l d n (by omega)
    have h2 := step_rise l (n + d + 1) (by omega)
    have e : n + (d + 1) + 1 = n + d + 1 + 1 := by omega
    rw [e]; omega

theorem rise_lt (l : List UInt8) (m n : Nat) (h : m < n) (hn : n ≤ l.length) :
    cntN (l.take m) < cntN (l.take n) ∨ (cntN (l.take m) = cntN (l.take n) ∧ colN (l.take m) < colN (l.take n)) := by
  have := rise l (n - m - 1) m (by omega)
  rwa [show m + (n - m - 1) + 1 = n by omega] at this

theorem place_inj (l : List UInt8) (m n : Nat) (hm : m ≤ l.length) (hn : n ≤ l.length) (h1 : cntN (l.take m) = cntN (l.take n)) (h2 : colN (l.take m) = colN (l.take n)) : m = n := by
  rcases Nat.lt_trichotomy m n with h | h | h
  · have := rise_lt l m n h hn; omega
  · exact h
  · have := rise_lt l n m h hm; omega

theorem cnt_mono (l : List UInt8) (m n : Nat) (h : m ≤ n) : cntN (l.take m) ≤ cntN (l.take n) := by
  have : l.take n = l.take m ++ (l.take n).drop m := by
    conv => lhs; rw [← List.take_append_drop m (l.take n)]
    rw [List.take_take, Nat.min_eq_left h]
  rw [this, cnt_app]; omega

/-- The offset whose place is this one. -/
def atO (l : List UInt8) (L C : Int) : Option Nat := (List.range (l.length + 1)).find? fun n => decide (((cntN (l.take n) : Nat) : Int) = L ∧ ((colN (l.take n) : Nat) : Int) = C)
def atN (l : List UInt8) (L C : Int) : Int := match atO l L C with | some n => n | none => 0
def atE (l : List UInt8) (L C : Int) : Int := match atO l L C with | some _ => 0 | none => 4

theorem atO_spec (l : List UInt8) (L C : Int) (n : Nat) (h : atO l L C = some n) : n ≤ l.length ∧ ((cntN (l.take n) : Nat) : Int) = L ∧ ((colN (l.take n) : Nat) : Int) = C := by
  have h1 := List.mem_of_find?_eq_some h
  have h2 := List.find?_some h
  simp at h1 h2
  exact ⟨by omega, h2⟩
theorem atO_some (l : List UInt8) (L C : Int) (n : Nat) (hn : n ≤ l.length) (h1 : ((cntN (l.take n) : Nat) : Int) = L) (h2 : ((colN (l.take n) : Nat) : Int) = C) : atO l L C = some n := by
  cases h : atO l L C with
  | none =>
    have := List.find?_eq_none.1 h n (by simp; omega)
    simp [h1, h2] at this
  | some m =>
    obtain ⟨a, b, c⟩ := atO_spec l L C m h
    rw [place_inj l m n a hn (by omega) (by omega)]
theorem atO_none (l : List UInt8) (L C : Int) (h : ∀ n, n ≤ l.length → ¬ (((cntN (l.take n) : Nat) : Int) = L ∧ ((colN (l.take n) : Nat) : Int) = C)) : atO l L C = none := by
  cases e : atO l L C with
  | none => rfl
  | some m =>
    obtain ⟨a, b, c⟩ := atO_spec l L C m e
    exact absurd ⟨b, c⟩ (h m a)

/-- Where a line begins: a, line k. -/
structure Head (l : List UInt8) (a k : Nat) : Prop where
  le : a ≤ l.length
  cnt : cntN (l.take a) = k
  col : colN (l.take a) = 0

theorem Head.zero (l : List UInt8) : Head l 0 0 := ⟨Nat.zero_le _, by simp [cnt_nil], by simp [col_nil]⟩

/-- The next line's beginning. -/
theorem Head.next {l : List UInt8} {a k : Nat} (h : Head l a k) (p q : List UInt8) (hd : l.drop a = p ++ 10 :: q) (hp : ∀ x ∈ p, x ≠ 10) : Head l (a + p.length + 1) (k + 1) := by
  have hl : l.take (a + p.length + 1) = l.take a ++ p ++ [10] := by
    rw [show a + p.length + 1 = a + (p.length + 1) by omega, List.take_add, hd]
    simp [List.take_append, List.take_of_length_le]
  have hlen : (l.drop a).length = p.length + 1 + q.length := by rw [hd]; simp; omega
  rw [List.length_drop] at hlen
  refine ⟨by have := h.le; omega, ?_, ?_⟩
  · rw [hl, cnt_nl, cnt_app, cnt_none p hp, h.cnt]
  · rw [hl, col_nl]

/-- No line behind this one. -/
theorem Head.lastLine {l : List UInt8} {a k : Nat} (h : Head l a k) (hd : ∀ x ∈ l.drop a, x ≠ 10) (n : Nat) : cntN (l.take n) ≤ k := by
  have h1 := cnt_mono l n (max n l.length) (by omega)
  rw [List.take_of_length_le (by omega : l.length ≤ max n l.length)] at h1
  have h2 : cntN l = k := by
    conv => lhs; rw [← List.take_append_drop a l]
    rw [cnt_app, cnt_none _ hd, h.cnt]; rfl
  omega

/-- The greatest column of the line that begins here. -/
def lastCol (m : List UInt8) : Int := if 0 ≤ Lib.indexByte m 10 then Lib.indexByte m 10 else m.length

theorem lastCol_spec (m : List UInt8) : ∃ p q, m = p ++ q ∧ (∀ x ∈ p, x ≠ 10) ∧ lastCol m = p.length ∧ (q = [] ∨ ∃ q', q = 10 :: q') := by
  unfold lastCol
  rcases index_spec m with ⟨h1, h2⟩ | ⟨p, q, h1, h2, h3⟩
  · rw [h1]; exact ⟨m, [], by simp, h2, by simp, .inl rfl⟩
  · rw [h3]; exact ⟨p, 10 :: q, h1, h2, by simp, .inr ⟨q, rfl⟩⟩
theorem lastCol_le (m : List UInt8) : 0 ≤ lastCol m ∧ lastCol m ≤ m.length := by
  obtain ⟨p, q, rfl, _, h, _⟩ := lastCol_spec m
  rw [h]; simp; omega

/-- A line's places lie side by side. -/
theorem Head.place {l : List UInt8} {a k : Nat} (h : Head l a k) (c : Nat) (hc : (c : Int) ≤ lastCol (l.drop a)) : a + c ≤ l.length ∧ cntN (l.take (a + c)) = k ∧ colN (l.take (a + c)) = c := by
  obtain ⟨p, q, h1, h2, h3, -⟩ := lastCol_spec (l.drop a)
  have hlen : (l.drop a).length = p.length + q.length := by rw [h1]; simp
  rw [List.length_drop] at hlen
  have ha := h.le
  have hcp : c ≤ p.length := by omega
  have hl : l.take (a + c) = l.take a ++ p.take c := by
    rw [List.take_add, h1, List.take_append_of_le_length hcp]
  have hp : ∀ x ∈ p.take c, x ≠ 10 := fun x hx => h2 x (List.mem_of_mem_take hx)
  refine ⟨by omega, ?_, ?_⟩
  · rw [hl, cnt_app, cnt_none _ hp, h.cnt]; rfl
  · rw [hl, col_none _ _ hp, h.col, List.length_take]; omega

/-- Beyond a line's last column the line has no place. -/
theorem Head.beyond {l : List UInt8} {a k : Nat} (h : Head l a k) (n : Nat) (hn : n ≤ l.length) (hk : cntN (l.take n) = k) : a ≤ n ∧ ((n - a : Nat) : Int) ≤ lastCol (l.drop a) := by
  have ha : a ≤ n := by
    rcases Nat.lt_or_ge n a with hlt | hge
    · have := rise_lt l n a hlt h.le
      rw [h.cnt, h.col, hk] at this; omega
    · exact hge
  refine ⟨ha, ?_⟩
  obtain ⟨p, q, h1, h2, h3, h4⟩ := lastCol_spec (l.drop a)
  rw [h3]
  have hlen : (l.drop a).length = p.length + q.length := by rw [h1]; simp
  rw [List.length_drop] at hlen
  rcases h4 with rfl | ⟨q', rfl⟩
  · simp at hlen; omega
  · have hx := (h.next p q' h1 h2).cnt
    rcases Nat.lt_or_ge (a + p.length) n with hlt | hge
    · have := cnt_mono l (a + p.length + 1) n (by omega)
      omega
    · omega

theorem at_found {l : List UInt8} {a k : Nat} (h : Head l a k) (C : Int) (h0 : 0 ≤ C) (h1 : C ≤ lastCol (l.drop a)) : atN l k C = a + C ∧ atE l k C = 0 := by
  obtain ⟨b1, b2, b3⟩ := h.place C.toNat (by omega)
  have e := atO_some l k C (a + C.toNat) b1 (by omega) (by omega)
  unfold atN atE; rw [e]; exact ⟨by show ((a + C.toNat : Nat) : Int) = _; omega, rfl⟩
theorem at_beyond {l : List UInt8} {a k : Nat} (h : Head l a k) (C : Int) (h1 : C < 0 ∨ lastCol (l.drop a) < C) : atN l k C = 0 ∧ atE l k C = 4 := by
  have e := atO_none l k C (fun n hn ⟨e1, e2⟩ => by
    obtain ⟨b1, b2⟩ := h.beyond n hn (by omega)
    obtain ⟨c1, c2, c3⟩ := h.place (n - a) b2
    rw [show a + (n - a) = n by omega] at c3
    omega)
  unfold atN atE; rw [e]; exact ⟨rfl, rfl⟩
theorem at_below (l : List UInt8) (L C : Int) (h : L < 0) : atN l L C = 0 ∧ atE l L C = 4 := by
  have e := atO_none l L C (fun n hn ⟨e1, e2⟩ => by omega)
  unfold atN atE; rw [e]; exact ⟨rfl, rfl⟩
theorem at_above {l : List UInt8} {a k : Nat} (h : Head l a k) (hd : ∀ x ∈ l.drop a, x ≠ 10) (L C : Int) (hL : (k : Int) < L) : atN l L C = 0 ∧ atE l L C = 4 := by
  have e := atO_none l L C (fun n hn ⟨e1, e2⟩ => by have := h.lastLine hd n; omega)
  unfold atN atE; rw [e]; exact ⟨rfl, rfl⟩
theorem Head.lines {l : List UInt8} {a k : Nat} (h : Head l a k) : k ≤ a := by
  rw [← h.cnt]; exact Nat.le_trans (cnt_le _) (by rw [List.length_take]; omega)
end Go.Proofs.Ytagjeckgfjddmaa
