/- Places of texts: plain facts. -/
import Derived.Test.YtagjeckgfjddmaaLOf
namespace Go.Proofs.Ytagjeckgfjddmaa
set_option linter.unusedSimpArgs false
set_option linter.unusedVariables false
open Go.RowKit


theorem of_in (l : List UInt8) (n : Int) (h : 0 ≤ n ∧ n ≤ l.length) : ofL l n = cntN (l.take n.toNat) ∧ ofC l n = colN (l.take n.toNat) ∧ ofE l n = 0 := by
  have hb : inB l n = true := by unfold inB; simpa using h
  unfold ofL ofC ofE; rw [hb]; exact ⟨rfl, rfl, rfl⟩
theorem of_out (l : List UInt8) (n : Int) (h : ¬ (0 ≤ n ∧ n ≤ l.length)) : ofL l n = 0 ∧ ofC l n = 0 ∧ ofE l n = 4 := by
  have hb : inB l n = false := by unfold inB; simpa using h
  unfold ofL ofC ofE; rw [hb]; exact ⟨rfl, rfl, rfl⟩
theorem of_bounds (l : List UInt8) (n : Int) : 0 ≤ ofL l n ∧ ofL l n ≤ l.length ∧ 0 ≤ ofC l n ∧ ofC l n ≤ l.length := by
  by_cases h : 0 ≤ n ∧ n ≤ l.length
  · obtain ⟨e1, e2, -⟩ := of_in l n h
    have h1 := cnt_le (l.take n.toNat)
    have h2 := col_le (l.take n.toNat)
    rw [List.length_take] at h1 h2
    rw [e1, e2]; omega
  · obtain ⟨e1, e2, -⟩ := of_out l n h
    rw [e1, e2]; omega
theorem of_step_nl (l : List UInt8) (k : Nat) (h : k < l.length) (hc : l[k] = 10) : ofL l (k + 1) = ofL l k + 1 ∧ ofC l (k + 1) = 0 := by
  obtain ⟨a1, a2, -⟩ := of_in l k (by omega)
  obtain ⟨b1, b2, -⟩ := of_in l ((k : Int) + 1) (by omega)
  have e : ((k : Int) + 1).toNat = k + 1 := by omega
  rw [e, take_succ' l k h, hc] at b1 b2
  rw [b1, b2, a1, cnt_nl, col_nl]
  rw [show (k : Int).toNat = k by omega]; exact ⟨rfl, rfl⟩
theorem of_step_other (l : List UInt8) (k : Nat) (h : k < l.length) (hc : l[k] ≠ 10) : ofL l (k + 1) = ofL l k ∧ ofC l (k + 1) = ofC l k + 1 := by
  obtain ⟨a1, a2, -⟩ := of_in l k (by omega)
  obtain ⟨b1, b2, -⟩ := of_in l ((k : Int) + 1) (by omega)
  have e : ((k : Int) + 1).toNat = k + 1 := by omega
  rw [e, take_succ' l k h] at b1 b2
  rw [b1, b2, a1, a2, cnt_other _ _ hc, col_other _ _ hc]
  rw [show (k : Int).toNat = k by omega]; exact ⟨rfl, rfl⟩
theorem of_rise (l : List UInt8) (a b : Int) (ha : ofE l a = 0) (hb : ofE l b = 0) (h : a < b) : ofL l a < ofL l b ∨ (ofL l a = ofL l b ∧ ofC l a < ofC l b) := by
  by_cases h1 : 0 ≤ a ∧ a ≤ l.length
  · by_cases h2 : 0 ≤ b ∧ b ≤ l.length
    · obtain ⟨a1, a2, -⟩ := of_in l a h1
      obtain ⟨b1, b2, -⟩ := of_in l b h2
      rw [a1, a2, b1, b2]
      have := rise_lt l a.toNat b.toNat (by omega) (by omega)
      omega
    · rw [(of_out l b h2).2.2] at hb; cases hb
  · rw [(of_out l a h1).2.2] at ha; cases ha
theorem of_E (l : List UInt8) (n : Int) : ofE l n = 0 ∨ ofE l n = 4 := by
  unfold ofE; cases inB l n <;> simp
theorem of_last (l : List UInt8) : ofL l l.length = cntN l ∧ ofC l l.length = colN l ∧ ofE l l.length = 0 := by
  obtain ⟨a1, a2, a3⟩ := of_in l l.length (by omega)
  rw [a1, a2, a3]; simp
theorem at_of (l : List UInt8) (n : Int) (h : ofE l n = 0) : atN l (ofL l n) (ofC l n) = n ∧ atE l (ofL l n) (ofC l n) = 0 := by
  by_cases h1 : 0 ≤ n ∧ n ≤ l.length
  · obtain ⟨a1, a2, -⟩ := of_in l n h1
    have e := atO_some l (ofL l n) (ofC l n) n.toNat (by omega) a1.symm a2.symm
    unfold atN atE; rw [e]; exact ⟨by show ((n.toNat : Nat) : Int) = n; omega, rfl⟩
  · rw [(of_out l n h1).2.2] at h; cases h
theorem of_at (l : List UInt8) (L C : Int) (h : atE l L C = 0) : ofL l (atN l L C) = L ∧ ofC l (atN l L C) = C ∧ ofE l (atN l L C) = 0 := by
  cases e : atO l L C with
  | none => unfold atE at h; rw [e] at h; cases h
  | some m =>
    obtain ⟨h1, h2, h3⟩ := atO_spec l L C m e
    have en : atN l L C = m := by unfold atN; rw [e]
    rw [en]
    obtain ⟨a1, a2, a3⟩ := of_in l m (by omega)
    rw [a1, a2, a3]
    exact ⟨h2, h3, rfl⟩
theorem at_E (l : List UInt8) (L C : Int) : atE l L C = 0 ∨ (atE l L C = 4 ∧ atN l L C = 0) := by
  unfold atE atN; cases atO l L C <;> simp
theorem at_bounds (l : List UInt8) (L C : Int) : 0 ≤ atN l L C ∧ atN l L C ≤ l.length := by
  unfold atN
  cases e : atO l L C with
  | none => simp
  | some m => have := (atO_spec l L C m e).1; simp; omega
theorem col_app (l m : List UInt8) : colN (l ++ m) = if cntN m = 0 then colN l + colN m else colN m := by
  by_cases h : ∀ x ∈ m, x ≠ 10
  · rw [if_pos (cnt_none m h), col_none l m h]
    have := col_none [] m h
    rw [List.nil_append, col_nil] at this
    omega
  · have h10 : (10 : UInt8) ∈ m := by
      refine Classical.byContradiction fun hn => h ?_
      rintro x hx rfl; exact hn hx
    have hc : cntN m ≠ 0 := by
      unfold cntN; exact fun e => List.count_eq_zero.1 e h10
    rw [if_neg hc]
    unfold colN
    rw [List.reverse_append, List.takeWhile_append]
    have : (m.reverse.takeWhile (· != 10)).length ≠ m.reverse.length := by
      intro e
      have hall := (List.takeWhile_sublist (· != (10 : UInt8)) (l := m.reverse)).eq_of_length e
      have hal := List.all_takeWhile (p := (· != (10 : UInt8))) (l := m.reverse)
      rw [hall, List.all_eq_true] at hal
      have := hal 10 (List.mem_reverse.2 h10)
      simp at this
    rw [if_neg this]
theorem of_join (l m : List UInt8) (n : Int) (h : ofE m n = 0) :
    ofE (l ++ m) (l.length + n) = 0 ∧ ofL (l ++ m) (l.length + n) = cntN l + ofL m n ∧ ofC (l ++ m) (l.length + n) = if ofL m n = 0 then colN l + ofC m n else ofC m n := by
  by_cases h1 : 0 ≤ n ∧ n ≤ m.length
  · obtain ⟨a1, a2, -⟩ := of_in m n h1
    obtain ⟨b1, b2, b3⟩ := of_in (l ++ m) (l.length + n) (by rw [List.length_append]; omega)
    have e : (l ++ m).take ((l.length : Int) + n).toNat = l ++ m.take n.toNat := by
      rw [show ((l.length : Int) + n).toNat = l.length + n.toNat by omega]
      exact List.take_length_add_append n.toNat
    rw [b1, b2, b3, a1, a2, e, cnt_app, col_app]
    refine ⟨rfl, by omega, ?_⟩
    by_cases hz : cntN (m.take n.toNat) = 0
    · rw [if_pos hz, if_pos (by omega)]; omega
    · rw [if_neg hz, if_neg (by omega)]
  · rw [(of_out m n h1).2.2] at h; cases h
theorem head_exists (l : List UInt8) : ∀ k : Nat, k ≤ cntN l → ∃ a, Head l a k
  | 0, _ => ⟨0, Head.zero l⟩
  | k + 1, h => by
    obtain ⟨a, ha⟩ := head_exists l k (by omega)
    rcases index_spec (l.drop a) with ⟨-, h2⟩ | ⟨p, q, h1, h2, -⟩
    · have := ha.lastLine h2 l.length
      rw [List.take_length] at this; omega
    · exact ⟨_, ha.next p q h1 h2⟩
theorem at_nolines (l : List UInt8) (L C : Int) (h : L < 0 ∨ (cntN l : Int) < L) : atN l L C = 0 ∧ atE l L C = 4 := by
  have e := atO_none l L C (fun n hn ⟨e1, e2⟩ => by
    have := cnt_mono l n l.length hn
    rw [List.take_length] at this; omega)
  unfold atN atE; rw [e]; exact ⟨rfl, rfl⟩
theorem lastCol_more {l : List UInt8} {a : Nat} (ha : a ≤ l.length) (c : Nat) (h : (c : Int) < lastCol (l.drop a)) : ∃ hi : a + c < l.length, l[a + c] ≠ 10 := by
  obtain ⟨p, q, h1, h2, h3, -⟩ := lastCol_spec (l.drop a)
  have hlen : (l.drop a).length = p.length + q.length := by rw [h1]; simp
  rw [List.length_drop] at hlen
  refine ⟨by omega, ?_⟩
  have hi : c < (l.drop a).length := by rw [List.length_drop]; omega
  have e : (l.drop a)[c] = l[a + c]'(by omega) := List.getElem_drop ..
  rw [← e]
  have e2 : (l.drop a)[c] = p[c]'(by omega) := by
    simp only [h1]
    exact List.getElem_append_left (by omega)
  rw [e2]
  exact h2 _ (List.getElem_mem _)
theorem lastCol_stop {l : List UInt8} {a : Nat} (ha : a ≤ l.length) (c : Nat) (h : (c : Int) = lastCol (l.drop a)) (hi : a + c < l.length) : l[a + c] = 10 := by
  obtain ⟨p, q, h1, h2, h3, h4⟩ := lastCol_spec (l.drop a)
  have hlen : (l.drop a).length = p.length + q.length := by rw [h1]; simp
  rw [List.length_drop] at hlen
  rcases h4 with rfl | ⟨q', rfl⟩
  · simp at hlen; omega
  · have hi : c < (l.drop a).length := by rw [List.length_drop]; omega
    have e : (l.drop a)[c] = l[a + c]'(by omega) := List.getElem_drop ..
    rw [← e]
    have hcp : c = p.length := by omega
    subst hcp
    simp only [h1]
    rw [List.getElem_append_right (by omega)]
    simp
end Go.Proofs.Ytagjeckgfjddmaa
