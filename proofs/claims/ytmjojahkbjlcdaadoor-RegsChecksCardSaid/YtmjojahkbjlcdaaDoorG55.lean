import Derived.Test.YtmjojahkbjlcdaaDoorProg
import Derived.Test.YtmjojahkbjlcdaaDoorX3
import Derived.Test.YtmjojahkbjlcdaaDoorX4
import Derived.WalkKit
import Derived.WalkLawsBesides
import Derived.WalkSpells
import Derived.Outline
import Derived.Lib.Walk
import Derived.Lib.Hide
import Derived.RegionTactic
import Derived.LoopTactic
import Derived.Below
import Derived.IntWalk
import Derived.Deep.QuietTactic
import Derived.BigQuiet
import Derived.Test.YtmjojahkbjlcdaaDoorX21
namespace Go.Proofs.YtmjojahkbjlcdaaDoor
set_option linter.unusedSimpArgs false
set_option linter.unusedVariables false
set_option maxRecDepth 100000
open Go.RowKit

/- What a pattern's own text is read as: the letters. -/
theorem wtn_wr (c : UInt8) (r : List UInt8) : ∃ v, wtn (wr c ++ r) = .ok ((v, c), r) := by
  rcases wr_form c with ⟨d, h, hd⟩ | ⟨h, hs⟩
  · rw [h]; exact ⟨[92, d], by simp [wtn, hd]⟩
  · rw [h]
    have hn := (sp_cases c hs).1
    refine ⟨[c], ?_⟩
    show wtn (c :: r) = _
    unfold wtn
    split <;> simp_all
theorem itl_one (c : UInt8) (r : List UInt8) (hr : okR r) : itl (wr c ++ r) = .ok ((), r) := by
  obtain ⟨h, t, rfl, hh⟩ := hr
  obtain ⟨v, e⟩ := wtn_wr c (h :: t)
  unfold itl; rw [e]; simp [hh]
theorem itl_two (a b : UInt8) (r : List UInt8) (hab : a ≤ b) : itl (wr a ++ ([45] ++ (wr b ++ r))) = .ok ((), r) := by
  obtain ⟨v, e⟩ := wtn_wr a ([45] ++ (wr b ++ r))
  obtain ⟨v2, e2⟩ := wtn_wr b r
  unfold itl; rw [e]; simp [e2, hab]
theorem cl_wr (k : Nat) (c : UInt8) (q r : List UInt8) (h : itl (wr c ++ q) = .ok ((), r)) : cl (k + 1) (wr c ++ q) = cl k r := by
  obtain ⟨x, t, e, h93, _, _⟩ := wr_head c
  rw [e] at h ⊢
  have h2 : ¬ ((x :: t) ++ q).head? = some 93 := by simp [h93]
  rw [cl, if_neg h2, h]
theorem cl_txt : ∀ (R : List (Nat × Nat)) (r : List UInt8), okR r → (∀ x ∈ R, x.1 ≤ x.2 ∧ x.2 < 256) → ∃ j, j ≤ (txt R).length ∧ ∀ k, cl (k + j) (txt R ++ r) = cl k r
  | [], r, _, _ => ⟨0, Nat.zero_le _, fun k => rfl⟩
  | (a, b) :: R, r, hr, h => by
    have hx := h (a, b) (List.mem_cons_self ..)
    simp only at hx
    obtain ⟨j, hj, ih⟩ := cl_txt R r hr (fun x hx => h x (List.mem_cons_of_mem _ hx))
    have hok := txt_head R r hr
    have hs : txt ((a, b) :: R) ++ r = rt (a, b) ++ (txt R ++ r) := by simp [txt]
    have hl : (txt ((a, b) :: R)).length = (rt (a, b)).length + (txt R).length := by simp [txt]
    rw [hs, hl]
    unfold rt wn
    simp only
    have l1 := (wr_len (UInt8.ofNat a)).1
    have l2 := (wr_len (UInt8.ofNat b)).1
    by_cases h1 : a = b
    · subst h1
      rw [if_pos rfl]
      exact ⟨j + 1, by omega, fun k => by rw [show k + (j + 1) = (k + j) + 1 by omega, cl_wr _ _ _ _ (itl_one _ _ hok), ih]⟩
    · by_cases h2 : b - a = 1
      · rw [if_neg h1, if_pos h2, List.append_assoc]
        have hok2 : okR (wr (UInt8.ofNat b) ++ (txt R ++ r)) := by
          obtain ⟨x, t, e, _, _, h45⟩ := wr_head (UInt8.ofNat b)
          rw [e]; exact ⟨x, _, rfl, h45⟩
        refine ⟨j + 2, by rw [List.length_append]; omega, fun k => ?_⟩
        rw [show k + (j + 2) = (k + j + 1) + 1 by omega, cl_wr _ _ _ _ (itl_one _ _ hok2), cl_wr _ _ _ _ (itl_one _ _ hok), ih]
      · rw [if_neg h1, if_neg h2]
        have hab : UInt8.ofNat a ≤ UInt8.ofNat b := by rw [UInt8.le_iff_toNat_le, ofNat_toNat a (by omega), ofNat_toNat b (by omega)]; omega
        refine ⟨j + 1, by rw [List.length_append, List.length_append]; omega, fun k => ?_⟩
        rw [List.append_assoc, List.append_assoc, show k + (j + 1) = (k + j) + 1 by omega, cl_wr _ _ _ _ (itl_two _ _ _ hab), ih]
theorem txt_no94 (R : List (Nat × Nat)) (y : List UInt8) : ¬ (txt R ++ 93 :: y).head? = some 94 := by
  cases R with
  | nil => simp [txt]
  | cons x R =>
    obtain ⟨h, t, e, _, h94, _⟩ := wr_head (UInt8.ofNat x.1)
    simp only [txt]
    unfold rt wn
    by_cases h1 : x.1 = x.2
    · rw [if_pos h1, e]; simp [h94]
    · by_cases h2 : x.2 - x.1 = 1
      · rw [if_neg h1, if_pos h2, e]; simp [h94]
      · rw [if_neg h1, if_neg h2, e]; simp [h94]
theorem csl_main {R : List (Nat × Nat)} {l y : List UInt8} (hR : ∀ x ∈ R, x.1 ≤ x.2 ∧ x.2 < 256) (hl : hat l.tail = txt R ++ (93 :: y)) : ∃ v, csl l = .ok (v, y) := by
  obtain ⟨j, hj, hc⟩ := cl_txt R (93 :: y) ⟨93, y, rfl, by decide⟩ hR
  unfold csl
  rw [hl]
  have h : cl ((txt R ++ 93 :: y).length + 1) (txt R ++ 93 :: y) = .ok ((), y) := by
    obtain ⟨k, hk⟩ : ∃ k, (txt R ++ 93 :: y).length + 1 = (k + 1) + j := ⟨(txt R ++ 93 :: y).length - j, by rw [List.length_append]; omega⟩
    rw [hk, hc, cl]; simp
  rw [h]
  exact ⟨_, rfl⟩
theorem csl_pr (f : Nat → Bool) (y : List UInt8) : ∃ v, csl (pr f ++ y) = .ok (v, y) := by
  unfold pr
  by_cases h : 128 < cntF f 256
  · rw [if_pos h]
    refine csl_main (R := runsF (fun b => !f b) 256) (fun x hx => by have := runs_le _ 256 x hx; omega) ?_
    simp [hat]
  · rw [if_neg h]
    refine csl_main (R := runsF f 256) (fun x hx => by have := runs_le _ 256 x hx; omega) ?_
    have e : (([91] ++ txt (runsF f 256) ++ [93]) ++ y).tail = txt (runsF f 256) ++ 93 :: y := by simp
    rw [e]
    unfold hat
    rw [if_neg (txt_no94 _ _)]
/-- What a set's atom is read as. -/
def rdU (f : Nat → Bool) : Nat → Int := if sameU (wf f) (wf inlF) = true then wf inlF else if cntF f 256 = 1 then wf (rangeF ((mem f 256).headD 0).toNat 1) else uO (ps (pr f))
theorem wrb_form (c : UInt8) : (∃ d, wrb c = [92, d] ∧ (ltr d = some c ∨ (ltr d = none ∧ sgs.contains d = true ∧ d = c))) ∨ (wrb c = [c] ∧ sgs.contains c = false) := by
  unfold wrb
  by_cases h1 : c = 10
  · rw [if_pos h1]; left; subst h1; exact ⟨110, rfl, .inl rfl⟩
  · by_cases h2 : c = 9
    · rw [if_neg h1, if_pos h2]; left; subst h2; exact ⟨116, rfl, .inl rfl⟩
    · by_cases h3 : c = 13
      · rw [if_neg h1, if_neg h2, if_pos h3]; left; subst h3; exact ⟨114, rfl, .inl rfl⟩
      · by_cases h4 : sgs.contains c = true
        · rw [if_neg h1, if_neg h2, if_neg h3, if_pos h4]; left
          refine ⟨c, rfl, .inr ⟨?_, h4, rfl⟩⟩
          have : c ≠ 110 ∧ c ≠ 116 ∧ c ≠ 114 := by
            refine ⟨?_, ?_, ?_⟩ <;> intro e <;> subst e <;> exact absurd h4 (by decide)
          unfold ltr
          rw [if_neg this.1, if_neg this.2.1, if_neg this.2.2]
        · rw [if_neg h1, if_neg h2, if_neg h3, if_neg h4]; right
          exact ⟨rfl, by simpa using h4⟩
theorem sgs_ne {c : UInt8} (h : sgs.contains c = false) : c ≠ 92 ∧ c ≠ 40 ∧ c ≠ 91 ∧ c ≠ 46 ∧ c ≠ 42 ∧ c ≠ 43 ∧ c ≠ 63 ∧ c ≠ 124 ∧ c ≠ 41 := by
  refine ⟨?_, ?_, ?_, ?_, ?_, ?_, ?_, ?_, ?_⟩ <;> intro e <;> subst e <;> exact absurd h (by decide)
theorem sgl_wrb (c : UInt8) (y : List UInt8) : sgl (wrb c ++ y) = .ok (c, y) := by
  rcases wrb_form c with ⟨d, h, hd⟩ | ⟨h, hs⟩
  · rw [h]
    show sgl (92 :: d :: y) = _
    rcases hd with hd | ⟨hd, h2, rfl⟩
    · simp only [sgl, hd]
    · simp only [sgl, hd, h2, if_true]
  · rw [h]
    have hn := (sgs_ne hs).1
    show sgl (c :: y) = _
    have e0 : sgl (c :: y) = if sgs.contains c then .error (c :: y) else .ok (c, y) := by
      unfold sgl; split <;> simp_all
    rw [e0, hs]
    rfl
/-- A text that begins as a thing does. -/
def goodH (l : List UInt8) : Prop := ∃ h q, l = h :: q ∧ h ≠ 42 ∧ h ≠ 43 ∧ h ≠ 63 ∧ h ≠ 124 ∧ h ≠ 41
theorem wrb_head (c : UInt8) : ∃ h q, wrb c = h :: q ∧ h ≠ 40 ∧ h ≠ 91 ∧ h ≠ 46 ∧ h ≠ 42 ∧ h ≠ 43 ∧ h ≠ 63 ∧ h ≠ 124 ∧ h ≠ 41 := by
  rcases wrb_form c with ⟨d, h, hd⟩ | ⟨h, hs⟩
  · exact ⟨92, [d], h, by decide, by decide, by decide, by decide, by decide, by decide, by decide, by decide⟩
  · obtain ⟨_, h40, h91, h46, h42, h43, h63, h124, h41⟩ := sgs_ne hs
    exact ⟨c, [], h, h40, h91, h46, h42, h43, h63, h124, h41⟩
theorem wset_good (f : Nat → Bool) : goodH (wset f) := by
  unfold wset
  split
  · exact ⟨46, [], rfl, by decide, by decide, by decide, by decide, by decide⟩
  · split
    · obtain ⟨h, q, e, _, _, _, h42, h43, h63, h124, h41⟩ := wrb_head ((mem f 256).headD 0)
      exact ⟨h, q, e, h42, h43, h63, h124, h41⟩
    · unfold pr
      split
      · exact ⟨91, _, rfl, by decide, by decide, by decide, by decide, by decide⟩
      · exact ⟨91, _, rfl, by decide, by decide, by decide, by decide, by decide⟩
theorem atom_set (ch : List UInt8 → Except (List UInt8) (RT × List UInt8)) (f : Nat → Bool) (y : List UInt8) : atomF ch (wset f ++ y) = .ok (setT (rdU f), y) := by
  unfold wset rdU
  by_cases h1 : sameU (wf f) (wf inlF) = true
  · rw [if_pos h1, if_pos h1]; simp [atomF]
  · rw [if_neg h1, if_neg h1]
    by_cases h2 : cntF f 256 = 1
    · rw [if_pos h2, if_pos h2]
      obtain ⟨c, hc⟩ : ∃ c, (mem f 256).headD 0 = c := ⟨_, rfl⟩
      rw [hc]
      have hs := sgl_wrb c y
      obtain ⟨h, q, e, h40, h91, h46, _⟩ := wrb_head c
      rw [e] at hs ⊢
      unfold atomF
      rw [if_neg (by simp [h40]), if_neg (by simp [h91]), if_neg (by simp [h46]), hs]
    · rw [if_neg h2, if_neg h2]
      obtain ⟨v, hv⟩ := csl_pr f y
      have hh : (pr f ++ y).head? = some 91 := by unfold pr; split <;> simp
      unfold atomF
      rw [if_neg (by rw [hh]; decide), if_pos hh, hv]
      show Except.ok (setT (csu (pr f ++ y) y), y) = _
      unfold csu
      rw [show (pr f ++ y).length - y.length = (pr f).length by simp, List.take_left']
      rfl
/-- The letters of a set's atom. -/
theorem mem_has5 (f : Nat → Bool) : ∀ k n, k ≤ 256 → ofL (mem f k) n = (decide (n < k) && f n)
  | 0, n, _ => by simp [mem, ofL]
  | k + 1, n, hk => by
    have ih := mem_has5 f k n (by omega)
    rw [mem]
    by_cases hf : f k = true
    · rw [if_pos hf, ofL_snoc]
      show (ofL (mem f k) n || n == (UInt8.ofNat k).toNat) = _
      rw [ih, ofNat_toNat k (by omega), Bool.eq_iff_iff]
      simp
      constructor
      · rintro (⟨h1, h2⟩ | rfl)
        · exact ⟨by omega, h2⟩
        · exact ⟨by omega, hf⟩
      · rintro ⟨h1, h2⟩
        by_cases h : n = k
        · exact .inr h
        · exact .inl ⟨by omega, h2⟩
    · rw [if_neg hf, ih, Bool.eq_iff_iff]
      simp
      intro h2
      have : n ≠ k := fun e => hf (e ▸ h2)
      omega
theorem rdU_is {u : Nat → Int} (h : okU u) : ∀ i, i < 4 → rdU (fOf u) i = u i := by
  intro i hi
  rw [h i hi]
  unfold rdU
  by_cases h1 : sameU (wf (fOf u)) (wf inlF) = true
  · rw [if_pos h1]
    unfold sameU at h1
    simp only [Bool.and_eq_true, beq_iff_eq] at h1
    rcases (by omega : i = 0 ∨ i = 1 ∨ i = 2 ∨ i = 3) with rfl | rfl | rfl | rfl
    · exact h1.1.symm
    · exact h1.2.1.symm
    · exact h1.2.2.1.symm
    · exact h1.2.2.2.symm
  · rw [if_neg h1]
    by_cases h2 : cntF (fOf u) 256 = 1
    · rw [if_pos h2]
      have hl := mem_len (fOf u) 256
      have hm := fun n => mem_has5 (fOf u) 256 n (Nat.le_refl _)
      rw [h2] at hl
      obtain ⟨c, hc⟩ := List.length_eq_one_iff.1 hl
      rw [hc] at hm ⊢
      unfold wf
      rw [W_congr i (f := rangeF (([c] : List UInt8).headD 0).toNat 1) (g := fOf u) fun k hk => ?_]
      have h3 := hm (64 * i + k)
      rw [show decide (64 * i + k < 256) = true by simp; omega, Bool.true_and] at h3
      rw [← h3]
      simp [rangeF, ofL]
      rw [Bool.eq_iff_iff]; simp; omega
    · rw [if_neg h2]
      obtain ⟨g, hg, hk⟩ := ps_pr (fOf u)
      rw [hg]
      show wf g i = _
      unfold wf
      rw [W_congr i fun k hk' => hk (64 * i + k) (by omega)]
end Go.Proofs.YtmjojahkbjlcdaaDoor
