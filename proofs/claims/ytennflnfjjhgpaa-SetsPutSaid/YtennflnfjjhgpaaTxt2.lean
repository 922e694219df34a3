/- What a set's class says is the set. No program, no world. -/
import Derived.Test.YtennflnfjjhgpaaTxt
namespace Go.Proofs.Ytennflnfjjhgpaa
set_option linter.unusedSimpArgs false
set_option linter.unusedVariables false

theorem sp_cases (c : UInt8) (h : sp c = false) : c ≠ 92 ∧ c ≠ 91 ∧ c ≠ 93 ∧ c ≠ 94 ∧ c ≠ 45 := by
  unfold sp at h
  simp at h
  exact ⟨h.1.1.1.1, h.1.1.1.2, h.1.1.2, h.1.2, h.2⟩
/-- How a byte is written: by two, or by one that is no sign. -/
theorem wr_form (c : UInt8) : (∃ d, wr c = [92, d] ∧ mt d = some c) ∨ (wr c = [c] ∧ sp c = false) := by
  unfold wr
  by_cases h1 : c = 10
  · rw [if_pos h1]; left; subst h1; exact ⟨110, rfl, rfl⟩
  · by_cases h2 : c = 9
    · rw [if_neg h1, if_pos h2]; left; subst h2; exact ⟨116, rfl, rfl⟩
    · by_cases h3 : c = 13
      · rw [if_neg h1, if_neg h2, if_pos h3]; left; subst h3; exact ⟨114, rfl, rfl⟩
      · by_cases h4 : sp c = true
        · rw [if_neg h1, if_neg h2, if_neg h3, if_pos h4]; left
          refine ⟨c, rfl, ?_⟩
          have : c ≠ 110 ∧ c ≠ 116 ∧ c ≠ 114 := by
            refine ⟨?_, ?_, ?_⟩ <;> intro e <;> subst e <;> exact absurd h4 (by decide)
          unfold mt
          rw [if_neg this.1, if_neg this.2.1, if_neg this.2.2, if_pos h4]
        · rw [if_neg h1, if_neg h2, if_neg h3, if_neg h4]; right
          exact ⟨rfl, by simpa using h4⟩
theorem one_wr (c : UInt8) (r : List UInt8) : one (wr c ++ r) = some (c, r) := by
  rcases wr_form c with ⟨d, h, hd⟩ | ⟨h, hs⟩
  · rw [h]; simp [one, hd]
  · rw [h]; have := (sp_cases c hs).1; simp [one, hs, this]
theorem wr_head (c : UInt8) : ∃ h t, wr c = h :: t ∧ h ≠ 93 ∧ h ≠ 94 ∧ h ≠ 45 := by
  rcases wr_form c with ⟨d, h, hd⟩ | ⟨h, hs⟩
  · exact ⟨92, [d], h, by decide, by decide, by decide⟩
  · have := sp_cases c hs
    exact ⟨c, [], h, this.2.2.1, this.2.2.2.1, this.2.2.2.2⟩
/-- A rest that does not go on with the sign of a range. -/
def okR (r : List UInt8) : Prop := ∃ h t, r = h :: t ∧ h ≠ 45
theorem itm_one (c : UInt8) (r : List UInt8) (hr : okR r) : itm (wr c ++ r) = some (c, c, r) := by
  obtain ⟨h, t, rfl, hh⟩ := hr
  unfold itm
  rw [one_wr]
  simp [hh]
theorem itm_two (a b : UInt8) (r : List UInt8) (hab : a ≤ b) : itm (wr a ++ ([45] ++ (wr b ++ r))) = some (a, b, r) := by
  unfold itm
  rw [one_wr]
  simp [one_wr, hab]
theorem bd_wr (c : UInt8) (q : List UInt8) (f : Nat → Bool) (a b : UInt8) (r : List UInt8) (h : itm (wr c ++ q) = some (a, b, r)) : bd (wr c ++ q) f = bd r (orF f (body.rangeG a b)) := by
  obtain ⟨x, t, e, h93, _, _⟩ := wr_head c
  rw [e] at h ⊢
  exact bd_item x (t ++ q) f h93 a b r h
theorem orF_none (f : Nat → Bool) : orF f (inR []) = f := by funext n; simp [orF, inR]
theorem ofNat_toNat (a : Nat) (h : a < 256) : (UInt8.ofNat a).toNat = a := by
  rw [UInt8.toNat_ofNat']; exact Nat.mod_eq_of_lt h
theorem rangeG_is (a b : Nat) (ha : a < 256) (hb : b < 256) (hab : a ≤ b) : body.rangeG (UInt8.ofNat a) (UInt8.ofNat b) = inR [(a, b)] := by
  funext n
  unfold body.rangeG
  rw [ofNat_toNat a ha, ofNat_toNat b hb, inR_one]
  rw [show decide (n < a + (b + 1 - a)) = decide (n ≤ b) by rw [decide_eq_decide]; omega]
theorem orF_assoc (f : Nat → Bool) (R S : List (Nat × Nat)) : orF (orF f (inR R)) (inR S) = orF f (inR (R ++ S)) := by
  funext n; simp [orF, inR_app, Bool.or_assoc]
theorem txt_head (R : List (Nat × Nat)) (r : List UInt8) (hr : okR r) : okR (txt R ++ r) := by
  cases R with
  | nil => simpa [txt] using hr
  | cons x R =>
    obtain ⟨h, t, e, _, _, h45⟩ := wr_head (UInt8.ofNat x.1)
    simp only [txt]
    unfold rt wn
    by_cases h1 : x.1 = x.2
    · rw [if_pos h1, e]; exact ⟨h, _, rfl, h45⟩
    · by_cases h2 : x.2 - x.1 = 1
      · rw [if_neg h1, if_pos h2, e]; exact ⟨h, _, rfl, h45⟩
      · rw [if_neg h1, if_neg h2, e]; exact ⟨h, _, rfl, h45⟩
theorem bd_txt : ∀ (R : List (Nat × Nat)) (r : List UInt8) (f : Nat → Bool), okR r → (∀ x ∈ R, x.1 ≤ x.2 ∧ x.2 < 256) → bd (txt R ++ r) f = bd r (orF f (inR R))
  | [], r, f, _, _ => by rw [orF_none]; rfl
  | (a, b) :: R, r, f, hr, h => by
    have hx := h (a, b) (List.mem_cons_self ..)
    simp only at hx
    have ih := bd_txt R r (orF f (inR [(a, b)])) hr (fun x hx => h x (List.mem_cons_of_mem _ hx))
    have hok := txt_head R r hr
    rw [orF_assoc] at ih
    rw [show txt ((a, b) :: R) ++ r = rt (a, b) ++ (txt R ++ r) by simp [txt]]
    show _ = bd r (orF f (inR ([(a, b)] ++ R)))
    rw [← ih]
    unfold rt wn
    simp only
    by_cases h1 : a = b
    · subst h1
      rw [if_pos rfl, bd_wr _ _ _ _ _ _ (itm_one _ _ hok), rangeG_is a a (by omega) (by omega) (by omega)]
    · by_cases h2 : b - a = 1
      · rw [if_neg h1, if_pos h2, List.append_assoc]
        have hok2 : okR (wr (UInt8.ofNat b) ++ (txt R ++ r)) := by
          obtain ⟨x, t, e, _, _, h45⟩ := wr_head (UInt8.ofNat b)
          rw [e]; exact ⟨x, _, rfl, h45⟩
        rw [bd_wr _ _ _ _ _ _ (itm_one _ _ hok2), bd_wr _ _ _ _ _ _ (itm_one _ _ hok), rangeG_is a a (by omega) (by omega) (by omega), rangeG_is b b (by omega) (by omega) (by omega), orF_assoc]
        congr 2
        funext n
        rw [inR_app, inR_one, inR_one, inR_one]
        rw [Bool.eq_iff_iff]; simp; omega
      · rw [if_neg h1, if_neg h2, List.append_assoc, List.append_assoc]
        have hab : UInt8.ofNat a ≤ UInt8.ofNat b := by rw [UInt8.le_iff_toNat_le, ofNat_toNat a (by omega), ofNat_toNat b (by omega)]; omega
        rw [bd_wr _ _ _ _ _ _ (itm_two _ _ _ hab), rangeG_is a b (by omega) (by omega) (by omega)]
theorem okR_end : okR [93] := ⟨93, [], rfl, by decide⟩
theorem ps_pr (f : Nat → Bool) : ∃ g, ps (pr f) = some g ∧ ∀ n, n < 256 → g n = f n := by
  unfold pr
  by_cases h : 128 < cntF f 256
  · rw [if_pos h]
    have hb := bd_txt (runsF (fun b => !f b) 256) [93] (fun _ => false) okR_end (fun x hx => by have := runs_le _ 256 x hx; omega)
    rw [bd_end] at hb
    refine ⟨noF (orF (fun _ => false) (inR (runsF (fun b => !f b) 256))), ?_, ?_⟩
    · unfold ps cls
      simp [hb]
    · intro n hn
      simp [noF, orF, runs_in, hn]
  · rw [if_neg h]
    have hb := bd_txt (runsF f 256) [93] (fun _ => false) okR_end (fun x hx => by have := runs_le _ 256 x hx; omega)
    rw [bd_end] at hb
    refine ⟨orF (fun _ => false) (inR (runsF f 256)), ?_, ?_⟩
    · have hne : ∀ (l : List UInt8), l = txt (runsF f 256) ++ [93] → cls (91 :: l) = bd l fun _ => false := by
        intro l hl
        cases l with
        | nil => simp at hl
        | cons d q =>
          have hd : d ≠ 94 := by
            cases hR : runsF f 256 with
            | nil => rw [hR] at hl; simp [txt] at hl; rw [hl.1]; decide
            | cons x R =>
              rw [hR] at hl
              obtain ⟨y, t, e, _, h94, _⟩ := wr_head (UInt8.ofNat x.1)
              simp only [txt] at hl
              unfold rt wn at hl
              by_cases h1 : x.1 = x.2
              · rw [if_pos h1, e] at hl; simp at hl; rw [hl.1]; exact h94
              · by_cases h2 : x.2 - x.1 = 1
                · rw [if_neg h1, if_pos h2, e] at hl; simp at hl; rw [hl.1]; exact h94
                · rw [if_neg h1, if_neg h2, e] at hl; simp at hl; rw [hl.1]; exact h94
          unfold cls
          simp [hd]
      unfold ps
      rw [List.append_assoc, List.singleton_append, hne _ rfl, hb]
    · intro n hn
      simp [orF, runs_in, hn]
theorem runs_congr {f g : Nat → Bool} : ∀ k, (∀ n, n < k → f n = g n) → runsF f k = runsF g k
  | 0, _ => rfl
  | k + 1, h => by
    have ih := runs_congr k (fun n hn => h n (by omega))
    have h1 := h k (by omega)
    have h2 := h (k - 1) (by omega)
    simp only [runsF, ih, h1, h2]
theorem pr_congr {f g : Nat → Bool} (h : ∀ n, n < 256 → f n = g n) : pr f = pr g := by
  unfold pr
  rw [cnt_congr h, runs_congr 256 h, runs_congr (f := fun b => !f b) (g := fun b => !g b) 256 (fun n hn => by rw [h n hn])]
theorem pr_less (f : Nat → Bool) (h : cntF f 256 < 128) : pr f = [91] ++ (txt (runsF f 256) ++ [93]) ∧ pr (fun b => !f b) = [91, 94] ++ (txt (runsF f 256) ++ [93]) := by
  have hn := cnt_not f 256
  unfold pr
  rw [if_neg (by omega), if_pos (by omega)]
  simp
theorem pr_more (f : Nat → Bool) (h : 128 < cntF f 256) : pr (fun b => !f b) = [91] ++ (txt (runsF (fun b => !f b) 256) ++ [93]) ∧ pr f = [91, 94] ++ (txt (runsF (fun b => !f b) 256) ++ [93]) := by
  have hn := cnt_not f 256
  unfold pr
  rw [if_neg (by omega), if_pos (by omega)]
  simp
end Go.Proofs.Ytennflnfjjhgpaa
