/- Package nfa, plain. -/
import Derived.Test.YtnhfeakndofokaaN1
import Derived.WalkKit
import Derived.Below
namespace Go.Proofs.Ytnhfeakndofokaa
set_option linter.unusedSimpArgs false
set_option linter.unusedVariables false
set_option maxRecDepth 100000
/- One state more, from which a free way leads to the start. -/
def more1 (st : Int) (ss : List Nst) : List Nst := ss ++ [⟨fun _ => 0, -1, [st], -1⟩]
theorem more_lt {st : Int} {ss : List Nst} {s : Nat} (h : s < ss.length) : (more1 st ss)[s]? = ss[s]? := by
  unfold more1; rw [List.getElem?_append_left h]
theorem more_last {st : Int} {ss : List Nst} : (more1 st ss)[ss.length]? = some ⟨fun _ => 0, -1, [st], -1⟩ := by
  unfold more1; simp
theorem more_fr {st : Int} {ss : List Nst} {s : Nat} (h : s < ss.length) : frOf (more1 st ss) s = frOf ss s := by unfold frOf; rw [more_lt h]
theorem more_to {st : Int} {ss : List Nst} {s : Nat} (h : s < ss.length) (has : (Nat → Int) → UInt8 → Bool) (c : UInt8) : toOf has (more1 st ss) c s = toOf has ss c s := by unfold toOf; rw [more_lt h]
theorem more_rl {st : Int} {ss : List Nst} {s : Nat} (h : s < ss.length) : rlOf (more1 st ss) s = rlOf ss s := by unfold rlOf; rw [more_lt h]
theorem more_rt {st : Int} {ss : List Nst} (hf : Fine ss) {a b : Nat} (ha : a < ss.length) : Rt (more1 st ss) a b ↔ Rt ss a b := by
  constructor
  · intro h
    have : Rt ss a b ∧ b < ss.length := by
      induction h with
      | refl => exact ⟨.refl _, ha⟩
      | step _ x hx hc ih =>
        rw [more_fr ih.2] at hx
        have h2 := Rt.step ih.1 x hx hc
        exact ⟨h2, h2.lt hf ha⟩
    exact this.1
  · intro h
    have : Rt (more1 st ss) a b ∧ b < ss.length := by
      induction h with
      | refl => exact ⟨.refl _, ha⟩
      | step h' x hx hc ih =>
        have h2 := (Rt.step h' x hx hc).lt hf ha
        exact ⟨.step ih.1 x (by rw [more_fr ih.2]; exact hx) hc, h2⟩
    exact this.1
theorem Rt.first {ss : List Nst} {a b : Nat} (h : Rt ss a b) : b = a ∨ ∃ x ∈ frOf ss a, Rt ss x.toNat b := by
  induction h with
  | refl => exact .inl rfl
  | step h' x hx hc ih =>
    rcases ih with rfl | ⟨y, hy, hr⟩
    · exact .inr ⟨x, hx, hc ▸ .refl _⟩
    · exact .inr ⟨y, hy, .step hr x hx hc⟩
theorem more_rt0 {st : Int} {ss : List Nst} (hf : Fine ss) (h0 : 0 ≤ st) (h1 : st < ss.length) {b : Nat} : Rt (more1 st ss) ss.length b ↔ b = ss.length ∨ Rt ss st.toNat b := by
  have hfr : frOf (more1 st ss) ss.length = [st] := by unfold frOf; rw [more_last]
  constructor
  · intro h
    rcases h.first with rfl | ⟨x, hx, hr⟩
    · exact .inl rfl
    · rw [hfr] at hx
      simp only [List.mem_singleton] at hx
      subst hx
      exact .inr ((more_rt hf (by omega)).1 hr)
  · rintro (rfl | h)
    · exact .refl _
    · exact Rt.trans (.step (.refl _) st (by rw [hfr]; simp) rfl) ((more_rt hf (by omega)).2 h)
theorem more_acc {has : (Nat → Int) → UInt8 → Bool} {st : Int} {ss : List Nst} (hf : Fine ss) : ∀ (x : List UInt8) {a b : Nat}, a < ss.length → (Acc has (more1 st ss) x a b ↔ Acc has ss x a b)
  | [], a, b, ha => more_rt hf ha
  | c :: r, a, b, ha => by
    constructor
    · rintro ⟨s, t, h1, h2, h3⟩
      have h1' := (more_rt hf ha).1 h1
      have hs := h1'.lt hf ha
      rw [more_to hs] at h2
      exact ⟨s, t, h1', h2, (more_acc hf r (hf.to _ _ _ _ h2)).1 h3⟩
    · rintro ⟨s, t, h1, h2, h3⟩
      have hs := h1.lt hf ha
      exact ⟨s, t, (more_rt hf ha).2 h1, by rw [more_to hs]; exact h2, (more_acc hf r (hf.to _ _ _ _ h2)).2 h3⟩
theorem more_acc0 {has : (Nat → Int) → UInt8 → Bool} {st : Int} {ss : List Nst} (hf : Fine ss) (h0 : 0 ≤ st) (h1 : st < ss.length) : ∀ (x : List UInt8) {b : Nat}, (Acc has (more1 st ss) x ss.length b ↔ (x = [] ∧ b = ss.length) ∨ Acc has ss x st.toNat b)
  | [], b => by
    show Rt _ _ _ ↔ _ ∨ Rt _ _ _
    rw [more_rt0 hf h0 h1]; simp
  | c :: r, b => by
    constructor
    · rintro ⟨s, t, g1, g2, g3⟩
      rcases (more_rt0 hf h0 h1).1 g1 with rfl | g1
      · unfold toOf at g2; rw [more_last] at g2; simp at g2
      · have hs := g1.lt hf (by omega : st.toNat < ss.length)
        rw [more_to hs] at g2
        exact .inr ⟨s, t, g1, g2, (more_acc hf r (hf.to _ _ _ _ g2)).1 g3⟩
    · rintro (⟨h, _⟩ | ⟨s, t, g1, g2, g3⟩)
      · cases h
      · have hs := g1.lt hf (by omega : st.toNat < ss.length)
        exact ⟨s, t, (more_rt0 hf h0 h1).2 (.inr g1), by rw [more_to hs]; exact g2, (more_acc hf r (hf.to _ _ _ _ g2)).2 g3⟩
theorem rules_congr {ss ss' : List Nst} {l l' : List Nat} (h : ∀ r : Nat, (∃ s ∈ l, rlOf ss s = r) ↔ ∃ s ∈ l', rlOf ss' s = r) : rulesOf ss l = rulesOf ss' l' := by
  unfold rulesOf
  congr 1
  refine List.filter_congr fun r _ => ?_
  rw [Bool.eq_iff_iff, List.any_eq_true, List.any_eq_true]
  simp only [decide_eq_true_eq]
  exact h r
theorem Acc.lt {has : (Nat → Int) → UInt8 → Bool} {ss : List Nst} (hf : Fine ss) : ∀ (x : List UInt8) {a b : Nat}, Acc has ss x a b → a < ss.length → b < ss.length
  | [], a, b, h, ha => Rt.lt hf (show Rt ss a b from h) ha
  | c :: r, a, b, ⟨s, t, _, h2, h3⟩, _ => Acc.lt hf r h3 (hf.to _ _ _ _ h2)
theorem more_fine {st : Int} {ss : List Nst} (hf : Fine ss) (h0 : 0 ≤ st) (h1 : st < ss.length) : Fine (more1 st ss) := by
  have hl : (more1 st ss).length = ss.length + 1 := by unfold more1; simp
  refine ⟨fun s x hx => ?_, fun has b s t ht => ?_⟩
  · rw [hl]
    by_cases hs : s < ss.length
    · rw [more_fr hs] at hx; have := hf.fr s x hx; omega
    · by_cases he : s = ss.length
      · subst he
        unfold frOf at hx; rw [more_last] at hx; simp at hx; subst hx; omega
      · unfold frOf at hx; rw [List.getElem?_eq_none (by omega)] at hx; cases hx
  · rw [hl]
    by_cases hs : s < ss.length
    · rw [more_to hs] at ht; have := hf.to _ _ _ _ ht; omega
    · by_cases he : s = ss.length
      · subst he
        unfold toOf at ht; rw [more_last] at ht; simp at ht
      · unfold toOf at ht; rw [List.getElem?_eq_none (by omega)] at ht; cases ht
theorem accL_more {has : (Nat → Int) → UInt8 → Bool} {st : Int} {ss : List Nst} (h : mayN st ss = true) (x : List UInt8) : accL has (ss.length : Nat) (more1 st ss) x = accL has st ss x := by
  obtain ⟨hf, h0, h1⟩ := mayN_fine h
  have hl : (more1 st ss).length = ss.length + 1 := by unfold more1; simp
  unfold accL
  refine rules_congr fun r => ?_
  rw [Int.toNat_natCast]
  constructor
  · rintro ⟨s, hs, hr⟩
    have hs' := (mem_acc (more_fine hf h0 h1) (by omega) x s).1 hs
    rcases (more_acc0 hf h0 h1 x).1 hs' with ⟨_, rfl⟩ | g
    · unfold rlOf at hr; rw [more_last] at hr; simp at hr; try omega
    · exact ⟨s, (mem_acc hf (by omega) x s).2 g, by rw [← hr, more_rl (g.lt hf x (by omega))]⟩
  · rintro ⟨s, hs, hr⟩
    have g := (mem_acc hf (by omega) x s).1 hs
    exact ⟨s, (mem_acc (more_fine hf h0 h1) (by omega) x s).2 ((more_acc0 hf h0 h1 x).2 (.inr g)), by rw [more_rl (g.lt hf x (by omega)), hr]⟩
theorem chkN_more {st : Int} {ss : List Nst} (h : chkN st ss = 0) (hb : ss.length + frees ss ≤ 300) : chkN (ss.length : Nat) (more1 st ss) = 0 := by
  have hm : mayN st ss = true := by
    unfold chkN at h
    split at h
    · cases h
    · split at h
      · assumption
      · cases h
  have hl : (more1 st ss).length = ss.length + 1 := by unfold more1; simp
  have hfr : frees (more1 st ss) = frees ss + 1 := by unfold more1; rw [frees_app]; simp [frees]
  have ht : tooM (more1 st ss) = false := by
    unfold tooM; rw [hl, hfr]; simp; omega
  unfold chkN
  rw [ht]
  unfold mayN at hm ⊢
  simp only [Bool.and_eq_true, decide_eq_true_eq, List.all_eq_true] at hm
  obtain ⟨⟨h1, h2⟩, h3⟩ := hm
  have hall : (more1 st ss).all (stOk (more1 st ss).length) = true := by
    rw [List.all_eq_true, hl]
    intro y hy
    unfold more1 at hy
    rcases List.mem_append.1 hy with hy | hy
    · have := h3 y hy
      unfold stOk at this ⊢
      simp only [Bool.and_eq_true, decide_eq_true_eq, List.all_eq_true] at this ⊢
      exact ⟨by have := this.1; omega, this.2.1, fun x hx => ⟨(this.2.2 x hx).1, by have := (this.2.2 x hx).2; omega⟩⟩
    · simp only [List.mem_singleton] at hy
      subst hy
      unfold stOk
      simp; omega
  rw [hall, hl]
  simp
  omega
end Go.Proofs.Ytnhfeakndofokaa
