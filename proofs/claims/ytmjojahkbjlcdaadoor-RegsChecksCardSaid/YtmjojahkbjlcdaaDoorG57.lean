import Derived.Test.YtmjojahkbjlcdaaDoorProg
import Derived.Test.YtmjojahkbjlcdaaDoorX3
import Derived.Test.YtmjojahkbjlcdaaDoorX4
import Derived.WalkKit
import Derived.WalkLawsBesides
import Derived.WalkSpells
import Derived.Outline
import Derived.Lib.Walk
import Derived.Lib.Hide
import Derived.RegionTactic
import Derived.LoopTactic
import Derived.Below
import Derived.IntWalk
import Derived.Deep.QuietTactic
import Derived.BigQuiet
import Derived.Test.YtmjojahkbjlcdaaDoorG56
namespace Go.Proofs.YtmjojahkbjlcdaaDoor
set_option linter.unusedSimpArgs false
set_option linter.unusedVariables false
set_option maxRecDepth 100000
open Go.RowKit

/- What was read is xs reading makes it; trees that are the same but for letters that do not count. -/
def NfF (f : List UInt8 → Except (List UInt8) (RT × List UInt8)) : Prop := ∀ l t r, f l = .ok (t, r) → nfT t
theorem nf_set (u : Nat → Int) : nfT (setT u) := by unfold setT; rw [nfT, nfL]; exact ⟨.inl ⟨.inr rfl, rfl⟩, trivial⟩
theorem nf_one {k : Int} {t : RT} (hk : k = 5 ∨ k = 6 ∨ k = 7) (h : nfT t) : nfT (.mk k u0 [t]) := by
  rw [nfT, nfL, nfL]
  exact ⟨.inr (.inr ⟨hk, rfl⟩), h, trivial⟩
theorem nfl_snoc : ∀ {ts : List RT} {t : RT}, nfL ts → nfT t → nfL (ts ++ [t])
  | [], t, _, g => by rw [List.nil_append, nfL, nfL]; exact ⟨g, trivial⟩
  | a :: ts, t, h, g => by
    rw [nfL] at h
    rw [List.cons_append, nfL]
    exact ⟨h.1, nfl_snoc h.2 g⟩
theorem nf_join {k : Int} {ts : List RT} (hk : k = 3 ∨ k = 4) (hn : ts ≠ []) (h : nfL ts) : nfT (joinT k ts) := by
  match ts, hn, h with
  | [t], _, h => rw [nfL] at h; exact h.1
  | a :: b :: ts, hn, h =>
    show nfT (.mk k u0 (a :: b :: ts))
    rw [nfT]
    exact ⟨.inr (.inl ⟨hk, by simp⟩), h⟩
theorem nf_atom {f : List UInt8 → Except (List UInt8) (RT × List UInt8)} (hf : NfF f) : NfF (atomF f) := fun l t r h => by
  unfold atomF at h
  split at h
  · cases hc : f l.tail with
    | error e => rw [hc] at h; cases h
    | ok v =>
      obtain ⟨t', q⟩ := v
      rw [hc] at h
      cases q with
      | nil => cases h
      | cons d q => simp only at h; cases h; exact hf _ _ _ hc
  · split at h
    · cases hc : csl l with
      | error e => rw [hc] at h; cases h
      | ok v =>
        obtain ⟨v, q⟩ := v
        rw [hc] at h
        cases h
        exact nf_set _
    · split at h
      · cases h; exact nf_set _
      · cases hc : sgl l with
        | error e => rw [hc] at h; cases h
        | ok v =>
          obtain ⟨c, q⟩ := v
          rw [hc] at h
          cases h
          exact nf_set _
theorem nf_reps : ∀ (l : List UInt8) (t : RT), nfT t → nfT (reps t l).1
  | [], t, h => h
  | c :: r, t, h => by
    rw [reps]
    by_cases hc : rps.contains c = true
    · rw [if_pos hc]; exact nf_reps r _ (nf_one (rps_kind hc) h)
    · rw [if_neg hc]; exact h
theorem nf_thing {f : List UInt8 → Except (List UInt8) (RT × List UInt8)} (hf : NfF f) : NfF (thingF f) := fun l t r h => by
  unfold thingF at h
  cases hc : atomF f l with
  | error e => rw [hc] at h; cases h
  | ok v =>
    obtain ⟨t', q⟩ := v
    rw [hc] at h
    simp only at h
    have := nf_reps q t' (nf_atom hf _ _ _ hc)
    cases h2 : reps t' q with
    | mk a b => rw [h2] at h this; cases h; exact this
theorem nf_thgs {f : List UInt8 → Except (List UInt8) (RT × List UInt8)} (hf : NfF f) : ∀ (k : Nat) (ts ts' : List RT) (l r : List UInt8), nfL ts → thgs f k ts l = .ok (ts', r) → nfL ts'
  | 0, ts, ts', l, r, _, h => by simp [thgs] at h
  | k + 1, ts, ts', l, r, hg, h => by
    cases l with
    | nil =>
      have h' : (Except.ok (ts, []) : Except (List UInt8) (List RT × List UInt8)) = .ok (ts', r) := h
      cases h'; exact hg
    | cons c q =>
      rw [thgs] at h
      by_cases hc : ([124, 41] : List UInt8).contains c = true
      · rw [if_pos hc] at h; cases h; exact hg
      · rw [if_neg hc] at h
        cases ht : thingF f (c :: q) with
        | error e => rw [ht] at h; cases h
        | ok v =>
          obtain ⟨t, q2⟩ := v
          rw [ht] at h
          exact nf_thgs hf k _ _ _ _ (nfl_snoc hg (nf_thing hf _ _ _ ht)) h
theorem nf_row {f : List UInt8 → Except (List UInt8) (RT × List UInt8)} (hf : NfF f) : NfF (rowF f) := fun l t r h => by
  unfold rowF at h
  cases hc : thgs f (l.length + 1) [] l with
  | error e => rw [hc] at h; cases h
  | ok v =>
    obtain ⟨ts, q⟩ := v
    rw [hc] at h
    cases h
    have := nf_thgs hf _ _ _ _ _ (by rw [nfL]; trivial) hc
    cases ts with
    | nil => show nfT (.mk 1 u0 []); rw [nfT, nfL]; exact ⟨.inl ⟨.inl rfl, rfl⟩, trivial⟩
    | cons a ts => exact nf_join (.inl rfl) (by simp) this
theorem nf_alts {f : List UInt8 → Except (List UInt8) (RT × List UInt8)} (hf : NfF f) : ∀ (k : Nat) (ts ts' : List RT) (l r : List UInt8), nfL ts → ts ≠ [] → alts f k ts l = .ok (ts', r) → nfL ts' ∧ ts' ≠ []
  | 0, ts, ts', l, r, _, _, h => by simp [alts] at h
  | k + 1, ts, ts', l, r, hg, hn, h => by
    rw [alts] at h
    split at h
    · cases ht : rowF f l.tail with
      | error e => rw [ht] at h; cases h
      | ok v =>
        obtain ⟨t, q⟩ := v
        rw [ht] at h
        exact nf_alts hf k _ _ _ _ (nfl_snoc hg (nf_row hf _ _ _ ht)) (by simp) h
    · cases h; exact ⟨hg, hn⟩
theorem nf_choice {f : List UInt8 → Except (List UInt8) (RT × List UInt8)} (hf : NfF f) : NfF (choiceF f) := fun l t r h => by
  unfold choiceF at h
  cases ht : rowF f l with
  | error e => rw [ht] at h; cases h
  | ok v =>
    obtain ⟨t', q⟩ := v
    rw [ht] at h
    simp only at h
    cases ha : alts f (q.length + 1) [t'] q with
    | error e => rw [ha] at h; cases h
    | ok v =>
      obtain ⟨ts, q2⟩ := v
      rw [ha] at h
      cases h
      have g := nf_row hf _ _ _ ht
      obtain ⟨h1, h2⟩ := nf_alts hf _ _ _ _ _ (nfl_snoc (ts := []) (by rw [nfL]; trivial) g) (by simp) ha
      exact nf_join (.inr rfl) h2 h1
theorem nf_chc : ∀ k, NfF (chc k)
  | 0 => fun l t r h => by simp [chc] at h
  | k + 1 => nf_choice (nf_chc k)
theorem nf_whole {l : List UInt8} {t : RT} (h : wholeF l = .ok t) : nfT t := by
  have := chc_of_whole h
  exact nf_chc _ _ _ _ this
mutual
/-- The same but for letters that do not count. -/
def TeT : RT → RT → Prop
  | .mk k u ps, .mk k' u' ps' => k = k' ∧ (∀ i, i < 4 → u i = u' i) ∧ TeL ps ps'
def TeL : List RT → List RT → Prop
  | [], [] => True
  | a :: xs, b :: ys => TeT a b ∧ TeL xs ys
  | [], _ :: _ => False
  | _ :: _, [] => False
end
theorem TeL.len : ∀ {xs ys : List RT}, TeL xs ys → xs.length = ys.length
  | [], [], _ => rfl
  | a :: xs, b :: ys, h => by rw [TeL] at h; simp [TeL.len h.2]
  | [], _ :: _, h => by rw [TeL] at h; exact h.elim
  | _ :: _, [], h => by rw [TeL] at h; exact h.elim
theorem TeL.get : ∀ {xs ys : List RT}, TeL xs ys → ∀ (i : Nat) (h : i < xs.length) (h' : i < ys.length), TeT xs[i] ys[i]
  | a :: xs, b :: ys, h, 0, _, _ => by rw [TeL] at h; exact h.1
  | a :: xs, b :: ys, h, i + 1, h1, h2 => by rw [TeL] at h; exact TeL.get h.2 i (by simpa using h1) (by simpa using h2)
  | [], [], h, i, h1, _ => by simp at h1
  | [], _ :: _, h, _, _, _ => by rw [TeL] at h; exact h.elim
  | _ :: _, [], h, _, _, _ => by rw [TeL] at h; exact h.elim
theorem nodeC_te {k : Int} {u u' : Nat → Int} (h : ∀ i, i < 4 → u i = u' i) (s : Value) : nodeC k u s = nodeC k u' s := by
  unfold nodeC
  rw [h 0 (by omega), h 1 (by omega), h 2 (by omega), h 3 (by omega)]
theorem rv_te {D : Nat → Prop} {w : World} : ∀ {t : RT} {v : Value}, RV D w t v → ∀ t', TeT t t' → RV D w t' v := by
  intro t v h
  induction h with
  | leaf k u p c =>
    rintro ⟨k', u', ps'⟩ ht
    rw [TeT] at ht
    obtain ⟨rfl, hu, hl⟩ := ht
    have := hl.len
    obtain rfl : ps' = [] := List.length_eq_zero_iff.1 (by simpa using this.symm)
    rw [nodeC_te hu]
    exact .leaf k u' p c
  | node k u ps b o c xs hD hn hx hc ih =>
    rintro ⟨k', u', ps'⟩ ht
    rw [TeT] at ht
    obtain ⟨rfl, hu, hl⟩ := ht
    have hln := hl.len
    rw [nodeC_te hu, hln]
    exact .node k u' ps' b o c xs hD (fun e => hn (List.length_eq_zero_iff.1 (by rw [hln, e]; rfl))) (fun i hi => ih i (by omega) _ (hl.get i (by omega) hi)) (fun i hi => hc i (by omega))
mutual
theorem cn_te : ∀ (t : RT), nfT t → Gd t → TeT (cnT t) t
  | .mk k u ps, hn, hg => by
    obtain ⟨hm, ho⟩ := hg
    rw [mayB, Bool.and_eq_true, Bool.and_eq_true] at hm
    rw [okT] at ho
    rw [nfT] at hn
    by_cases hk : k = 2
    · subst hk
      rw [cnT, if_pos rfl, TeT]
      refine ⟨rfl, rdU_is (ho.1 rfl), ?_⟩
      have : ps = [] := by
        rcases hn.1 with ⟨_, h⟩ | ⟨h, _⟩ | ⟨h, _⟩
        · exact h
        · omega
        · omega
      rw [this, TeL]; trivial
    · rw [cn_ne hk, TeT]
      refine ⟨rfl, ?_, cnL_te ps hn.2 ⟨hm.2, ho.2⟩⟩
      have hz : zeroU u = true := by
        have := hm.1.2
        rw [show (k == 2) = false by simpa using hk, Bool.false_or] at this
        exact this
      unfold zeroU at hz
      simp only [Bool.and_eq_true, beq_iff_eq] at hz
      intro i hi
      rcases (by omega : i = 0 ∨ i = 1 ∨ i = 2 ∨ i = 3) with rfl | rfl | rfl | rfl
      · exact hz.1.symm
      · exact hz.2.1.symm
      · exact hz.2.2.1.symm
      · exact hz.2.2.2.symm
theorem cnL_te : ∀ (ts : List RT), nfL ts → GdL ts → TeL (cnL ts) ts
  | [], _, _ => by rw [cnL, TeL]; trivial
  | t :: ts, hn, hg => by
    obtain ⟨hm, ho⟩ := hg
    rw [mayL, Bool.and_eq_true] at hm
    rw [okL] at ho
    rw [nfL] at hn
    rw [cnL, TeL]
    exact ⟨cn_te t hn.1 ⟨hm.1, ho.1⟩, cnL_te ts hn.2 ⟨hm.2, ho.2⟩⟩
end
mutual
theorem te_dep : ∀ {a b : RT}, TeT a b → dep a = dep b
  | .mk k u ps, .mk k' u' ps', h => by rw [TeT] at h; rw [dep, dep, teL_dep h.2.2]
theorem teL_dep : ∀ {xs ys : List RT}, TeL xs ys → depL xs = depL ys
  | [], [], _ => rfl
  | a :: xs, b :: ys, h => by rw [TeL] at h; rw [depL, depL, te_dep h.1, teL_dep h.2]
  | [], _ :: _, h => by rw [TeL] at h; exact h.elim
  | _ :: _, [], h => by rw [TeL] at h; exact h.elim
end
end Go.Proofs.YtmjojahkbjlcdaaDoor
