/- Package raws. -/
import Derived.Test.YtbdbnjbafampaaaRa
import Derived.WalkKit
import Derived.Below
import Derived.Laws.AppendOwn
import Derived.Laws.OwnMore
import Derived.Lib.Hide
import Derived.Lib.Walk
import Derived.Deep.MidRow
import Derived.Deep.WholeRow
namespace Go.Proofs.Ytbdbnjbafampaaa
set_option linter.unusedSimpArgs false
set_option linter.unusedVariables false
set_option maxRecDepth 100000
open Go.RowKit
/- Pieces: parts, what stays ahead of an edit: plain. -/
theorem look_eq {d : Df} (hd : MayD d) (ks : Nat → Int) {l : List Nat} (hne : l ≠ []) : (pcF ks (ofF d l)).2.2 = lookF d l := by
  rw [(pcF_len hd ks hne).2.2.2]; rfl
/-- k pieces of l take n bytes. -/
structure PcI (d : Df) (ks : Nat → Int) (l : List Nat) (k n : Nat) : Prop where
  hn : n ≤ l.length
  hk : k ≤ (pcA d ks l).length
  drop : (pcA d ks l).drop k = pcA d ks (l.drop n)
theorem PcI.zero (d : Df) (ks : Nat → Int) (l : List Nat) : PcI d ks l 0 0 := ⟨Nat.zero_le _, Nat.zero_le _, rfl⟩
theorem PcI.more {d : Df} (hd : MayD d) {ks : Nat → Int} {l : List Nat} {k n : Nat} (h : PcI d ks l k n) (hk : k < (pcA d ks l).length) : n < l.length := by
  by_cases hn : n < l.length
  · exact hn
  · have := h.drop
    rw [List.drop_eq_nil_of_le (as := l) (by omega), pcA_nil] at this
    have := List.drop_eq_nil_iff.1 this
    omega
theorem PcI.get {d : Df} (hd : MayD d) {ks : Nat → Int} {l : List Nat} {k n : Nat} (h : PcI d ks l k n) (hk : k < (pcA d ks l).length) : (pcA d ks l)[k] = pcF ks (ofF d (l.drop n)) ∧ PcI d ks l (k + 1) (n + (pcF ks (ofF d (l.drop n))).2.1) ∧ l.drop n ≠ [] := by
  have hn := h.more hd hk
  have hne : l.drop n ≠ [] := by
    intro e
    have := congrArg List.length e
    rw [List.length_drop] at this
    simp at this; omega
  have h1 := h.drop
  rw [List.drop_eq_getElem_cons hk, pcA_cons hd ks hne] at h1
  injection h1 with h1 h2
  have h3 := pcF_len hd ks hne
  rw [List.length_drop] at h3
  refine ⟨h1, ⟨by omega, by omega, ?_⟩, hne⟩
  rw [h2, List.drop_drop]
theorem PcI.end_iff {d : Df} (hd : MayD d) {ks : Nat → Int} {l : List Nat} {k n : Nat} (h : PcI d ks l k n) : k < (pcA d ks l).length ↔ n < l.length := by
  refine ⟨h.more hd, fun hn => ?_⟩
  by_cases hk : k < (pcA d ks l).length
  · exact hk
  · have h1 := h.drop
    rw [List.drop_eq_nil_of_le (by omega)] at h1
    have hne : l.drop n ≠ [] := by
      intro e
      have := congrArg List.length e
      rw [List.length_drop] at this
      simp at this; omega
    rw [pcA_cons hd ks hne] at h1
    cases h1
/-- What was looked at ahead of S: the same piece. -/
theorem PcI.keep {d : Df} (hd : MayD d) {ks : Nat → Int} {l l' : List Nat} {S k n : Nat} (hS : l.take S = l'.take S) (h1 : S ≤ l.length) (h2 : S ≤ l'.length) (h : PcI d ks l k n) (h' : PcI d ks l' k n) (hk : k < (pcA d ks l).length) (hl : n + (pcA d ks l)[k].2.2 ≤ S) :
    ∃ hk' : k < (pcA d ks l').length, (pcA d ks l')[k] = (pcA d ks l)[k] ∧ n + (pcA d ks l)[k].2.1 ≤ S ∧ PcI d ks l (k + 1) (n + (pcA d ks l)[k].2.1) ∧ PcI d ks l' (k + 1) (n + (pcA d ks l)[k].2.1) := by
  obtain ⟨g1, g2, g3⟩ := h.get hd hk
  rw [g1] at hl ⊢
  have g4 := pcF_len hd ks g3
  have g5 := look_eq hd ks g3
  have g6 := lookF_pos d (l.drop n)
  have hn' : n < l'.length := by omega
  have hk' := (h'.end_iff hd).2 hn'
  obtain ⟨i1, i2, i3⟩ := h'.get hd hk'
  have e : ofF d (l'.drop n) = ofF d (l.drop n) := by
    refine ofF_take (m := S - n) ?_ (by rw [List.length_drop]; omega) (by rw [List.length_drop]; omega) (by omega)
    rw [List.take_drop, List.take_drop, show n + (S - n) = S by omega, hS]
  rw [e] at i1 i2
  exact ⟨hk', i1, by omega, g2, i2⟩
end Go.Proofs.Ytbdbnjbafampaaa
