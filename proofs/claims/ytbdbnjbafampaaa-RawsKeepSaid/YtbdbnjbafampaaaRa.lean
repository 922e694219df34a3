/- Package raws. -/
import Derived.Test.YtbdbnjbafampaaaEa
import Derived.WalkKit
import Derived.Below
import Derived.Laws.AppendOwn
import Derived.Laws.OwnMore
import Derived.Lib.Hide
import Derived.Lib.Walk
import Derived.Deep.MidRow
import Derived.Deep.WholeRow
namespace Go.Proofs.Ytbdbnjbafampaaa
set_option linter.unusedSimpArgs false
set_option linter.unusedVariables false
set_option maxRecDepth 100000
open Go.RowKit
/- Pieces: plain. -/
/-- The piece of what was found. -/
def pcF (ks : Nat → Int) (m : Int × Nat × Nat) : Int × Nat × Nat := if m.1 < 0 then (23, 1, m.2.2) else (ks m.1.toNat, m.2.1, m.2.2)
def pcs (d : Df) (ks : Nat → Int) : Nat → List Nat → List (Int × Nat × Nat)
  | 0, _ => []
  | k + 1, l => if l = [] then [] else pcF ks (ofF d l) :: pcs d ks k (l.drop (pcF ks (ofF d l)).2.1)
/-- All pieces of a text. -/
def pcA (d : Df) (ks : Nat → Int) (l : List Nat) : List (Int × Nat × Nat) := pcs d ks l.length l
theorem longR_pos (d : Df) (l : List Nat) : ∀ n, (0 ≤ (longR d l n).1 → 1 ≤ (longR d l n).2) ∧ (longR d l n).2 ≤ n ∧ ((longR d l n).1 < 0 → (longR d l n) = (-1, 0))
  | 0 => ⟨fun h => by simp [longR] at h, by simp [longR], fun _ => rfl⟩
  | n + 1 => by
    unfold longR
    split
    · rename_i h
      exact ⟨fun _ => by simp, by simp, fun h2 => by simp at h2; omega⟩
    · obtain ⟨h1, h2, h3⟩ := longR_pos d l n
      exact ⟨h1, by omega, h3⟩
theorem longR_rule (d : Df) (l : List Nat) (hd : MayD d) : ∀ n, (longR d l n).1 < 48 ∧ ∀ m : Int, (∀ r ∈ d.rl, r < m) → 0 ≤ (longR d l n).1 → (longR d l n).1 < m
  | 0 => ⟨by simp [longR], fun m _ h => by simp [longR] at h⟩
  | n + 1 => by
    unfold longR
    split
    · rename_i h
      have key : ∀ m : Int, (∀ r ∈ d.rl, r < m) → rlAt d (walkD d d.st (l.take (n + 1))) < m := fun m hm => by
        unfold rlAt at h ⊢
        split at h
        · simp at h
        · split at h
          · simp at h
          · rename_i h1 h2
            rw [if_neg h1, if_neg h2]
            rw [List.getD_eq_getElem?_getD] at h2 ⊢
            cases hc : d.rl[(walkD d d.st (l.take (n + 1))).toNat]? with
            | none => rw [hc] at h2; simp at h2
            | some x => simpa using hm x (List.mem_of_getElem? hc)
      exact ⟨key 48 hd.rl, fun m hm _ => key m hm⟩
    · exact longR_rule d l hd n
theorem lookR_ge (d : Df) (l : List Nat) : ∀ m n, n ≤ lookR d l m n ∧ lookR d l m n ≤ n + m
  | 0, n => by simp [lookR]
  | m + 1, n => by
    unfold lookR
    split
    · omega
    · have := lookR_ge d l m (n + 1); omega
theorem lookF_pos (d : Df) (l : List Nat) : 1 ≤ lookF d l ∧ lookF d l ≤ l.length + 1 := by
  have := lookR_ge d l l.length 1
  unfold lookF; omega
/-- What is told of a place: it takes a byte at least, and no more than are left. -/
theorem ofF_facts {d : Df} (hd : MayD d) {l : List Nat} (hne : l ≠ []) : -1 ≤ (ofF d l).1 ∧ (ofF d l).1 < 48 ∧ (0 ≤ (ofF d l).1 → 1 ≤ (ofF d l).2.1) ∧ (ofF d l).2.1 ≤ l.length ∧ (ofF d l).2.1 ≤ (ofF d l).2.2 ∧ 1 ≤ (ofF d l).2.2 ∧ (ofF d l).2.2 ≤ l.length + 1 := by
  obtain ⟨h1, h2, h3⟩ := longR_pos d (l.take (min (lookF d l) l.length)) (min (lookF d l) l.length)
  have h4 := (longR_rule d (l.take (min (lookF d l) l.length)) hd (min (lookF d l) l.length)).1
  have h5 := lookF_pos d l
  unfold ofF
  refine ⟨?_, h4, h1, by simp only []; omega, by simp only []; omega, h5.1, h5.2⟩
  by_cases hn : (longR d (l.take (min (lookF d l) l.length)) (min (lookF d l) l.length)).1 < 0
  · rw [h3 hn]; simp
  · simp only []; omega
theorem ofF_rule {d : Df} (hd : MayD d) {l : List Nat} {m : Int} (hm : ∀ r ∈ d.rl, r < m) (h : 0 ≤ (ofF d l).1) : (ofF d l).1 < m :=
  (longR_rule d (l.take (min (lookF d l) l.length)) hd (min (lookF d l) l.length)).2 m hm h
theorem pcF_len {d : Df} (hd : MayD d) (ks : Nat → Int) {l : List Nat} (hne : l ≠ []) : 1 ≤ (pcF ks (ofF d l)).2.1 ∧ (pcF ks (ofF d l)).2.1 ≤ l.length ∧ (pcF ks (ofF d l)).2.1 ≤ (ofF d l).2.2 ∧ (pcF ks (ofF d l)).2.2 = (ofF d l).2.2 := by
  obtain ⟨h1, h2, h3, h4, h5, h6, h7⟩ := ofF_facts hd hne
  have hl : 0 < l.length := List.length_pos_iff.2 hne
  unfold pcF
  split
  · exact ⟨Nat.le_refl _, hl, h6, rfl⟩
  · rename_i h
    exact ⟨h3 (by omega), h4, h5, rfl⟩
theorem pcs_fuel {d : Df} (hd : MayD d) (ks : Nat → Int) : ∀ (k k' : Nat) (l : List Nat), l.length ≤ k → l.length ≤ k' → pcs d ks k l = pcs d ks k' l
  | 0, 0, l, _, _ => rfl
  | 0, k' + 1, l, h, _ => by
    have : l = [] := List.length_eq_zero_iff.1 (by omega)
    subst this; simp [pcs]
  | k + 1, 0, l, _, h => by
    have : l = [] := List.length_eq_zero_iff.1 (by omega)
    subst this; simp [pcs]
  | k + 1, k' + 1, l, h, h' => by
    rw [pcs, pcs]
    by_cases hl : l = []
    · rw [if_pos hl, if_pos hl]
    · rw [if_neg hl, if_neg hl]
      have := pcF_len hd ks hl
      rw [pcs_fuel hd ks k k' _ (by rw [List.length_drop]; omega) (by rw [List.length_drop]; omega)]
theorem pcA_nil (d : Df) (ks : Nat → Int) : pcA d ks [] = [] := rfl
theorem pcA_cons {d : Df} (hd : MayD d) (ks : Nat → Int) {l : List Nat} (hne : l ≠ []) : pcA d ks l = pcF ks (ofF d l) :: pcA d ks (l.drop (pcF ks (ofF d l)).2.1) := by
  unfold pcA
  obtain ⟨m, hm⟩ : ∃ m, l.length = m + 1 := ⟨l.length - 1, by have := List.length_pos_iff.2 hne; omega⟩
  have := pcF_len hd ks hne
  rw [hm, pcs, if_neg hne, pcs_fuel hd ks m _ _ (by rw [List.length_drop]; omega) (Nat.le_refl _)]
theorem pcA_len {d : Df} (hd : MayD d) (ks : Nat → Int) : ∀ (n : Nat) (l : List Nat), l.length ≤ n → (pcA d ks l).length ≤ l.length
  | 0, l, h => by
    have : l = [] := List.length_eq_zero_iff.1 (by omega)
    subst this; simp [pcA_nil]
  | n + 1, l, h => by
    by_cases hl : l = []
    · subst hl; simp [pcA_nil]
    · have h1 := pcF_len hd ks hl
      rw [pcA_cons hd ks hl, List.length_cons]
      have := pcA_len hd ks n (l.drop (pcF ks (ofF d l)).2.1) (by rw [List.length_drop]; omega)
      rw [List.length_drop] at this
      omega
theorem pcs_congr (d : Df) {ks ks' : Nat → Int} {m : Nat} (hm : ∀ r ∈ d.rl, r < (m : Int)) (hd : MayD d) (hk : ∀ i, i < m → ks i = ks' i) : ∀ (n : Nat) (l : List Nat), pcs d ks n l = pcs d ks' n l
  | 0, _ => rfl
  | n + 1, l => by
    have e : pcF ks (ofF d l) = pcF ks' (ofF d l) := by
      unfold pcF
      split
      · rfl
      · rename_i h
        have := ofF_rule hd hm (l := l) (by omega)
        rw [hk _ (by omega)]
    rw [pcs, pcs, e, pcs_congr d hm hd hk n]
/-- Only what was looked at decides. -/
theorem lookR_stop (d : Df) (l : List Nat) : ∀ m n, lookR d l m n < n + m → stopAt d l (lookR d l m n) = true ∧ ∀ i, n ≤ i → i < lookR d l m n → stopAt d l i = false
  | 0, n, h => by simp [lookR] at h
  | m + 1, n, h => by
    unfold lookR at h ⊢
    by_cases hs : stopAt d l n = true
    · rw [if_pos hs]; exact ⟨hs, fun i h1 h2 => by omega⟩
    · rw [if_neg hs] at h ⊢
      obtain ⟨h1, h2⟩ := lookR_stop d l m (n + 1) (by omega)
      refine ⟨h1, fun i h3 h4 => ?_⟩
      by_cases e : i = n
      · subst e; simpa using hs
      · exact h2 i (by omega) h4
theorem stopAt_take {d : Df} {l l' : List Nat} {m : Nat} (h : l.take m = l'.take m) {i : Nat} (hi : i ≤ m) : stopAt d l i = stopAt d l' i := by
  have e : l.take i = l'.take i := by
    have := congrArg (List.take i) h
    rwa [List.take_take, List.take_take, Nat.min_eq_left hi] at this
  unfold stopAt; rw [e]
theorem ofF_take {d : Df} {l l' : List Nat} {m : Nat} (h : l.take m = l'.take m) (hm : m ≤ l.length) (hm' : m ≤ l'.length) (hk : lookF d l ≤ m) : ofF d l' = ofF d l := by
  have h1 := lookF_pos d l
  obtain ⟨j, hj⟩ : ∃ j, lookF d l = j := ⟨_, rfl⟩
  have hst := lookR_stop d l l.length 1 (by unfold lookF at hk; omega)
  have hj2 : lookR d l l.length 1 = j := hj
  rw [hj2] at hst
  have e : lookF d l' = j := by
    unfold lookF
    rw [lookR_skip d l' l'.length 1 j (by omega) (by omega) (fun i h1 h2 => by rw [← stopAt_take h (by omega)]; exact hst.2 i h1 h2)]
    obtain ⟨q, hq⟩ : ∃ q, 1 + l'.length - j = q + 1 := ⟨l'.length - j, by omega⟩
    rw [hq, lookR, if_pos (by rw [← stopAt_take h (by omega)]; exact hst.1)]
  unfold ofF
  rw [e, hj, Nat.min_eq_left (by omega), Nat.min_eq_left (by omega)]
  have e2 : l'.take j = l.take j := by
    have := congrArg (List.take j) h
    rw [List.take_take, List.take_take, Nat.min_eq_left (by omega)] at this
    exact this.symm
  rw [e2]
end Go.Proofs.Ytbdbnjbafampaaa
