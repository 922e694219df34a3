/- Texts of package regs, one behind the other. -/
import Derived.Test.YtemkppjdfjoipaaW12
import Derived.WalkKit
import Derived.Below
import Derived.Laws.AppendOwn
import Derived.Laws.OwnMore
import Derived.Lib.Hide
import Derived.Lib.Walk
import Derived.Deep.MidRow
import Derived.Deep.WholeRow
import Derived.Test.YtemkppjdfjoipaaW8
import Derived.Test.YtemkppjdfjoipaaW7
import Derived.Deep.SlicePairs
import Derived.Deep.Slices
import Derived.Laws.IdiomArrays
import Derived.OpenShut
import Derived.WideBlind
import Derived.Great.BuildSlice
import Derived.Maps.OwnSet
import Derived.Maps.OwnOps
import Derived.Maps.Own
import Derived.DeepKeys5
import Derived.BigFrame
import Derived.WalkMore
import Derived.ScopeJumps
import Derived.StillTailTactics
import Derived.Stop.BytesEq
import Derived.WalkLawsBesides
import Derived.WalkSpells
import Derived.Outline
import Derived.Lib.Slices
import Derived.Lib.Strings
import Derived.RegionTactic
import Derived.LoopTactic
import Derived.IntWalk
import Derived.Deep.QuietTactic
import Derived.BigQuiet
import Derived.Maps.AppendAt
import Derived.Laws.Rows
import Derived.Laws.Tables
import Derived.Deep.Cut
import Derived.Deep.CutRange
import Derived.Lib.SliceRun
import Derived.Laws.MakeOwn
import Derived.Deep.RegionLaw
import Derived.Deep.RegionLawGrows
import Derived.Deep.RegionHeld3
import Derived.RegionCalls
import Derived.Deep.RegionWith
import Derived.Deep.Light
import Derived.Laws.CopyOwn
import Derived.Laws.ResultCell
section
/- Package raws. -/
namespace Go.Proofs.Ytemkppjdfjoipaa
set_option linter.unusedSimpArgs false
set_option linter.unusedVariables false
set_option maxRecDepth 100000
open Go.RowKit
/- Pieces: plain. -/
/-- The piece of what was found. -/
def pcF (ks : Nat → Int) (m : Int × Nat × Nat) : Int × Nat × Nat := if m.1 < 0 then (23, 1, m.2.2) else (ks m.1.toNat, m.2.1, m.2.2)
def pcs (d : Df) (ks : Nat → Int) : Nat → List Nat → List (Int × Nat × Nat)
  | 0, _ => []
  | k + 1, l => if l = [] then [] else pcF ks (ofF d l) :: pcs d ks k (l.drop (pcF ks (ofF d l)).2.1)
/-- All pieces of a text. -/
def pcA (d : Df) (ks : Nat → Int) (l : List Nat) : List (Int × Nat × Nat) := pcs d ks l.length l
theorem longR_pos (d : Df) (l : List Nat) : ∀ n, (0 ≤ (longR d l n).1 → 1 ≤ (longR d l n).2) ∧ (longR d l n).2 ≤ n ∧ ((longR d l n).1 < 0 → (longR d l n) = (-1, 0))
  | 0 => ⟨fun h => by simp [longR] at h, by simp [longR], fun _ => rfl⟩
  | n + 1 => by
    unfold longR
    split
    · rename_i h
      exact ⟨fun _ => by simp, by simp, fun h2 => by simp at h2; omega⟩
    · obtain ⟨h1, h2, h3⟩ := longR_pos d l n
      exact ⟨h1, by omega, h3⟩
theorem longR_rule (d : Df) (l : List Nat) (hd : MayD d) : ∀ n, (longR d l n).1 < 48 ∧ ∀ m : Int, (∀ r ∈ d.rl, r < m) → 0 ≤ (longR d l n).1 → (longR d l n).1 < m
  | 0 => ⟨by simp [longR], fun m _ h => by simp [longR] at h⟩
  | n + 1 => by
    unfold longR
    split
    · rename_i h
      have key : ∀ m : Int, (∀ r ∈ d.rl, r < m) → rlAt d (walkD d d.st (l.take (n + 1))) < m := fun m hm => by
        unfold rlAt at h ⊢
        split at h
        · simp at h
        · split at h
          · simp at h
          · rename_i h1 h2
            rw [if_neg h1, if_neg h2]
            rw [List.getD_eq_getElem?_getD] at h2 ⊢
            cases hc : d.rl[(walkD d d.st (l.take (n + 1))).toNat]? with
            | none => rw [hc] at h2; simp at h2
            | some x => simpa using hm x (List.mem_of_getElem? hc)
      exact ⟨key 48 hd.rl, fun m hm _ => key m hm⟩
    · exact longR_rule d l hd n
theorem lookR_ge (d : Df) (l : List Nat) : ∀ m n, n ≤ lookR d l m n ∧ lookR d l m n ≤ n + m
  | 0, n => by simp [lookR]
  | m + 1, n => by
    unfold lookR
    split
    · omega
    · have := lookR_ge d l m (n + 1); omega
theorem lookF_pos (d : Df) (l : List Nat) : 1 ≤ lookF d l ∧ lookF d l ≤ l.length + 1 := by
  have := lookR_ge d l l.length 1
  unfold lookF; omega
/-- What is told of a place: it takes a byte at least, and no more than are left. -/
theorem ofF_facts {d : Df} (hd : MayD d) {l : List Nat} (hne : l ≠ []) : -1 ≤ (ofF d l).1 ∧ (ofF d l).1 < 48 ∧ (0 ≤ (ofF d l).1 → 1 ≤ (ofF d l).2.1) ∧ (ofF d l).2.1 ≤ l.length ∧ (ofF d l).2.1 ≤ (ofF d l).2.2 ∧ 1 ≤ (ofF d l).2.2 ∧ (ofF d l).2.2 ≤ l.length + 1 := by
  obtain ⟨h1, h2, h3⟩ := longR_pos d (l.take (min (lookF d l) l.length)) (min (lookF d l) l.length)
  have h4 := (longR_rule d (l.take (min (lookF d l) l.length)) hd (min (lookF d l) l.length)).1
  have h5 := lookF_pos d l
  unfold ofF
  refine ⟨?_, h4, h1, by simp only []; omega, by simp only []; omega, h5.1, h5.2⟩
  by_cases hn : (longR d (l.take (min (lookF d l) l.length)) (min (lookF d l) l.length)).1 < 0
  · rw [h3 hn]; simp
  · simp only []; omega
theorem ofF_rule {d : Df} (hd : MayD d) {l : List Nat} {m : Int} (hm : ∀ r ∈ d.rl, r < m) (h : 0 ≤ (ofF d l).1) : (ofF d l).1 < m :=
  (longR_rule d (l.take (min (lookF d l) l.length)) hd (min (lookF d l) l.length)).2 m hm h
theorem pcF_len {d : Df} (hd : MayD d) (ks : Nat → Int) {l : List Nat} (hne : l ≠ []) : 1 ≤ (pcF ks (ofF d l)).2.1 ∧ (pcF ks (ofF d l)).2.1 ≤ l.length ∧ (pcF ks (ofF d l)).2.1 ≤ (ofF d l).2.2 ∧ (pcF ks (ofF d l)).2.2 = (ofF d l).2.2 := by
  obtain ⟨h1, h2, h3, h4, h5, h6, h7⟩ := ofF_facts hd hne
  have hl : 0 < l.length := List.length_pos_iff.2 hne
  unfold pcF
  split
  · exact ⟨Nat.le_refl _, hl, h6, rfl⟩
  · rename_i h
    exact ⟨h3 (by omega), h4, h5, rfl⟩
theorem pcs_fuel {d : Df} (hd : MayD d) (ks : Nat → Int) : ∀ (k k' : Nat) (l : List Nat), l.length ≤ k → l.length ≤ k' → pcs d ks k l = pcs d ks k' l
  | 0, 0, l, _, _ => rfl
  | 0, k' + 1, l, h, _ => by
    have : l = [] := List.length_eq_zero_iff.1 (by omega)
    subst this; simp [pcs]
  | k + 1, 0, l, _, h => by
    have : l = [] := List.length_eq_zero_iff.1 (by omega)
    subst this; simp [pcs]
  | k + 1, k' + 1, l, h, h' => by
    rw [pcs, pcs]
    by_cases hl : l = []
    · rw [if_pos hl, if_pos hl]
    · rw [if_neg hl, if_neg hl]
      have := pcF_len hd ks hl
      rw [pcs_fuel hd ks k k' _ (by rw [List.length_drop]; omega) (by rw [List.length_drop]; omega)]
theorem pcA_nil (d : Df) (ks : Nat → Int) : pcA d ks [] = [] := rfl
theorem pcA_cons {d : Df} (hd : MayD d) (ks : Nat → Int) {l : List Nat} (hne : l ≠ []) : pcA d ks l = pcF ks (ofF d l) :: pcA d ks (l.drop (pcF ks (ofF d l)).2.1) := by
  unfold pcA
  obtain ⟨m, hm⟩ : ∃ m, l.length = m + 1 := ⟨l.length - 1, by have := List.length_pos_iff.2 hne; omega⟩
  have := pcF_len hd ks hne
  rw [hm, pcs, if_neg hne, pcs_fuel hd ks m _ _ (by rw [List.length_drop]; omega) (Nat.le_refl _)]
/-- Only what was looked at decides. -/
theorem lookR_stop (d : Df) (l : List Nat) : ∀ m n, lookR d l m n < n + m → stopAt d l (lookR d l m n) = true ∧ ∀ i, n ≤ i → i < lookR d l m n → stopAt d l i = false
  | 0, n, h => by simp [lookR] at h
  | m + 1, n, h => by
    unfold lookR at h ⊢
    by_cases hs : stopAt d l n = true
    · rw [if_pos hs]; exact ⟨hs, fun i h1 h2 => by omega⟩
    · rw [if_neg hs] at h ⊢
      obtain ⟨h1, h2⟩ := lookR_stop d l m (n + 1) (by omega)
      refine ⟨h1, fun i h3 h4 => ?_⟩
      by_cases e : i = n
      · subst e; simpa using hs
      · exact h2 i (by omega) h4
theorem stopAt_take {d : Df} {l l' : List Nat} {m : Nat} (h : l.take m = l'.take m) {i : Nat} (hi : i ≤ m) : stopAt d l i = stopAt d l' i := by
  have e : l.take i = l'.take i := by
    have := congrArg (List.take i) h
    rwa [List.take_take, List.take_take, Nat.min_eq_left hi] at this
  unfold stopAt; rw [e]
theorem ofF_take {d : Df} {l l' : List Nat} {m : Nat} (h : l.take m = l'.take m) (hm : m ≤ l.length) (hm' : m ≤ l'.length) (hk : lookF d l ≤ m) : ofF d l' = ofF d l := by
  have h1 := lookF_pos d l
  obtain ⟨j, hj⟩ : ∃ j, lookF d l = j := ⟨_, rfl⟩
  have hst := lookR_stop d l l.length 1 (by unfold lookF at hk; omega)
  have hj2 : lookR d l l.length 1 = j := hj
  rw [hj2] at hst
  have e : lookF d l' = j := by
    unfold lookF
    rw [lookR_skip d l' l'.length 1 j (by omega) (by omega) (fun i h1 h2 => by rw [← stopAt_take h (by omega)]; exact hst.2 i h1 h2)]
    obtain ⟨q, hq⟩ : ∃ q, 1 + l'.length - j = q + 1 := ⟨l'.length - j, by omega⟩
    rw [hq, lookR, if_pos (by rw [← stopAt_take h (by omega)]; exact hst.1)]
  unfold ofF
  rw [e, hj, Nat.min_eq_left (by omega), Nat.min_eq_left (by omega)]
  have e2 : l'.take j = l.take j := by
    have := congrArg (List.take j) h
    rw [List.take_take, List.take_take, Nat.min_eq_left (by omega)] at this
    exact this.symm
  rw [e2]
end Go.Proofs.Ytemkppjdfjoipaa
end
section
/- Package raws. -/
namespace Go.Proofs.Ytemkppjdfjoipaa
set_option linter.unusedSimpArgs false
set_option linter.unusedVariables false
set_option maxRecDepth 100000
open Go.RowKit
/- Pieces: parts, what stays ahead of an edit: plain. -/
theorem look_eq {d : Df} (hd : MayD d) (ks : Nat → Int) {l : List Nat} (hne : l ≠ []) : (pcF ks (ofF d l)).2.2 = lookF d l := by
  rw [(pcF_len hd ks hne).2.2.2]; rfl
/-- k pieces of l take n bytes. -/
structure PcI (d : Df) (ks : Nat → Int) (l : List Nat) (k n : Nat) : Prop where
  hn : n ≤ l.length
  hk : k ≤ (pcA d ks l).length
  drop : (pcA d ks l).drop k = pcA d ks (l.drop n)
theorem PcI.zero (d : Df) (ks : Nat → Int) (l : List Nat) : PcI d ks l 0 0 := ⟨Nat.zero_le _, Nat.zero_le _, rfl⟩
theorem PcI.more {d : Df} (hd : MayD d) {ks : Nat → Int} {l : List Nat} {k n : Nat} (h : PcI d ks l k n) (hk : k < (pcA d ks l).length) : n < l.length := by
  by_cases hn : n < l.length
  · exact hn
  · have := h.drop
    rw [show l.drop n = [] from List.drop_eq_nil_of_le (by omega), pcA_nil] at this
    have := List.drop_eq_nil_iff.1 this
    omega
theorem PcI.get {d : Df} (hd : MayD d) {ks : Nat → Int} {l : List Nat} {k n : Nat} (h : PcI d ks l k n) (hk : k < (pcA d ks l).length) : (pcA d ks l)[k] = pcF ks (ofF d (l.drop n)) ∧ PcI d ks l (k + 1) (n + (pcF ks (ofF d (l.drop n))).2.1) ∧ l.drop n ≠ [] := by
  have hn := h.more hd hk
  have hne : l.drop n ≠ [] := by
    intro e
    have := congrArg List.length e
    rw [List.length_drop] at this
    simp at this; omega
  have h1 := h.drop
  rw [List.drop_eq_getElem_cons hk, pcA_cons hd ks hne] at h1
  injection h1 with h1 h2
  have h3 := pcF_len hd ks hne
  rw [List.length_drop] at h3
  refine ⟨h1, ⟨by omega, by omega, ?_⟩, hne⟩
  rw [h2, List.drop_drop]
theorem PcI.end_iff {d : Df} (hd : MayD d) {ks : Nat → Int} {l : List Nat} {k n : Nat} (h : PcI d ks l k n) : k < (pcA d ks l).length ↔ n < l.length := by
  refine ⟨h.more hd, fun hn => ?_⟩
  by_cases hk : k < (pcA d ks l).length
  · exact hk
  · have h1 := h.drop
    rw [List.drop_eq_nil_of_le (by omega)] at h1
    have hne : l.drop n ≠ [] := by
      intro e
      have := congrArg List.length e
      rw [List.length_drop] at this
      simp at this; omega
    rw [pcA_cons hd ks hne] at h1
    cases h1
/-- What was looked at ahead of S: the same piece. -/
theorem PcI.keep {d : Df} (hd : MayD d) {ks : Nat → Int} {l l' : List Nat} {S k n : Nat} (hS : l.take S = l'.take S) (h1 : S ≤ l.length) (h2 : S ≤ l'.length) (h : PcI d ks l k n) (h' : PcI d ks l' k n) (hk : k < (pcA d ks l).length) (hl : n + (pcA d ks l)[k].2.2 ≤ S) :
    ∃ hk' : k < (pcA d ks l').length, (pcA d ks l')[k] = (pcA d ks l)[k] ∧ n + (pcA d ks l)[k].2.1 ≤ S ∧ PcI d ks l (k + 1) (n + (pcA d ks l)[k].2.1) ∧ PcI d ks l' (k + 1) (n + (pcA d ks l)[k].2.1) := by
  obtain ⟨g1, g2, g3⟩ := h.get hd hk
  rw [g1] at hl ⊢
  have g4 := pcF_len hd ks g3
  have g5 := look_eq hd ks g3
  have g6 := lookF_pos d (l.drop n)
  have hn' : n < l'.length := by omega
  have hk' := (h'.end_iff hd).2 hn'
  obtain ⟨i1, i2, i3⟩ := h'.get hd hk'
  have e : ofF d (l'.drop n) = ofF d (l.drop n) := by
    refine ofF_take (m := S - n) ?_ (by rw [List.length_drop]; omega) (by rw [List.length_drop]; omega) (by omega)
    rw [List.take_drop, List.take_drop, show n + (S - n) = S by omega, hS]
  rw [e] at i1 i2
  exact ⟨hk', i1, by omega, g2, i2⟩
end Go.Proofs.Ytemkppjdfjoipaa
end
section
/- Package relex. -/
namespace Go.Proofs.Ytemkppjdfjoipaa.I1.X
set_option linter.unusedSimpArgs false
set_option linter.unusedVariables false
set_option maxRecDepth 100000
open Go.RowKit
open I1 (Mk Tk Rw Lx May Made m0 stepF endF runF allR allQ areP stepF_may stepF_lead m0_may)
/- Scans: plain. Pieces, marks, counts, tokens of a text, part by part. -/
abbrev P3 := Int × Nat × Nat
def tR (x : P3) : Rw := (x.1, (x.2.1 : Int), (x.2.2 : Int))
def lens : List P3 → Nat
  | [] => 0
  | r :: L => r.2.1 + lens L
theorem lens_app : ∀ (L M : List P3), lens (L ++ M) = lens L + lens M
  | [], M => by simp [lens]
  | r :: L, M => by rw [List.cons_append, lens, lens, lens_app L M]; omega
/-- Marks, counts, tokens, the last mark. -/
structure Rn where
  M : List Mk
  C : List Int
  T : List Tk
  m : Mk
def upC (k : Nat) (C : List Int) : List Int := C.map fun c => c + (k : Int)
theorem upC_len (k : Nat) (C : List Int) : (upC k C).length = C.length := by simp [upC]
theorem upC_app (k : Nat) (C D : List Int) : upC k (C ++ D) = upC k C ++ upC k D := by simp [upC]
theorem upC_up (k j : Nat) (C : List Int) : upC k (upC j C) = upC (j + k) C := by
  simp only [upC, List.map_map]
  refine List.map_congr_left fun c _ => ?_
  simp only [Function.comp]
  omega
theorem upC_zero (C : List Int) : upC 0 C = C := by
  simp [upC]
def runM (m : Mk) (s : List Nat) : List P3 → Rn
  | [] => ⟨[], [], [], m⟩
  | r :: L =>
    ⟨(stepF m (s.take r.2.1) r.1 (r.2.1 : Nat)).1 :: (runM (stepF m (s.take r.2.1) r.1 (r.2.1 : Nat)).1 (s.drop r.2.1) L).M,
     ((stepF m (s.take r.2.1) r.1 (r.2.1 : Nat)).2.length : Int) :: upC (stepF m (s.take r.2.1) r.1 (r.2.1 : Nat)).2.length (runM (stepF m (s.take r.2.1) r.1 (r.2.1 : Nat)).1 (s.drop r.2.1) L).C,
     (stepF m (s.take r.2.1) r.1 (r.2.1 : Nat)).2 ++ (runM (stepF m (s.take r.2.1) r.1 (r.2.1 : Nat)).1 (s.drop r.2.1) L).T,
     (runM (stepF m (s.take r.2.1) r.1 (r.2.1 : Nat)).1 (s.drop r.2.1) L).m⟩
theorem runF_runM : ∀ (L : List P3) (x : Lx) (m : Mk) (s : List Nat),
    runF x m s (L.map tR) = (⟨x.marks ++ (runM m s L).M, x.counts ++ upC x.toks.length (runM m s L).C, x.toks ++ (runM m s L).T⟩, (runM m s L).m)
  | [], x, m, s => by simp [runF, runM, upC]
  | r :: L, x, m, s => by
    rw [List.map_cons, runF, runM]
    simp only [show (tR r).1 = r.1 from rfl, show (tR r).2.1 = ((r.2.1 : Nat) : Int) from rfl, Int.toNat_natCast]
    have e := runF_runM L ⟨x.marks ++ [(stepF m (s.take r.2.1) r.1 (r.2.1 : Nat)).1], x.counts ++ [((x.toks ++ (stepF m (s.take r.2.1) r.1 (r.2.1 : Nat)).2).length : Int)], x.toks ++ (stepF m (s.take r.2.1) r.1 (r.2.1 : Nat)).2⟩ (stepF m (s.take r.2.1) r.1 (r.2.1 : Nat)).1 (s.drop r.2.1)
    rw [e]
    have hc : upC x.toks.length (((stepF m (s.take r.2.1) r.1 (r.2.1 : Nat)).2.length : Int) :: upC (stepF m (s.take r.2.1) r.1 (r.2.1 : Nat)).2.length (runM (stepF m (s.take r.2.1) r.1 (r.2.1 : Nat)).1 (s.drop r.2.1) L).C) = ((x.toks ++ (stepF m (s.take r.2.1) r.1 (r.2.1 : Nat)).2).length : Int) :: upC (x.toks ++ (stepF m (s.take r.2.1) r.1 (r.2.1 : Nat)).2).length (runM (stepF m (s.take r.2.1) r.1 (r.2.1 : Nat)).1 (s.drop r.2.1) L).C := by
      rw [show ∀ (k : Nat) (c : Int) (D : List Int), upC k (c :: D) = (c + (k : Int)) :: upC k D from fun k c D => rfl, upC_up]
      simp only [List.length_append]
      rw [Nat.add_comm x.toks.length]
      push_cast
      rfl
    rw [hc]
    simp
theorem runM_app : ∀ (L K : List P3) (m : Mk) (s : List Nat),
    runM m s (L ++ K) = ⟨(runM m s L).M ++ (runM (runM m s L).m (s.drop (lens L)) K).M, (runM m s L).C ++ upC (runM m s L).T.length (runM (runM m s L).m (s.drop (lens L)) K).C, (runM m s L).T ++ (runM (runM m s L).m (s.drop (lens L)) K).T, (runM (runM m s L).m (s.drop (lens L)) K).m⟩
  | [], K, m, s => by simp [runM, lens, upC_zero]
  | r :: L, K, m, s => by
    rw [List.cons_append]
    simp only [runM, lens, runM_app L K, List.drop_drop, List.cons_append, List.append_assoc, upC_app, upC_up, List.length_append]
    rw [Nat.add_comm (runM (stepF m (List.take r.2.1 s) r.1 ↑r.2.1).1 (List.drop r.2.1 s) L).T.length]
theorem runM_len : ∀ (L : List P3) (m : Mk) (s : List Nat), (runM m s L).M.length = L.length ∧ (runM m s L).C.length = L.length
  | [], m, s => by simp [runM]
  | r :: L, m, s => by
    have := runM_len L (stepF m (s.take r.2.1) r.1 (r.2.1 : Nat)).1 (s.drop r.2.1)
    simp [runM, upC_len, this.1, this.2]
theorem runM_top : ∀ (L : List P3) (m : Mk) (s : List Nat), ((0 : Int) :: (runM m s L).C).getD L.length 0 = ((runM m s L).T.length : Int)
  | [], m, s => by simp [runM]
  | r :: L, m, s => by
    have h := runM_top L (stepF m (s.take r.2.1) r.1 (r.2.1 : Nat)).1 (s.drop r.2.1)
    simp only [runM, List.length_cons, List.getD_cons_succ, List.length_append]
    cases L with
    | nil => simp [runM]
    | cons q L =>
      simp only [List.length_cons, List.getD_cons_succ] at h ⊢
      rw [List.getD_eq_getElem?_getD] at h ⊢
      have hl := (runM_len (q :: L) (stepF m (s.take r.2.1) r.1 (r.2.1 : Nat)).1 (s.drop r.2.1)).2
      simp only [List.length_cons] at hl
      rw [upC, List.getElem?_map, List.getElem?_eq_getElem (by omega)]
      rw [List.getElem?_eq_getElem (by omega)] at h
      simp only [Option.map_some, Option.getD_some] at h ⊢
      push_cast
      omega
theorem runM_take : ∀ (L : List P3) (m : Mk) (s s' : List Nat), s.take (lens L) = s'.take (lens L) → runM m s L = runM m s' L
  | [], m, s, s', _ => rfl
  | r :: L, m, s, s', h => by
    have h1 : s.take r.2.1 = s'.take r.2.1 := by
      have := congrArg (List.take r.2.1) h
      rwa [List.take_take, List.take_take, Nat.min_eq_left (by rw [lens]; omega)] at this
    have h2 : (s.drop r.2.1).take (lens L) = (s'.drop r.2.1).take (lens L) := by
      have := congrArg (List.drop r.2.1) h
      rwa [List.drop_take, List.drop_take, show lens (r :: L) - r.2.1 = lens L by rw [lens]; omega] at this
    simp only [runM, h1, runM_take L _ _ _ h2]
/-- Each piece takes a byte at least, all together no more than there are. -/
structure Fit (L : List P3) (s : List Nat) : Prop where
  one : ∀ r ∈ L, 1 ≤ r.2.1
  le : lens L ≤ s.length
theorem Fit.tl {r : P3} {L : List P3} {s : List Nat} (h : Fit (r :: L) s) : Fit L (s.drop r.2.1) :=
  ⟨fun x hx => h.one x (List.mem_cons_of_mem _ hx), by have := h.le; rw [lens] at this; rw [List.length_drop]; omega⟩
theorem fit_len : ∀ (L : List P3), (∀ r ∈ L, 1 ≤ r.2.1) → L.length ≤ lens L
  | [], _ => Nat.le_refl _
  | r :: L, h => by
    have := fit_len L (fun x hx => h x (List.mem_cons_of_mem _ hx))
    have := h r (List.mem_cons_self ..)
    rw [lens, List.length_cons]; omega
theorem runM_may : ∀ (L : List P3) (m : Mk) (s : List Nat), May m → Fit L s → m.lead + (s.length : Int) ≤ 65536 → (∀ x ∈ (runM m s L).M, May x) ∧ May (runM m s L).m ∧ (runM m s L).m.lead ≤ m.lead + (lens L : Int)
  | [], m, s, h, _, _ => ⟨by simp [runM], h, by simp [runM, lens]⟩
  | r :: L, m, s, h, hf, hl => by
    have h1 := hf.one r (List.mem_cons_self ..)
    have h2 := hf.le
    rw [lens] at h2
    have hmd : Made m (s.take r.2.1) (r.2.1 : Nat) := ⟨by omega, by rw [List.length_take]; omega, by omega⟩
    have hm := stepF_may h hmd (k := r.1)
    have hd := stepF_lead (m := m) (s := s.take r.2.1) (k := r.1) h.l0 (show (0 : Int) ≤ (r.2.1 : Nat) by omega)
    obtain ⟨g1, g2, g3⟩ := runM_may L _ _ hm hf.tl (by rw [List.length_drop]; omega)
    refine ⟨fun x hx => ?_, g2, ?_⟩
    · rw [runM] at hx
      rcases List.mem_cons.1 hx with rfl | hx
      · exact hm
      · exact g1 x hx
    · rw [lens]
      simp only [runM]
      push_cast
      omega
theorem areP_fit : ∀ (L : List P3) (n : Nat), (∀ r ∈ L, 1 ≤ r.2.1) → lens L = n → areP (n : Int) (L.map tR) = true
  | [], n, _, h => by rw [lens] at h; subst h; rfl
  | r :: L, n, h1, h => by
    rw [lens] at h
    have := h1 r (List.mem_cons_self ..)
    rw [List.map_cons, areP, if_neg (by simp only [tR]; omega)]
    have e := areP_fit L (n - r.2.1) (fun x hx => h1 x (List.mem_cons_of_mem _ hx)) (by omega)
    rw [show (n : Int) - (tR r).2.1 = ((n - r.2.1 : Nat) : Int) by simp only [tR]; omega]
    exact e
theorem pcA_fit {d : Df} (hd : MayD d) (ks : Nat → Int) : ∀ (n : Nat) (l : List Nat), l.length ≤ n → (∀ r ∈ pcA d ks l, 1 ≤ r.2.1) ∧ lens (pcA d ks l) = l.length
  | 0, l, h => by
    have : l = [] := List.length_eq_zero_iff.1 (by omega)
    subst this; simp [pcA_nil, lens]
  | n + 1, l, h => by
    by_cases hl : l = []
    · subst hl; simp [pcA_nil, lens]
    · have h1 := pcF_len hd ks hl
      rw [pcA_cons hd ks hl]
      obtain ⟨i1, i2⟩ := pcA_fit hd ks n (l.drop (pcF ks (ofF d l)).2.1) (by rw [List.length_drop]; omega)
      refine ⟨fun r hr => ?_, ?_⟩
      · rcases List.mem_cons.1 hr with rfl | hr
        · exact h1.1
        · exact i1 r hr
      · rw [lens, i2, List.length_drop]; omega
/-- Where piece k begins. -/
def off (L : List P3) (k : Nat) : Nat := lens (L.take k)
theorem off_zero (L : List P3) : off L 0 = 0 := rfl
theorem off_succ {L : List P3} {k : Nat} (h : k < L.length) : off L (k + 1) = off L k + (L[k]).2.1 := by
  unfold off
  rw [List.take_add_one, List.getElem?_eq_getElem h, Option.toList_some, lens_app]
  simp [lens]
theorem off_split (L : List P3) (k : Nat) : off L k + lens (L.drop k) = lens L := by
  unfold off
  rw [← lens_app, List.take_append_drop]
theorem off_mono {L : List P3} (h1 : ∀ r ∈ L, 1 ≤ r.2.1) : ∀ {j k : Nat}, j < k → k ≤ L.length → off L j < off L k
  | j, k + 1, h, hk => by
    rw [off_succ (by omega)]
    have := h1 L[k] (List.getElem_mem _)
    by_cases e : j = k
    · subst e; omega
    · have := off_mono h1 (j := j) (k := k) (by omega) (by omega); omega
theorem off_le (L : List P3) (k : Nat) : off L k ≤ lens L := by have := off_split L k; omega
/-- The pieces from where one begins on are those of what is left. -/
theorem pcA_drop {d : Df} (hd : MayD d) (ks : Nat → Int) (l : List Nat) : ∀ (k : Nat), k ≤ (pcA d ks l).length → PcI d ks l k (off (pcA d ks l) k)
  | 0, _ => PcI.zero d ks l
  | k + 1, h => by
    have h1 := pcA_drop hd ks l k (by omega)
    obtain ⟨g1, g2, g3⟩ := h1.get hd (by omega)
    rw [off_succ (by omega), g1]; exact g2
theorem off_of {d : Df} (hd : MayD d) {ks : Nat → Int} {l : List Nat} {k n : Nat} (h : PcI d ks l k n) : n = off (pcA d ks l) k := by
  have h1 := (pcA_fit hd ks _ l (Nat.le_refl _)).2
  have h2 := (pcA_fit hd ks _ (l.drop n) (Nat.le_refl _)).2
  have h3 := off_split (pcA d ks l) k
  rw [h.drop, h2, List.length_drop] at h3
  have := h.hn
  omega
end Go.Proofs.Ytemkppjdfjoipaa.I1.X
end
