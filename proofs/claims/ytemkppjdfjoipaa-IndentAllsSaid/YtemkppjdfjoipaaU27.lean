/- Texts of package regs, one behind the other. -/
import Derived.Test.YtemkppjdfjoipaaU26
import Derived.WalkKit
import Derived.Below
import Derived.Laws.AppendOwn
import Derived.Laws.OwnMore
import Derived.Lib.Hide
import Derived.Lib.Walk
import Derived.Deep.MidRow
import Derived.Deep.WholeRow
import Derived.Test.YtemkppjdfjoipaaIn
import Derived.Test.YtemkppjdfjoipaaU11
import Derived.Deep.SlicePairs
import Derived.Deep.Slices
import Derived.Laws.IdiomArrays
import Derived.OpenShut
import Derived.WideBlind
import Derived.Great.BuildSlice
import Derived.Maps.OwnSet
import Derived.Maps.OwnOps
import Derived.Maps.Own
import Derived.DeepKeys5
import Derived.BigFrame
import Derived.WalkMore
import Derived.ScopeJumps
import Derived.StillTailTactics
import Derived.Stop.BytesEq
import Derived.WalkLawsBesides
import Derived.WalkSpells
import Derived.Outline
import Derived.Lib.Slices
import Derived.Lib.Strings
import Derived.RegionTactic
import Derived.LoopTactic
import Derived.IntWalk
import Derived.Deep.QuietTactic
import Derived.BigQuiet
import Derived.Maps.AppendAt
import Derived.Laws.Rows
import Derived.Laws.Tables
import Derived.Deep.Cut
import Derived.Deep.CutRange
import Derived.Lib.SliceRun
import Derived.Laws.MakeOwn
import Derived.Deep.RegionLaw
import Derived.Deep.RegionLawGrows
import Derived.Deep.RegionHeld3
import Derived.RegionCalls
import Derived.Deep.RegionWith
import Derived.Deep.Light
import Derived.Laws.CopyOwn
import Derived.Laws.ResultCell
section
/- Package raws. -/
namespace Go.Proofs.Ytemkppjdfjoipaa
set_option linter.unusedSimpArgs false
set_option linter.unusedVariables false
set_option maxRecDepth 100000
open Go.RowKit
/- Pieces: plain. -/
/-- The piece of what was found. -/
def pcF (ks : Nat → Int) (m : Int × Nat × Nat) : Int × Nat × Nat := if m.1 < 0 then (23, 1, m.2.2) else (ks m.1.toNat, m.2.1, m.2.2)
def pcs (d : Df) (ks : Nat → Int) : Nat → List Nat → List (Int × Nat × Nat)
  | 0, _ => []
  | k + 1, l => if l = [] then [] else pcF ks (ofF d l) :: pcs d ks k (l.drop (pcF ks (ofF d l)).2.1)
/-- All pieces of a text. -/
def pcA (d : Df) (ks : Nat → Int) (l : List Nat) : List (Int × Nat × Nat) := pcs d ks l.length l
theorem longR_pos (d : Df) (l : List Nat) : ∀ n, (0 ≤ (longR d l n).1 → 1 ≤ (longR d l n).2) ∧ (longR d l n).2 ≤ n ∧ ((longR d l n).1 < 0 → (longR d l n) = (-1, 0))
  | 0 => ⟨fun h => by simp [longR] at h, by simp [longR], fun _ => rfl⟩
  | n + 1 => by
    unfold longR
    split
    · rename_i h
      exact ⟨fun _ => by simp, by simp, fun h2 => by simp at h2; omega⟩
    · obtain ⟨h1, h2, h3⟩ := longR_pos d l n
      exact ⟨h1, by omega, h3⟩
theorem longR_rule (d : Df) (l : List Nat) (hd : MayD d) : ∀ n, (longR d l n).1 < 48 ∧ ∀ m : Int, (∀ r ∈ d.rl, r < m) → 0 ≤ (longR d l n).1 → (longR d l n).1 < m
  | 0 => ⟨by simp [longR], fun m _ h => by simp [longR] at h⟩
  | n + 1 => by
    unfold longR
    split
    · rename_i h
      have key : ∀ m : Int, (∀ r ∈ d.rl, r < m) → rlAt d (walkD d d.st (l.take (n + 1))) < m := fun m hm => by
        unfold rlAt at h ⊢
        split at h
        · simp at h
        · split at h
          · simp at h
          · rename_i h1 h2
            rw [if_neg h1, if_neg h2]
            rw [List.getD_eq_getElem?_getD] at h2 ⊢
            cases hc : d.rl[(walkD d d.st (l.take (n + 1))).toNat]? with
            | none => rw [hc] at h2; simp at h2
            | some x => simpa using hm x (List.mem_of_getElem? hc)
      exact ⟨key 48 hd.rl, fun m hm _ => key m hm⟩
    · exact longR_rule d l hd n
theorem lookR_ge (d : Df) (l : List Nat) : ∀ m n, n ≤ lookR d l m n ∧ lookR d l m n ≤ n + m
  | 0, n => by simp [lookR]
  | m + 1, n => by
    unfold lookR
    split
    · omega
    · have := lookR_ge d l m (n + 1); omega
theorem lookF_pos (d : Df) (l : List Nat) : 1 ≤ lookF d l ∧ lookF d l ≤ l.length + 1 := by
  have := lookR_ge d l l.length 1
  unfold lookF; omega
/-- What is told of a place: it takes a byte at least, and no more than are left. -/
theorem ofF_facts {d : Df} (hd : MayD d) {l : List Nat} (hne : l ≠ []) : -1 ≤ (ofF d l).1 ∧ (ofF d l).1 < 48 ∧ (0 ≤ (ofF d l).1 → 1 ≤ (ofF d l).2.1) ∧ (ofF d l).2.1 ≤ l.length ∧ (ofF d l).2.1 ≤ (ofF d l).2.2 ∧ 1 ≤ (ofF d l).2.2 ∧ (ofF d l).2.2 ≤ l.length + 1 := by
  obtain ⟨h1, h2, h3⟩ := longR_pos d (l.take (min (lookF d l) l.length)) (min (lookF d l) l.length)
  have h4 := (longR_rule d (l.take (min (lookF d l) l.length)) hd (min (lookF d l) l.length)).1
  have h5 := lookF_pos d l
  unfold ofF
  refine ⟨?_, h4, h1, by simp only []; omega, by simp only []; omega, h5.1, h5.2⟩
  by_cases hn : (longR d (l.take (min (lookF d l) l.length)) (min (lookF d l) l.length)).1 < 0
  · rw [h3 hn]; simp
  · simp only []; omega
theorem ofF_rule {d : Df} (hd : MayD d) {l : List Nat} {m : Int} (hm : ∀ r ∈ d.rl, r < m) (h : 0 ≤ (ofF d l).1) : (ofF d l).1 < m :=
  (longR_rule d (l.take (min (lookF d l) l.length)) hd (min (lookF d l) l.length)).2 m hm h
theorem pcF_len {d : Df} (hd : MayD d) (ks : Nat → Int) {l : List Nat} (hne : l ≠ []) : 1 ≤ (pcF ks (ofF d l)).2.1 ∧ (pcF ks (ofF d l)).2.1 ≤ l.length ∧ (pcF ks (ofF d l)).2.1 ≤ (ofF d l).2.2 ∧ (pcF ks (ofF d l)).2.2 = (ofF d l).2.2 := by
  obtain ⟨h1, h2, h3, h4, h5, h6, h7⟩ := ofF_facts hd hne
  have hl : 0 < l.length := List.length_pos_iff.2 hne
  unfold pcF
  split
  · exact ⟨Nat.le_refl _, hl, h6, rfl⟩
  · rename_i h
    exact ⟨h3 (by omega), h4, h5, rfl⟩
theorem pcs_fuel {d : Df} (hd : MayD d) (ks : Nat → Int) : ∀ (k k' : Nat) (l : List Nat), l.length ≤ k → l.length ≤ k' → pcs d ks k l = pcs d ks k' l
  | 0, 0, l, _, _ => rfl
  | 0, k' + 1, l, h, _ => by
    have : l = [] := List.length_eq_zero_iff.1 (by omega)
    subst this; simp [pcs]
  | k + 1, 0, l, _, h => by
    have : l = [] := List.length_eq_zero_iff.1 (by omega)
    subst this; simp [pcs]
  | k + 1, k' + 1, l, h, h' => by
    rw [pcs, pcs]
    by_cases hl : l = []
    · rw [if_pos hl, if_pos hl]
    · rw [if_neg hl, if_neg hl]
      have := pcF_len hd ks hl
      rw [pcs_fuel hd ks k k' _ (by rw [List.length_drop]; omega) (by rw [List.length_drop]; omega)]
theorem pcA_nil (d : Df) (ks : Nat → Int) : pcA d ks [] = [] := rfl
theorem pcA_cons {d : Df} (hd : MayD d) (ks : Nat → Int) {l : List Nat} (hne : l ≠ []) : pcA d ks l = pcF ks (ofF d l) :: pcA d ks (l.drop (pcF ks (ofF d l)).2.1) := by
  unfold pcA
  obtain ⟨m, hm⟩ : ∃ m, l.length = m + 1 := ⟨l.length - 1, by have := List.length_pos_iff.2 hne; omega⟩
  have := pcF_len hd ks hne
  rw [hm, pcs, if_neg hne, pcs_fuel hd ks m _ _ (by rw [List.length_drop]; omega) (Nat.le_refl _)]
end Go.Proofs.Ytemkppjdfjoipaa
end
section
/- Package raws. -/
namespace Go.Proofs.Ytemkppjdfjoipaa
set_option linter.unusedSimpArgs false
set_option linter.unusedVariables false
set_option maxRecDepth 100000
open Go.RowKit
/- Pieces: parts, what stays ahead of an edit: plain. -/
/-- k pieces of l take n bytes. -/
structure PcI (d : Df) (ks : Nat → Int) (l : List Nat) (k n : Nat) : Prop where
  hn : n ≤ l.length
  hk : k ≤ (pcA d ks l).length
  drop : (pcA d ks l).drop k = pcA d ks (l.drop n)
theorem PcI.zero (d : Df) (ks : Nat → Int) (l : List Nat) : PcI d ks l 0 0 := ⟨Nat.zero_le _, Nat.zero_le _, rfl⟩
theorem PcI.more {d : Df} (hd : MayD d) {ks : Nat → Int} {l : List Nat} {k n : Nat} (h : PcI d ks l k n) (hk : k < (pcA d ks l).length) : n < l.length := by
  by_cases hn : n < l.length
  · exact hn
  · have := h.drop
    rw [show l.drop n = [] from List.drop_eq_nil_of_le (by omega), pcA_nil] at this
    have := List.drop_eq_nil_iff.1 this
    omega
theorem PcI.get {d : Df} (hd : MayD d) {ks : Nat → Int} {l : List Nat} {k n : Nat} (h : PcI d ks l k n) (hk : k < (pcA d ks l).length) : (pcA d ks l)[k] = pcF ks (ofF d (l.drop n)) ∧ PcI d ks l (k + 1) (n + (pcF ks (ofF d (l.drop n))).2.1) ∧ l.drop n ≠ [] := by
  have hn := h.more hd hk
  have hne : l.drop n ≠ [] := by
    intro e
    have := congrArg List.length e
    rw [List.length_drop] at this
    simp at this; omega
  have h1 := h.drop
  rw [List.drop_eq_getElem_cons hk, pcA_cons hd ks hne] at h1
  injection h1 with h1 h2
  have h3 := pcF_len hd ks hne
  rw [List.length_drop] at h3
  refine ⟨h1, ⟨by omega, by omega, ?_⟩, hne⟩
  rw [h2, List.drop_drop]
end Go.Proofs.Ytemkppjdfjoipaa
end
section
/- Package relex. -/
namespace Go.Proofs.Ytemkppjdfjoipaa.I1.X
set_option linter.unusedSimpArgs false
set_option linter.unusedVariables false
set_option maxRecDepth 100000
open Go.RowKit
open I1 (Mk Tk Rw Lx May Made m0 stepF endF runF allR allQ areP stepF_may stepF_lead m0_may)
/- Scans: plain. Pieces, marks, counts, tokens of a text, part by part. -/
abbrev P3 := Int × Nat × Nat
def tR (x : P3) : Rw := (x.1, (x.2.1 : Int), (x.2.2 : Int))
def lens : List P3 → Nat
  | [] => 0
  | r :: L => r.2.1 + lens L
/-- Marks, counts, tokens, the last mark. -/
structure Rn where
  M : List Mk
  C : List Int
  T : List Tk
  m : Mk
def upC (k : Nat) (C : List Int) : List Int := C.map fun c => c + (k : Int)
theorem upC_len (k : Nat) (C : List Int) : (upC k C).length = C.length := by simp [upC]
def runM (m : Mk) (s : List Nat) : List P3 → Rn
  | [] => ⟨[], [], [], m⟩
  | r :: L =>
    ⟨(stepF m (s.take r.2.1) r.1 (r.2.1 : Nat)).1 :: (runM (stepF m (s.take r.2.1) r.1 (r.2.1 : Nat)).1 (s.drop r.2.1) L).M,
     ((stepF m (s.take r.2.1) r.1 (r.2.1 : Nat)).2.length : Int) :: upC (stepF m (s.take r.2.1) r.1 (r.2.1 : Nat)).2.length (runM (stepF m (s.take r.2.1) r.1 (r.2.1 : Nat)).1 (s.drop r.2.1) L).C,
     (stepF m (s.take r.2.1) r.1 (r.2.1 : Nat)).2 ++ (runM (stepF m (s.take r.2.1) r.1 (r.2.1 : Nat)).1 (s.drop r.2.1) L).T,
     (runM (stepF m (s.take r.2.1) r.1 (r.2.1 : Nat)).1 (s.drop r.2.1) L).m⟩
theorem runM_len : ∀ (L : List P3) (m : Mk) (s : List Nat), (runM m s L).M.length = L.length ∧ (runM m s L).C.length = L.length
  | [], m, s => by simp [runM]
  | r :: L, m, s => by
    have := runM_len L (stepF m (s.take r.2.1) r.1 (r.2.1 : Nat)).1 (s.drop r.2.1)
    simp [runM, upC_len, this.1, this.2]
/-- Each piece takes a byte at least, all together no more than there are. -/
structure Fit (L : List P3) (s : List Nat) : Prop where
  one : ∀ r ∈ L, 1 ≤ r.2.1
  le : lens L ≤ s.length
theorem Fit.tl {r : P3} {L : List P3} {s : List Nat} (h : Fit (r :: L) s) : Fit L (s.drop r.2.1) :=
  ⟨fun x hx => h.one x (List.mem_cons_of_mem _ hx), by have := h.le; rw [lens] at this; rw [List.length_drop]; omega⟩
theorem fit_len : ∀ (L : List P3), (∀ r ∈ L, 1 ≤ r.2.1) → L.length ≤ lens L
  | [], _ => Nat.le_refl _
  | r :: L, h => by
    have := fit_len L (fun x hx => h x (List.mem_cons_of_mem _ hx))
    have := h r (List.mem_cons_self ..)
    rw [lens, List.length_cons]; omega
theorem runM_may : ∀ (L : List P3) (m : Mk) (s : List Nat), May m → Fit L s → m.lead + (s.length : Int) ≤ 65536 → (∀ x ∈ (runM m s L).M, May x) ∧ May (runM m s L).m ∧ (runM m s L).m.lead ≤ m.lead + (lens L : Int)
  | [], m, s, h, _, _ => ⟨by simp [runM], h, by simp [runM, lens]⟩
  | r :: L, m, s, h, hf, hl => by
    have h1 := hf.one r (List.mem_cons_self ..)
    have h2 := hf.le
    rw [lens] at h2
    have hmd : Made m (s.take r.2.1) (r.2.1 : Nat) := ⟨by omega, by rw [List.length_take]; omega, by omega⟩
    have hm := stepF_may h hmd (k := r.1)
    have hd := stepF_lead (m := m) (s := s.take r.2.1) (k := r.1) h.l0 (show (0 : Int) ≤ (r.2.1 : Nat) by omega)
    obtain ⟨g1, g2, g3⟩ := runM_may L _ _ hm hf.tl (by rw [List.length_drop]; omega)
    refine ⟨fun x hx => ?_, g2, ?_⟩
    · rw [runM] at hx
      rcases List.mem_cons.1 hx with rfl | hx
      · exact hm
      · exact g1 x hx
    · rw [lens]
      simp only [runM]
      push_cast
      omega
theorem pcA_fit {d : Df} (hd : MayD d) (ks : Nat → Int) : ∀ (n : Nat) (l : List Nat), l.length ≤ n → (∀ r ∈ pcA d ks l, 1 ≤ r.2.1) ∧ lens (pcA d ks l) = l.length
  | 0, l, h => by
    have : l = [] := List.length_eq_zero_iff.1 (by omega)
    subst this; simp [pcA_nil, lens]
  | n + 1, l, h => by
    by_cases hl : l = []
    · subst hl; simp [pcA_nil, lens]
    · have h1 := pcF_len hd ks hl
      rw [pcA_cons hd ks hl]
      obtain ⟨i1, i2⟩ := pcA_fit hd ks n (l.drop (pcF ks (ofF d l)).2.1) (by rw [List.length_drop]; omega)
      refine ⟨fun r hr => ?_, ?_⟩
      · rcases List.mem_cons.1 hr with rfl | hr
        · exact h1.1
        · exact i1 r hr
      · rw [lens, i2, List.length_drop]; omega
/-- Where piece k begins. -/
def off (L : List P3) (k : Nat) : Nat := lens (L.take k)
end Go.Proofs.Ytemkppjdfjoipaa.I1.X
end
