/- Package indent. -/
import Derived.Great.BuildSlice
import Derived.WalkKit
import Derived.Maps.OwnSet
import Derived.Maps.OwnOps
import Derived.Maps.Own
import Derived.DeepKeys5
import Derived.BigFrame
import Derived.WalkMore
import Derived.ScopeJumps
import Derived.StillTailTactics
import Derived.Stop.BytesEq
import Derived.WalkLawsBesides
import Derived.WalkSpells
import Derived.Outline
import Derived.Lib.Walk
import Derived.Lib.Hide
import Derived.Lib.Slices
import Derived.Lib.Strings
import Derived.RegionTactic
import Derived.LoopTactic
import Derived.Below
import Derived.IntWalk
import Derived.Deep.QuietTactic
import Derived.BigQuiet
import Derived.Deep.MidRow
import Derived.Maps.AppendAt
import Derived.Laws.Rows
import Derived.Laws.Tables
import Derived.Deep.WholeRow
import Derived.Deep.Cut
import Derived.Deep.CutRange
import Derived.Lib.SliceRun
import Derived.Laws.MakeOwn
import Derived.Deep.RegionLaw
import Derived.Deep.RegionLawGrows
import Derived.Deep.RegionHeld3
import Derived.RegionCalls
import Derived.Deep.RegionWith
import Derived.Deep.Light
import Derived.Laws.CopyOwn
import Derived.Laws.ResultCell
namespace Go.Proofs.Ytemkppjdfjoipaa.I1
set_option linter.unusedSimpArgs false
set_option linter.unusedVariables false
set_option maxRecDepth 100000
open Go.RowKit
/- Marks and steps, plain. -/
structure Mk where
  cols : List Int
  opn : Int
  col : Int
  fresh : Bool
  lead : Int
/-- A token: kind, lead, width. -/
abbrev Tk := Int × Int × Int
structure May (m : Mk) : Prop where
  ne : 0 < m.cols.length
  h0 : m.cols.getD 0 0 = 0
  up : ∀ i, i + 1 < m.cols.length → m.cols.getD i 0 < m.cols.getD (i + 1) 0
  top : m.cols.getD (m.cols.length - 1) 0 ≤ 4096
  o0 : 0 ≤ m.opn
  o1 : m.opn ≤ 65536
  l0 : 0 ≤ m.lead
  l1 : m.lead ≤ 65536
  c0 : 0 ≤ m.col
  c1 : m.col ≤ 4096
theorem rise_le {l : List Int} (up : ∀ i, i + 1 < l.length → l.getD i 0 < l.getD (i + 1) 0) : ∀ (d i : Nat), i + d < l.length → l.getD i 0 + (d : Nat) ≤ l.getD (i + d) 0
  | 0, i, _ => by simp
  | d + 1, i, h => by
    have h1 := rise_le up d i (by omega)
    have h2 := up (i + d) (by omega)
    rw [show i + (d + 1) = i + d + 1 by omega]
    push_cast
    omega
theorem May.at {m : Mk} (h : May m) {i : Nat} (hi : i < m.cols.length) : 0 ≤ m.cols.getD i 0 ∧ m.cols.getD i 0 ≤ 4096 ∧ (i : Int) ≤ m.cols.getD i 0 := by
  have h1 := rise_le h.up i 0 (by omega)
  have h2 := rise_le h.up (m.cols.length - 1 - i) i (by omega)
  rw [show i + (m.cols.length - 1 - i) = m.cols.length - 1 by omega] at h2
  rw [Nat.zero_add, h.h0] at h1
  have := h.top
  omega
theorem May.len {m : Mk} (h : May m) : m.cols.length ≤ 4097 := by
  have := h.at (i := m.cols.length - 1) (by have := h.ne; omega)
  have := h.ne
  omega
/-- Where a byte leads «to». -/
def tabF (c : Int) (b : Nat) : Int := if b = 9 then c + (8 - c % 8) else c + 1
def colU (c : Int) : List Nat → Int
  | [] => c
  | b :: s => colU (tabF c b) s
def colC (c : Int) : List Nat → Int
  | [] => c
  | b :: s => colC (min (tabF c b) 4096) s
theorem tabF_gt {c : Int} (b : Nat) : c < tabF c b ∧ tabF c b ≤ c + 8 := by unfold tabF; split <;> omega
theorem col_cap : ∀ (s : List Nat) (c : Int), 0 ≤ c → min (colU c s) 4096 = colC (min c 4096) s
  | [], c, _ => rfl
  | b :: s, c, h => by
    unfold colU colC
    have h1 := @tabF_gt c b
    rw [col_cap s (tabF c b) (by omega)]
    congr 1
    unfold tabF at *
    split <;> omega
/-- The document's way. -/
theorem colC_le : ∀ {s : List Nat} {c : Int}, 0 ≤ c → c ≤ 4096 → 0 ≤ colC c s ∧ colC c s ≤ 4096
  | [], c, h1, h2 => ⟨h1, h2⟩
  | b :: s, c, h1, h2 => by
    have h3 := @tabF_gt c b
    exact colC_le (s := s) (c := min (tabF c b) 4096) (by omega) (by omega)
/-- How many of the first n columns stay: those behind the last one that is not above. -/
def keepN (cols : List Int) (col : Int) : Nat → Nat
  | 0 => 0
  | n + 1 => if col < cols.getD n 0 then keepN cols col n else n + 1
theorem keepN_le (cols : List Int) (col : Int) : ∀ n, keepN cols col n ≤ n
  | 0 => Nat.le_refl _
  | n + 1 => by unfold keepN; split <;> have := keepN_le cols col n <;> omega
theorem keepN_pos {cols : List Int} {col : Int} (h0 : cols.getD 0 0 = 0) (hc : 0 ≤ col) : ∀ {n}, 0 < n → 0 < keepN cols col n
  | n + 1, _ => by
    unfold keepN
    split
    · rename_i h
      cases n with
      | zero => rw [h0] at h; omega
      | succ n => exact keepN_pos h0 hc (by omega)
    · omega
def blkF (cols : List Int) (col : Int) : List Int × List Tk :=
  if cols.getD (cols.length - 1) 0 < col then (cols ++ [col], [(20, 0, 0)])
  else (cols.take (keepN cols col cols.length), List.replicate (cols.length - keepN cols col cols.length) (21, 0, 0) ++ (if cols.getD (keepN cols col cols.length - 1) 0 < col then [(23, 0, 0)] else []))
def leadF (x : Int) : List Tk → List Tk
  | [] => []
  | (a, _, c) :: r => (a, x, c) :: r
def opnF (k o : Int) : Int := if k = 9 then min (o + 1) 65536 else if k = 10 then max (o - 1) 0 else o
def begF (m : Mk) : Bool := m.fresh && decide (m.opn = 0)
def tokF (m : Mk) (k n : Int) : Mk × List Tk :=
  if begF m = true then (⟨(blkF m.cols m.col).1, opnF k m.opn, 0, false, 0⟩, leadF m.lead ((blkF m.cols m.col).2 ++ [(k, 0, n)]))
  else (⟨m.cols, opnF k m.opn, 0, false, 0⟩, [(k, m.lead, n)])
def stepF (m : Mk) (s : List Nat) (k n : Int) : Mk × List Tk :=
  if k = 25 then (⟨m.cols, m.opn, if begF m = true then colC m.col s else m.col, m.fresh, m.lead + n⟩, [])
  else if k = 26 ∨ k = 27 then (⟨m.cols, m.opn, m.col, m.fresh, m.lead + n⟩, [])
  else if k = 19 then (if m.fresh = false ∧ m.opn = 0 then (⟨m.cols, m.opn, 0, true, 0⟩, [(19, m.lead, n)]) else (⟨m.cols, m.opn, if m.opn = 0 then 0 else m.col, m.fresh, m.lead + n⟩, []))
  else tokF m k n
def endF (m : Mk) : List Tk := (if m.fresh = true then [] else [(19, 0, 0)]) ++ List.replicate (m.cols.length - 1) (21, 0, 0) ++ [(22, m.lead, 0)]
def Made (m : Mk) (s : List Nat) (n : Int) : Prop := 1 ≤ n ∧ (s.length : Int) = n ∧ n ≤ 65536 - m.lead
theorem blkF_len (cols : List Int) (col : Int) : (blkF cols col).1.length ≤ cols.length + 1 ∧ (blkF cols col).2.length ≤ cols.length + 1 := by
  unfold blkF
  split
  · simp
  · have := keepN_le cols col cols.length
    simp only [List.length_take, List.length_append, List.length_replicate]
    split <;> simp <;> omega
theorem stepF_len (m : Mk) (s : List Nat) (k n : Int) : (stepF m s k n).2.length ≤ m.cols.length + 2 := by
  unfold stepF tokF
  split
  · simp
  · split
    · simp
    · split
      · split <;> simp
      · split
        · have h := (blkF_len m.cols m.col).2
          have e : ∀ (x : Int) (l : List Tk), (leadF x l).length = l.length := fun x l => by cases l <;> simp [leadF]
          simp only [e, List.length_append, List.length_singleton]; omega
        · simp
theorem getD_take {l : List Int} {k i : Nat} (h : i < k) : (l.take k).getD i 0 = l.getD i 0 := by
  simp [List.getD, List.getElem?_take, h]
theorem getD_app {l r : List Int} {i : Nat} (h : i < l.length) : (l ++ r).getD i 0 = l.getD i 0 := by
  simp [List.getD, List.getElem?_append_left h]
theorem getD_end (l : List Int) (c : Int) : (l ++ [c]).getD l.length 0 = c := by simp [List.getD]
/-- Where a step leads «to» may be. -/
theorem stepF_may {m : Mk} (h : May m) {s : List Nat} {k n : Int} (hs : Made m s n) : May (stepF m s k n).1 := by
  obtain ⟨h1, h2, h3⟩ := hs
  have hl := h.l0
  unfold stepF
  split
  · refine ⟨h.ne, h.h0, h.up, h.top, h.o0, h.o1, by simp only []; omega, by simp only []; omega, ?_, ?_⟩ <;> simp only [] <;> split
    · exact (colC_le h.c0 h.c1).1
    · exact h.c0
    · exact (colC_le h.c0 h.c1).2
    · exact h.c1
  · split
    · exact ⟨h.ne, h.h0, h.up, h.top, h.o0, h.o1, by simp only []; omega, by simp only []; omega, h.c0, h.c1⟩
    · split
      · split
        · exact ⟨h.ne, h.h0, h.up, h.top, h.o0, h.o1, by simp, by simp, by simp, by simp⟩
        · refine ⟨h.ne, h.h0, h.up, h.top, h.o0, h.o1, by simp only []; omega, by simp only []; omega, ?_, ?_⟩ <;> simp only [] <;> split
          · omega
          · exact h.c0
          · omega
          · exact h.c1
      · have ho : 0 ≤ opnF k m.opn ∧ opnF k m.opn ≤ 65536 := by
          have := h.o0; have := h.o1
          unfold opnF; split
          · omega
          · split <;> omega
        unfold tokF
        split
        · unfold blkF
          split
          · rename_i hlt
            refine ⟨by simp, ?_, fun i hi => ?_, ?_, ho.1, ho.2, by simp, by simp, by simp, by simp⟩
            · simp only []; rw [getD_app h.ne]; exact h.h0
            · simp only [List.length_append, List.length_singleton] at hi ⊢
              by_cases e : i + 1 < m.cols.length
              · rw [getD_app (by omega), getD_app e]; exact h.up i e
              · rw [getD_app (by omega), show i + 1 = m.cols.length by omega, getD_end, show i = m.cols.length - 1 by omega]; exact hlt
            · simp only [List.length_append, List.length_singleton, Nat.add_sub_cancel]; rw [getD_end]; exact h.c1
          · have hk := keepN_le m.cols m.col m.cols.length
            have hp := keepN_pos h.h0 h.c0 h.ne
            refine ⟨by simp only [List.length_take]; omega, ?_, fun i hi => ?_, ?_, ho.1, ho.2, by simp, by simp, by simp, by simp⟩
            · simp only []; rw [getD_take hp]; exact h.h0
            · simp only [List.length_take] at hi ⊢
              rw [getD_take (by omega), getD_take (by omega)]; exact h.up i (by omega)
            · simp only [List.length_take]
              rw [Nat.min_eq_left hk, getD_take (by omega)]
              exact (h.at (by omega)).2.1
        · exact ⟨h.ne, h.h0, h.up, h.top, ho.1, ho.2, by simp, by simp, by simp, by simp⟩
end Go.Proofs.Ytemkppjdfjoipaa.I1
