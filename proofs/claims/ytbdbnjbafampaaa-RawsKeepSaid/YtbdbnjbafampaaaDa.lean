/- Packages dfa, mini, munch. -/
import Derived.WalkKit
import Derived.Below
import Derived.Laws.AppendOwn
import Derived.Laws.OwnMore
import Derived.Lib.Hide
import Derived.Lib.Walk
import Derived.Deep.MidRow
import Derived.Deep.WholeRow
namespace Go.Proofs.Ytbdbnjbafampaaa
set_option linter.unusedSimpArgs false
set_option linter.unusedVariables false
set_option maxRecDepth 100000
open Go.RowKit
/- Automata without choice: plain. -/
/-- An automaton. -/
structure Df where
  st : Int
  cl : Nat → Nat
  nx : List (List Int)
  rl : List Int
def row0 (d : Df) : List Int := match d.nx with
  | [] => []
  | r :: _ => r
def clsOk (d : Df) : Bool := (List.range 256).all fun i => decide (d.cl i < (row0 d).length)
def rowOk (k m : Nat) (r : List Int) : Bool := decide (r.length = m) && r.all fun x => decide (x < (k : Int))
def rowsOk (d : Df) : Bool := d.nx.all (rowOk d.nx.length (row0 d).length)
def rlsOk (d : Df) : Bool := d.rl.all fun r => decide (r < 48)
def stOk (d : Df) : Bool := decide (0 ≤ d.st) && decide (d.st < (d.nx.length : Int))
def mayD (d : Df) : Bool := decide (d.nx.length = d.rl.length) && (stOk d && ((decide ((row0 d).length ≤ 256) && clsOk d) && (rowsOk d && rlsOk d)))
def tooD (d : Df) : Bool := decide (2048 < d.nx.length) || decide (2048 < d.rl.length)
/-- Check's answer. -/
def chkD (d : Df) : Int := if tooD d = true then 3 else if mayD d = true then 0 else 2
/-- Where a byte leads from a state; -1: nowhere. -/
def cellAt (d : Df) (s c : Nat) : Int := match d.nx[s]? with
  | some r => r.getD c (-1)
  | none => -1
def goD (d : Df) (s : Int) (b : Nat) : Int := if s < 0 then -1 else if cellAt d s.toNat (d.cl b) < 0 then -1 else cellAt d s.toNat (d.cl b)
def walkD (d : Df) : Int → List Nat → Int
  | s, [] => s
  | s, b :: r => walkD d (goD d s b) r
def rlAt (d : Df) (s : Int) : Int := if s < 0 then -1 else if d.rl.getD s.toNat (-1) < 0 then -1 else d.rl.getD s.toNat (-1)
structure MayD (d : Df) : Prop where
  ln : d.nx.length = d.rl.length
  s0 : 0 ≤ d.st
  s1 : d.st < (d.nx.length : Int)
  m1 : (row0 d).length ≤ 256
  cl : ∀ i, i < 256 → d.cl i < (row0 d).length
  rw : ∀ r ∈ d.nx, r.length = (row0 d).length ∧ ∀ x ∈ r, x < (d.nx.length : Int)
  rl : ∀ r ∈ d.rl, r < 48
  big : d.nx.length ≤ 2048
theorem chk_may {d : Df} (h : chkD d = 0) : MayD d := by
  unfold chkD at h
  by_cases h1 : tooD d = true
  · rw [if_pos h1] at h; cases h
  · rw [if_neg h1] at h
    by_cases h2 : mayD d = true
    · unfold mayD stOk clsOk rowsOk rowOk rlsOk at h2
      simp only [Bool.and_eq_true, decide_eq_true_eq, List.all_eq_true, List.mem_range] at h2
      obtain ⟨a1, ⟨a2, a3⟩, ⟨a4, a5⟩, a6, a7⟩ := h2
      unfold tooD at h1
      simp only [Bool.or_eq_true, decide_eq_true_eq, not_or] at h1
      exact ⟨a1, a2, a3, a4, a5, a6, a7, by omega⟩
    · rw [if_neg h2] at h; cases h
theorem goD_lt {d : Df} (h : MayD d) (s : Int) (b : Nat) : goD d s b < (d.nx.length : Int) ∧ -1 ≤ goD d s b := by
  have := h.s0; have := h.s1
  unfold goD
  split
  · omega
  · split
    · omega
    · refine ⟨?_, by omega⟩
      unfold cellAt
      cases hs : d.nx[s.toNat]? with
      | none => show (-1 : Int) < _; omega
      | some r =>
        show r.getD (d.cl b) (-1) < _
        rw [List.getD_eq_getElem?_getD]
        cases hc : r[d.cl b]? with
        | none => show (-1 : Int) < _; omega
        | some x => exact (h.rw r (List.mem_of_getElem? hs)).2 x (List.mem_of_getElem? hc)
theorem walkD_app (d : Df) : ∀ (x y : List Nat) (s : Int), walkD d s (x ++ y) = walkD d (walkD d s x) y
  | [], y, s => rfl
  | b :: x, y, s => by rw [List.cons_append, walkD, walkD, walkD_app d x y]
theorem walkD_lt {d : Df} (h : MayD d) : ∀ (x : List Nat) (s : Int), -1 ≤ s → s < (d.nx.length : Int) → walkD d s x < (d.nx.length : Int) ∧ -1 ≤ walkD d s x
  | [], s, h1, h2 => ⟨h2, h1⟩
  | b :: x, s, h1, h2 => by
    rw [walkD]
    exact walkD_lt h x _ (goD_lt h s b).2 (goD_lt h s b).1
theorem goD_neg (d : Df) (b : Nat) : goD d (-1) b = -1 := rfl
theorem walkD_neg (d : Df) : ∀ (x : List Nat), walkD d (-1) x = -1
  | [] => rfl
  | b :: x => by rw [walkD, goD_neg, walkD_neg d x]
end Go.Proofs.Ytbdbnjbafampaaa
