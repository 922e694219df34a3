/- Package nfa. -/
import Derived.Test.YtnhfeakndofokaaProg
import Derived.Test.YtnhfeakndofokaaN31
import Derived.Test.YtnhfeakndofokaaN16
import Derived.WalkKit
import Derived.WalkLawsBesides
import Derived.WalkSpells
import Derived.Outline
import Derived.Lib.Walk
import Derived.Lib.Hide
import Derived.Lib.Slices
import Derived.Lib.Strings
import Derived.RegionTactic
import Derived.LoopTactic
import Derived.Below
import Derived.IntWalk
import Derived.Deep.QuietTactic
import Derived.BigQuiet
import Derived.Deep.MidRow
import Derived.Maps.AppendAt
import Derived.Laws.Rows
import Derived.Laws.Tables
import Derived.Deep.WholeRow
import Derived.Deep.Cut
import Derived.Deep.CutRange
import Derived.Lib.SliceRun
import Derived.Laws.MakeOwn
import Derived.Deep.RegionLaw
import Derived.Deep.RegionLawGrows
namespace Go.Proofs.Ytnhfeakndofokaa
set_option linter.unusedSimpArgs false
set_option linter.unusedVariables false
set_option maxRecDepth 100000
open Go.RowKit
/- A twin of an automaton in memory. -/
theorem row_base {w : World} {B C : Nat} {e : TypeId} {size : Nat} {v : Value} {n : Nat} {xs : List Value} (h : w.ownsRow B e size v n xs) (hc : C ≤ B) : w.ownsRow C e size v n xs := by
  refine ⟨h.1, ?_⟩
  rcases h.2 with h1 | ⟨g, cap, cur, hv, hb, hr⟩
  · exact .inl h1
  · exact .inr ⟨g, cap, cur, hv, Nat.le_trans hc hb, hr⟩
/-- The list of one state is a twin. -/
def TR (B : Nat) (w : World) (z : Nq) : Prop := ∃ g, z.2.1 = some ⟨g, 0, none⟩ ∧ w.ownsRow B 3 1 (.slice (some ⟨g, 0, none⟩) (z.1.fr.length + 3) z.2.2) (z.1.fr.length + 3) (zi (z.1.fr ++ mk7 3))
theorem TR.kept {B : Nat} {w w' : World} {z : Nq} {row : Option Nat} (h : TR B w z) (hg : w.grownBy w' row) (hn : ∀ g, z.2.1 = some ⟨g, 0, none⟩ → some g ≠ row) : TR B w' z := by
  obtain ⟨g, h1, h2⟩ := h
  exact ⟨g, h1, World.ownsRow.kept h2 hg (.inr (hn g h1))⟩
theorem TR.lt {B : Nat} {w : World} {z : Nq} (h : TR B w z) {g : Nat} (he : z.2.1 = some ⟨g, 0, none⟩) : B ≤ g ∧ g < w.heap.size := by
  obtain ⟨g', h1, h2⟩ := h
  rw [h1] at he
  have hgg : g' = g := by simpa using he
  exact hgg ▸ h2.lt g' rfl
/-- Twins of states, and marks behind them, in a row of one's own. -/
def TN (B : Nat) (zs ms : List Nq) (sl : Value) (w : World) : Prop := (∀ z ∈ zs, TR B w z ∧ ∀ g, z.2.1 = some ⟨g, 0, none⟩ → some g ≠ sl.ownBlock) ∧ w.ownsRow B 49 7 sl (zs ++ ms).length (flat ((zs ++ ms).map zC))
theorem TN.nil (B : Nat) (w : World) : TN B [] [] (.slice none 0 0) w := ⟨fun z hz => absurd hz (by simp), ⟨by simp [flat], .inl ⟨rfl, rfl⟩⟩⟩
theorem TN.up {B : Nat} {zs ms : List Nq} {sl : Value} {w w' : World} (h : TN B zs ms sl w) (hb : Below w.heap.size w w') : TN B zs ms sl w' := by
  have hg : w.grownBy w' none := ⟨hb.os, hb.tape, hb.output, hb.size, fun k hk _ => hb.block k hk⟩
  refine ⟨fun z hz => ⟨(h.1 z hz).1.kept hg (fun g _ => by simp), (h.1 z hz).2⟩, World.ownsRow.kept h.2 hg ?_⟩
  by_cases hp : sl.ownBlock = none
  · exact .inl hp
  · exact .inr hp
theorem TN.keep {B : Nat} {zs ms : List Nq} {sl sl' : Value} {w w2 : World} (h : TN B zs ms sl w) (hg : w.grownBy w2 sl.ownBlock) (hat : sl'.ownBlock = sl.ownBlock ∨ sl'.ownBlock = some w.heap.size) : ∀ z ∈ zs, TR B w2 z ∧ ∀ g, z.2.1 = some ⟨g, 0, none⟩ → some g ≠ sl'.ownBlock := by
  intro z hz
  obtain ⟨h1, h2⟩ := h.1 z hz
  refine ⟨h1.kept hg h2, fun g he e => ?_⟩
  rcases hat with ha | ha
  · rw [ha] at e; exact h2 g he e
  · rw [ha] at e
    have := (h1.lt he).2
    cases e
    omega
/-- One twin more. -/
theorem TN.app {B : Nat} {zs : List Nq} {sl sl' : Value} {w w2 : World} {z : Nq} (h : TN B zs [] sl w) (hz : TR B w z) (hne : ∀ g, z.2.1 = some ⟨g, 0, none⟩ → some g ≠ sl.ownBlock)
    (hown : w2.ownsRow B 49 7 sl' (zs.length + 1) (flat (zs.map zC) ++ (zC z).toList)) (hg : w.grownBy w2 sl.ownBlock) (hat : sl'.ownBlock = sl.ownBlock ∨ sl'.ownBlock = some w.heap.size) : TN B (zs ++ [z]) [] sl' w2 := by
  refine ⟨fun y hy => ?_, ?_⟩
  · rcases List.mem_append.1 hy with hy | hy
    · exact h.keep hg hat y hy
    · simp at hy
      subst hy
      refine ⟨hz.kept hg hne, fun g he e => ?_⟩
      rcases hat with ha | ha
      · rw [ha] at e; exact hne g he e
      · rw [ha] at e
        have := (hz.lt he).2
        cases e
        omega
  · rw [List.append_nil, List.map_append, flat_app]
    have e : flat (List.map zC [z]) = (zC z).toList := by simp [flat]
    rw [e, List.length_append]
    exact hown
/-- One mark more. -/
theorem TN.mark {B : Nat} {zs ms : List Nq} {sl sl' : Value} {w w2 : World} {z : Nq} (h : TN B zs ms sl w)
    (hown : w2.ownsRow B 49 7 sl' ((zs ++ ms).length + 1) (flat ((zs ++ ms).map zC) ++ (zC z).toList)) (hg : w.grownBy w2 sl.ownBlock) (hat : sl'.ownBlock = sl.ownBlock ∨ sl'.ownBlock = some w.heap.size) : TN B zs (ms ++ [z]) sl' w2 := by
  refine ⟨h.keep hg hat, ?_⟩
  rw [← List.append_assoc, List.map_append, flat_app]
  have e : flat (List.map zC [z]) = (zC z).toList := by simp [flat]
  rw [e, List.length_append]
  exact hown
theorem TN.form {B : Nat} {zs ms : List Nq} {sl : Value} {w : World} (h : TN B zs ms sl w) : ∃ p c, sl = .slice p (zs ++ ms).length c := row_form7 h.2
def mkq (k : Nat) : Nq := (⟨fun _ => 0, -7000 - (k : Int), [], 0⟩, none, 0)
def mkqs (k : Nat) : List Nq := (List.range k).map mkq
theorem mkqs_succ (k : Nat) : mkqs (k + 1) = mkqs k ++ [mkq k] := by simp [mkqs, List.range_succ]
theorem mkqs_len (k : Nat) : (mkqs k).length = k := by simp [mkqs]
/-- What TwinNfa answers. -/
def TwN (w : World) (st : Int) (ss : List Nst) (e : Ending) (w' : World) : Prop := ∃ g cap zs, e = .returned (.agg #[.int .i64 st, .slice (some ⟨g, 0, none⟩) ss.length cap]) ∧ zs.map (fun z : Nq => z.1) = ss ∧ TN w.heap.size zs (mkqs 3) (.slice (some ⟨g, 0, none⟩) (ss.length + 3) cap) w' ∧ Below w.heap.size w w'
end Go.Proofs.Ytnhfeakndofokaa
