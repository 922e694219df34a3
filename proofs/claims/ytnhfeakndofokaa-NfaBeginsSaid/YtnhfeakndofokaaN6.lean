/- Package nfa, plain. -/
import Derived.Test.YtnhfeakndofokaaN2
import Derived.WalkKit
import Derived.Below
import Derived.Laws.AppendOwn
import Derived.Laws.OwnMore
namespace Go.Proofs.Ytnhfeakndofokaa
set_option linter.unusedSimpArgs false
set_option linter.unusedVariables false
set_option maxRecDepth 100000
/- NfaBig; the words of a set; the chapter's automaton. -/
def capF (m : Nat) : List Nst → Nat
  | [] => 0
  | s :: r => min s.fr.length (m + 1) + capF m r
theorem capF_app (m : Nat) : ∀ a b : List Nst, capF m (a ++ b) = capF m a + capF m b
  | [], b => by simp [capF]
  | s :: a, b => by simp only [List.cons_append, capF, capF_app m a b]; omega
theorem capF_take (m : Nat) (ss : List Nst) (j : Nat) (h : j < ss.length) : capF m (ss.take (j + 1)) = capF m (ss.take j) + min (ss[j]).fr.length (m + 1) := by
  rw [List.take_add_one, List.getElem?_eq_getElem h, capF_app]
  simp [capF]
theorem capF_take_le (m : Nat) : ∀ (ss : List Nst) (j : Nat), capF m (ss.take j) ≤ capF m ss
  | [], j => by simp [capF]
  | s :: r, 0 => by simp [capF]
  | s :: r, j + 1 => by
    have := capF_take_le m r j
    simp only [List.take_succ_cons, capF]; omega
theorem capF_frees (m : Nat) : ∀ (ss : List Nst), capF m ss ≤ m → capF m ss = frees ss
  | [], _ => rfl
  | s :: r, h => by
    simp only [capF] at h
    have h2 := capF_frees m r (by omega)
    simp only [capF, frees, h2]; omega
theorem capF_le (m : Nat) : ∀ (ss : List Nst), capF m ss ≤ frees ss
  | [] => Nat.le_refl _
  | s :: r => by have := capF_le m r; simp only [capF, frees]; omega
/-- NfaBig's answer. -/
def bigN (m : Nat) (ss : List Nst) : Bool := decide (m < ss.length + capF m ss)
theorem bigN_no {m : Nat} {ss : List Nst} (h : bigN m ss = false) : ss.length + frees ss ≤ m := by
  unfold bigN at h
  simp only [decide_eq_false_iff_not, Nat.not_lt] at h
  rw [← capF_frees m ss (by omega)]; exact h
/-- Is a byte in a set of four words? -/
def hasU (u : Nat → Int) (b : UInt8) : Bool := (u (b.toNat / 64)).toNat.testBit (b.toNat % 64)
def uA : Nat → Int := fun i => if i = 1 then 8589934592 else 0
def uZ : Nat → Int := fun _ => 0
/-- The automaton of the rules a and a*. -/
def ex6 : List Nst := [⟨uZ, -1, [], 0⟩, ⟨uA, 0, [], -1⟩, ⟨uZ, -1, [], 1⟩, ⟨uZ, -1, [2, 4], -1⟩, ⟨uA, 3, [], -1⟩, ⟨uZ, -1, [1, 3], -1⟩]
theorem ex6_ok : chkN 5 ex6 = 0 := by decide
theorem ex6_a : accL hasU 5 ex6 [97] = [0, 1] := by decide
theorem ex6_aa : accL hasU 5 ex6 [97, 97] = [1] := by decide
end Go.Proofs.Ytnhfeakndofokaa
