/- Package nfa. -/
import Derived.Test.YtnhfeakndofokaaProg
import Derived.Test.YtnhfeakndofokaaN23
import Derived.WalkKit
import Derived.WalkLawsBesides
import Derived.WalkSpells
import Derived.Outline
import Derived.Lib.Walk
import Derived.Lib.Hide
import Derived.Lib.Slices
import Derived.Lib.Strings
import Derived.RegionTactic
import Derived.LoopTactic
import Derived.Below
import Derived.IntWalk
import Derived.Deep.QuietTactic
import Derived.BigQuiet
import Derived.Deep.MidRow
import Derived.Maps.AppendAt
import Derived.Laws.Rows
import Derived.Laws.Tables
import Derived.Deep.WholeRow
import Derived.Deep.Cut
import Derived.Deep.CutRange
import Derived.Lib.SliceRun
import Derived.Laws.MakeOwn
import Derived.Deep.RegionLaw
import Derived.Deep.RegionLawGrows
namespace Go.Proofs.Ytnhfeakndofokaa
set_option linter.unusedSimpArgs false
set_option linter.unusedVariables false
set_option maxRecDepth 100000
open Go.RowKit
/- Of: the loop over the rules. -/
theorem own_same {w w' : World} {base : Nat} {e : TypeId} {size : Nat} {v : Value} {n : Nat} {xs : List Value} (h : w.ownsRow base e size v n xs) (hk : ∀ g, v.ownBlock = some g → w'.heap[g]? = w.heap[g]?) : w'.ownsRow base e size v n xs := by
  obtain ⟨h1, h2⟩ := h
  refine ⟨h1, ?_⟩
  rcases h2 with h2 | ⟨g, cap, cur, rfl, hb, hg, rest⟩
  · exact .inl h2
  · exact .inr ⟨g, cap, cur, rfl, hb, (hk g rfl).trans hg, rest⟩
/-- A protected row grows. -/
theorem BB.grow {B : Nat} {P Q : Nat → Prop} {w0 y w7 : World} {bb : Nat} {zs : List Nq} {sl : Value} {row : Option Nat} (h : BB B P w0 y bb zs sl) (o : Obj) (hg : (y.alloc o).grownBy w7 row) (hrow : ∀ g, row = some g → P g ∧ B ≤ g) (hQ : ∀ b, Q b → (P b ∨ b = y.heap.size + 1) ∧ b < w7.heap.size) : BB B Q w0 w7 bb zs sl := by
  have hya : (y.alloc o).heap.size = y.heap.size + 1 := by simp
  have hgs := hg.size
  have hk : ∀ b, b < y.heap.size → ¬ P b → w7.heap[b]? = y.heap[b]? := fun b hb hn => (hg.block b (by omega) (fun e => hn (hrow b e.symm).1)).trans (heap_alloc_old y o hb)
  have hbb := (Array.getElem?_eq_some_iff.1 h.f).1
  have hsz := h.sz
  refine ⟨⟨hg.os.trans h.bel.os, hg.tape.trans h.bel.tape, hg.output.trans h.bel.output, by have := h.bel.size; omega, fun b hb => ?_⟩, (hk bb hbb fun hp => (h.pr bb hp).2.1 rfl).trans h.f, ⟨fun i hi => (h.ts.1 i hi).mono (fun b hb => ⟨hb.1, by omega, hb.2.2.1, hb.2.2.2.1, fun hq => (hQ b hq).1.elim hb.2.2.2.2 fun e => by have := hb.2.1; omega⟩) (fun b hb _ => hk b hb.2.1 hb.2.2.2.2), own_same h.ts.2 fun g hg' => hk g (World.ownsRow.lt h.ts.2 g hg').2 fun hp => (h.pr g hp).2.2 hg'.symm⟩, h.hb, h.sb, by omega, fun b hq => ?_⟩
  · refine ((hg.block b (by omega) (fun e => ?_)).trans (heap_alloc_old y o (by omega))).trans (h.bel.block b hb)
    have := (hrow b e.symm).2
    omega
  · have hq' := hQ b hq
    rcases hq'.1 with hp | e
    · exact ⟨hq'.2, (h.pr b hp).2⟩
    · refine ⟨hq'.2, by omega, fun e2 => ?_⟩
      have := (World.ownsRow.lt h.ts.2 b e2.symm).2
      omega
/-- What the builder has is an automaton's states. -/
theorem BB.sv {B : Nat} {P : Nat → Prop} {w0 y : World} {bb : Nat} {zs : List Nq} {sl : Value} (h : BB B P w0 y bb zs sl) : SV (fun b => B ≤ b ∧ b < y.heap.size) y (zs.map (·.1)) sl := by
  rcases h.ts.2.2 with ⟨rfl, h0⟩ | ⟨g, cap, cur, rfl, hb, hg, _⟩
  · have hz : zs = [] := List.length_eq_zero_iff.1 h0
    subst hz
    exact ⟨none, 0, rfl, fun hn => absurd rfl hn⟩
  · have hgl := (Array.getElem?_eq_some_iff.1 hg).1
    refine ⟨some ⟨g, 0, none⟩, cap, by simp, fun _ => ⟨g, 0, rfl, ⟨hb, hgl⟩, fun i hi => ?_⟩⟩
    have hi' : i < zs.length := by simpa using hi
    have e : (zs.map (·.1))[i] = zs[i].1 := by simp
    rw [e]
    refine ⟨zs[i].2.1, zs[i].2.2, (h.ts.1 i hi').mono (fun b hb => ⟨hb.1, hb.2.1⟩) (fun b _ _ => rfl), fun j v hv => ?_⟩
    have hj : j < 7 := (Array.getElem?_eq_some_iff.1 hv).1
    have h2 := World.ownsRow.cells h.ts.2 (g := g) rfl (i * 7 + j) v (by rw [flatz_get zs i hi' j hj]; exact hv)
    rw [Addr.add_mid, Nat.zero_add] at h2
    rw [Nat.zero_add]; exact h2
def foldP : Nat → List RT → List Nst → List Int → List Nst × List Int
  | _, [], ss, fs => (ss, fs)
  | i, t :: r, ss, fs => foldP (i + 1) r (ss ++ [⟨uZ, -1, [], (i : Nat)⟩] ++ (layP t (ss.length : Nat) (ss.length + 1)).1) (fs ++ [(layP t (ss.length : Nat) (ss.length + 1)).2])
/-- The automaton of sets and stars of them. -/
def ofS (ts : List RT) : List Nst := (foldP 0 ts [] []).1 ++ [⟨uZ, -1, (foldP 0 ts [] []).2, -1⟩]
theorem ofS_ex : ofS [.mk 2 uA [], .mk 5 uZ [.mk 2 uA []]] = ex6 := rfl
theorem iv_rowI {B : Nat} {y : World} {l : List Int} {sl : Value} (h : y.ownsRow B 3 1 sl l.length (l.map fun x => .int .i64 x)) : ∃ p c, sl = .slice p l.length c ∧ (l ≠ [] → ∃ g, p = some ⟨g, 0, none⟩ ∧ B ≤ g ∧ g < y.heap.size ∧ ∀ i (hi : i < l.length), y.cell? ⟨g, 0 + i, none⟩ = some (.int .i64 l[i])) := by
  rcases h.2 with ⟨rfl, h0⟩ | ⟨g, cap, cur, rfl, hb, hg, _⟩
  · have : l = [] := List.length_eq_zero_iff.1 h0
    subst this
    exact ⟨none, 0, rfl, fun hn => absurd rfl hn⟩
  · refine ⟨_, _, rfl, fun _ => ⟨g, rfl, hb, (Array.getElem?_eq_some_iff.1 hg).1, fun i hi => ?_⟩⟩
    have h2 := World.ownsRow.cells h (g := g) rfl i (.int .i64 l[i]) (by simp [hi])
    rwa [Addr.add_mid] at h2
end Go.Proofs.Ytnhfeakndofokaa
