/- Package nfa. -/
import Derived.Test.YtnhfeakndofokaaProg
import Derived.Test.YtnhfeakndofokaaN16
import Derived.Test.YtnhfeakndofokaaInv
import Derived.WalkKit
import Derived.WalkLawsBesides
import Derived.WalkSpells
import Derived.Outline
import Derived.Lib.Walk
import Derived.Lib.Hide
import Derived.Lib.Slices
import Derived.Lib.Strings
import Derived.RegionTactic
import Derived.LoopTactic
import Derived.Below
import Derived.IntWalk
import Derived.Deep.QuietTactic
import Derived.BigQuiet
import Derived.Deep.MidRow
import Derived.Maps.AppendAt
import Derived.Laws.Rows
import Derived.Laws.Tables
import Derived.Deep.WholeRow
import Derived.Deep.Cut
import Derived.Deep.CutRange
import Derived.Lib.SliceRun
import Derived.Laws.MakeOwn
import Derived.Deep.RegionLaw
import Derived.Deep.RegionLawGrows
import Derived.Deep.RegionHeld3
import Derived.RegionCalls
import Derived.Deep.RegionWith
namespace Go.Proofs.Ytnhfeakndofokaa
set_option linter.unusedSimpArgs false
set_option linter.unusedVariables false
set_option maxRecDepth 100000
open Go.RowKit
/- What lies in memory, apart; regions that draw, closed. -/
section
variable {P : Program} {ops : Array Oper} {Q : Exit → Act → World → Prop}
/-- What has come up has what it waits for. -/
def Closed (ops : Array Oper) (l : Nat → Bool) : Prop := ∀ i, l i = true → ∀ j, (waitsFor .any ops i).contains j = true → l j = true
theorem Closed.next {l : Nat → Bool} {i : Nat} (h : Closed ops l) (hw : ∀ j, (waitsFor .any ops i).contains j = true → l j = true) : Closed ops (fun j => j == i || l j) := fun k hk j hj => by
  by_cases e : k = i
  · subst e; simp [hw j hj]
  · have : l k = true := by simpa [e] using hk
    simp [h k this j hj]
theorem Closed.none : Closed ops (fun _ => false) := fun _ h => by cases h
theorem Closed.not {l : Nat → Bool} (h : Closed ops l) (i j : Nat) (hj : l j = false) (hw : (waitsFor .any ops i).contains j = true) : l i = false := by
  cases hi : l i with
  | false => rfl
  | true => rw [h i hi j hw] at hj; cases hj
theorem wp_region_owed2 {id : Nat} {a : Act} {w : World} (I : (Nat → Bool) → Act → World → Prop) (hm : P.follows .mixedOrders = true) (hr : rising .any ops = true)
    (h0 : I (fun _ => false) a w.drew) (hstep : Owed P ops Q (fun l a w => Closed ops l ∧ I l a w) 0)
    (hfin : ∀ (l : Nat → Bool) a w, (∀ j, decide (j < ops.size) = true → l j = true) → I l a w → Q .normal a w) : (Code.region id ops true).wp P Q a w :=
  wp_region_owed (fun l a w => Closed ops l ∧ I l a w) hm hr ⟨Closed.none, h0⟩ hstep (fun l a w hl h => hfin l a w hl h.2)
end
/-- A block with its cells, or a row of one's own. -/
inductive It where
  | box (b : Nat) (o : Obj)
  | row (v : Value) (e : TypeId) (size n : Nat) (xs : List Value)
def It.blk : It → Option Nat
  | .box b _ => some b
  | .row v _ _ _ _ => v.ownBlock
def It.lies (B : Nat) (w : World) : It → Prop
  | .box b o => B ≤ b ∧ w.heap[b]? = some o
  | .row v e size n xs => w.ownsRow B e size v n xs
def Apart (x y : It) : Prop := ∀ b, x.blk = some b → y.blk ≠ some b
theorem Apart.symm {x y : It} (h : Apart x y) : Apart y x := fun b hy hx => h b hx hy
theorem It.lt {B : Nat} {w : World} {x : It} (h : x.lies B w) {b : Nat} (hb : x.blk = some b) : B ≤ b ∧ b < w.heap.size := by
  cases x with
  | box b' o =>
    have e : b' = b := by simpa [It.blk] using hb
    subst e
    exact ⟨h.1, (Array.getElem?_eq_some_iff.1 h.2).1⟩
  | row v e size n xs => exact World.ownsRow.lt h b hb
theorem It.kept {B : Nat} {w w' : World} {row : Option Nat} {x : It} (hg : w.grownBy w' row) (h : x.lies B w) (hn : ∀ b, x.blk = some b → some b ≠ row) : x.lies B w' := by
  cases x with
  | box b o => exact ⟨h.1, (hg.block b (Array.getElem?_eq_some_iff.1 h.2).1 (hn b rfl)).trans h.2⟩
  | row v e size n xs =>
    refine World.ownsRow.kept h hg ?_
    cases hv : v.ownBlock with
    | none => exact .inl rfl
    | some b => exact .inr (hn b hv)
structure Sep (B : Nat) (w0 w : World) (L : List It) : Prop where
  bel : Below B w0 w
  sz : B ≤ w.heap.size
  li : ∀ x ∈ L, x.lies B w
  ap : L.Pairwise Apart
theorem Sep.start (w : World) : Sep w.heap.size w w [] := ⟨Below.refl _ _, Nat.le_refl _, by simp, .nil⟩
theorem Sep.drew {B : Nat} {w0 w : World} {L : List It} (h : Sep B w0 w L) : Sep B w0 w.drew L :=
  ⟨below_drewN h.bel 1, h.sz, fun x hx => It.kept (row := none) ⟨rfl, rfl, rfl, Nat.le_refl _, fun _ _ _ => rfl⟩ (h.li x hx) (fun _ _ e => by cases e), h.ap⟩
theorem Sep.alloc {B : Nat} {w0 w : World} {L : List It} (h : Sep B w0 w L) (o : Obj) : Sep B w0 (w.alloc o) (.box w.heap.size o :: L) := by
  refine ⟨h.bel.alloc h.sz _, by simp; have := h.sz; omega, fun x hx => ?_, List.pairwise_cons.2 ⟨fun y hy b hb hyb => ?_, h.ap⟩⟩
  · rcases List.mem_cons.1 hx with rfl | hx
    · exact ⟨h.sz, heap_alloc_last w o⟩
    · exact It.kept (World.grownBy_alloc w o none) (h.li x hx) (fun _ _ e => by cases e)
  · have e : w.heap.size = b := by simpa [It.blk] using hb
    have := (It.lt (h.li y hy) hyb).2
    omega
theorem Sep.rep {B : Nat} {w0 w w' : World} {L : List It} {x x' : It} (h : Sep B w0 w (x :: L)) (hg : w.grownBy w' x.blk) (hl : x'.lies B w') (hat : ∀ b, x'.blk = some b → x.blk = some b ∨ w.heap.size ≤ b) : Sep B w0 w' (x' :: L) := by
  have hx := h.li x (List.mem_cons_self ..)
  have hap := List.pairwise_cons.1 h.ap
  refine ⟨below_grown h.bel hg (fun g e => (It.lt hx e).1) h.sz, Nat.le_trans h.sz hg.size, fun y hy => ?_, List.pairwise_cons.2 ⟨fun y hy b hb hyb => ?_, hap.2⟩⟩
  · rcases List.mem_cons.1 hy with rfl | hy
    · exact hl
    · exact It.kept hg (h.li y (List.mem_cons_of_mem _ hy)) (fun b hb e => hap.1 y hy b e.symm hb)
  · rcases hat b hb with e | e
    · exact hap.1 y hy b e hyb
    · have := (It.lt (h.li y (List.mem_cons_of_mem _ hy)) hyb).2
      omega
theorem Sep.same {B : Nat} {w0 w : World} {L : List It} {x x' : It} (h : Sep B w0 w (x :: L)) (hl : x'.lies B w) (hat : x'.blk = x.blk) : Sep B w0 w (x' :: L) :=
  h.rep ⟨rfl, rfl, rfl, Nat.le_refl _, fun _ _ _ => rfl⟩ hl (fun b hb => .inl (hat ▸ hb))
theorem Sep.up {B : Nat} {w0 w w' : World} {L : List It} (h : Sep B w0 w L) (hb : Below w.heap.size w w') : Sep B w0 w' L :=
  ⟨h.bel.trans (hb.mono h.sz), Nat.le_trans h.sz hb.size, fun x hx => It.kept (row := none) ⟨hb.os, hb.tape, hb.output, hb.size, fun k hk _ => hb.block k hk⟩ (h.li x hx) (fun _ _ e => by cases e), h.ap⟩
theorem Sep.front {B : Nat} {w0 w : World} {L : List It} {x : It} (h : Sep B w0 w L) (hx : x ∈ L) : ∃ M, Sep B w0 w (x :: M) ∧ ∀ y ∈ L, y ≠ x → y ∈ M := by
  obtain ⟨s, t, rfl⟩ := List.append_of_mem hx
  refine ⟨s ++ t, ⟨h.bel, h.sz, fun y hy => h.li y ?_, ?_⟩, fun y hy hn => ?_⟩
  · simp only [List.mem_cons, List.mem_append] at hy ⊢
    rcases hy with h | h | h
    · exact .inr (.inl h)
    · exact .inl h
    · exact .inr (.inr h)
  · exact (List.perm_middle.pairwise_iff (fun h => h.symm)).1 h.ap
  · simp only [List.mem_cons, List.mem_append] at hy ⊢
    rcases hy with h | h | h
    · exact .inl h
    · exact absurd h hn
    · exact .inr h
theorem Sep.tl {B : Nat} {w0 w : World} {L : List It} {x : It} (h : Sep B w0 w (x :: L)) : Sep B w0 w L := ⟨h.bel, h.sz, fun y hy => h.li y (List.mem_cons_of_mem _ hy), (List.pairwise_cons.1 h.ap).2⟩
theorem Sep.empty {B b e size : Nat} {w0 w : World} {L : List It} (h : Sep B w0 w (.box b (.cells #[] e (0, 0)) :: L)) : Sep B w0 w (.row (.slice (some ⟨b, 0, none⟩) 0 0) e size 0 [] :: L) := by
  have hx := h.li _ (List.mem_cons_self ..)
  exact h.same ⟨by simp, .inr ⟨b, 0, #[], rfl, hx.1, hx.2, Nat.le_refl _, by simp [maxLen], by simp, by simp⟩⟩ rfl
/-- Behind an append. -/
theorem Sep.app {B e size n m : Nat} {v v' : Value} {xs ys : List Value} {w0 w w' : World} {L : List It} (h : Sep B w0 w (.row v e size n xs :: L)) (hown : w'.ownsRow B e size v' m ys) (hg : w.grownBy w' v.ownBlock) (hat : v'.ownBlock = v.ownBlock ∨ v'.ownBlock = some w.heap.size) : Sep B w0 w' (.row v' e size m ys :: L) :=
  h.rep (x := .row v e size n xs) (x' := .row v' e size m ys) hg hown (fun b hb => hat.elim (fun e => .inl (e.symm.trans hb)) fun e => .inr (by have h2 : v'.ownBlock = some b := hb; rw [e] at h2; cases h2; exact Nat.le_refl _))
/-- Behind a store. -/
theorem Sep.put {B b : Nat} {o o' : Obj} {w0 w w' : World} {L : List It} (h : Sep B w0 w (.box b o :: L)) (hg : w.grownBy w' (some b)) (hb : w'.heap[b]? = some o') : Sep B w0 w' (.box b o' :: L) :=
  h.rep (x := .box b o) (x' := .box b o') hg ⟨(h.li _ (List.mem_cons_self ..)).1, hb⟩ (fun b' hb' => .inl hb')
end Go.Proofs.Ytnhfeakndofokaa
