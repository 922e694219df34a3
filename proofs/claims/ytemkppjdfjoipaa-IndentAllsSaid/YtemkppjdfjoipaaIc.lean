/- Package indent. -/
import Derived.Test.YtemkppjdfjoipaaProg
import Derived.Test.YtemkppjdfjoipaaIb
import Derived.Great.BuildSlice
import Derived.WalkKit
import Derived.Maps.OwnSet
import Derived.Maps.OwnOps
import Derived.Maps.Own
import Derived.DeepKeys5
import Derived.BigFrame
import Derived.WalkMore
import Derived.ScopeJumps
import Derived.StillTailTactics
import Derived.Stop.BytesEq
import Derived.WalkLawsBesides
import Derived.WalkSpells
import Derived.Outline
import Derived.Lib.Walk
import Derived.Lib.Hide
import Derived.Lib.Slices
import Derived.Lib.Strings
import Derived.RegionTactic
import Derived.LoopTactic
import Derived.Below
import Derived.IntWalk
import Derived.Deep.QuietTactic
import Derived.BigQuiet
import Derived.Deep.MidRow
import Derived.Maps.AppendAt
import Derived.Laws.Rows
import Derived.Laws.Tables
import Derived.Deep.WholeRow
import Derived.Deep.Cut
import Derived.Deep.CutRange
import Derived.Lib.SliceRun
import Derived.Laws.MakeOwn
import Derived.Deep.RegionLaw
import Derived.Deep.RegionLawGrows
import Derived.Deep.RegionHeld3
import Derived.RegionCalls
import Derived.Deep.RegionWith
import Derived.Deep.Light
import Derived.Laws.CopyOwn
import Derived.Laws.ResultCell
namespace Go.Proofs.Ytemkppjdfjoipaa.I1
set_option linter.unusedSimpArgs false
set_option linter.unusedVariables false
set_option maxRecDepth 100000
open Go.RowKit
theorem row_form {y : World} {B : Nat} {e : TypeId} {sl : Value} {n : Nat} {xs : List Value} {k : Nat} (h : y.ownsRow B e k sl n xs) : ∃ p c, sl = .slice p n c := by
  rcases h.2 with ⟨rfl, rfl⟩ | ⟨g, cap, cur, rfl, _⟩
  · exact ⟨_, _, rfl⟩
  · exact ⟨_, _, rfl⟩
theorem row_base {w : World} {B C : Nat} {e : TypeId} {size : Nat} {v : Value} {n : Nat} {xs : List Value} (h : w.ownsRow B e size v n xs) (hc : C ≤ B) : w.ownsRow C e size v n xs := by
  refine ⟨h.1, ?_⟩
  rcases h.2 with h1 | ⟨g, cap, cur, hv, hb, hr⟩
  · exact .inl h1
  · exact .inr ⟨g, cap, cur, hv, Nat.le_trans hc hb, hr⟩
/- What lies in the blocks that a call has made. -/
def Sb (w0 w : World) (L : List (Nat × Obj)) : Prop := Below w0.heap.size w0 w ∧ ∀ c ∈ L, w0.heap.size ≤ c.1 ∧ w.heap[c.1]? = some c.2
variable {w0 w w' : World} {L M : List (Nat × Obj)}
theorem Sb.start (w : World) : Sb w w [] := ⟨Below.refl _ _, by simp⟩
theorem Sb.up (h : Sb w0 w L) (hb : Below w.heap.size w w') : Sb w0 w' L :=
  ⟨h.1.trans (hb.mono h.1.size), fun c hc => ⟨(h.2 c hc).1, (hb.block _ (Array.getElem?_eq_some_iff.1 (h.2 c hc).2).1).trans (h.2 c hc).2⟩⟩
theorem Sb.drewN (h : Sb w0 w L) (n : Nat) : Sb w0 (w.drewN n) L := ⟨below_drewN h.1 n, h.2⟩
theorem Sb.drew (h : Sb w0 w L) : Sb w0 w.drew L := h.drewN 1
theorem Sb.alloc (h : Sb w0 w L) (o : Obj) : Sb w0 (w.alloc o) ((w.heap.size, o) :: L) := by
  have h1 : Sb w0 (w.alloc o) L := h.up ((Below.refl _ _).alloc (Nat.le_refl _) _)
  refine ⟨h1.1, fun c hc => ?_⟩
  rcases List.mem_cons.1 hc with rfl | hc
  · exact ⟨h.1.size, heap_alloc_last w o⟩
  · exact h1.2 c hc
theorem Sb.sub (h : Sb w0 w L) (hs : ∀ c ∈ M, c ∈ L) : Sb w0 w M := ⟨h.1, fun c hc => h.2 c (hs c hc)⟩
theorem Sb.set {b i : Nat} {cs : Array Value} {t : TypeId} (h : Sb w0 w ((b, .cells cs t (0, 0)) :: L)) (v : Value) (hne : ∀ c ∈ L, c.1 ≠ b) :
    Sb w0 (w.setCell ⟨b, i, none⟩ v) ((b, .cells (cs.setIfInBounds i v) t (0, 0)) :: L) := by
  have hb := h.2 _ (List.mem_cons_self ..)
  refine ⟨h.1.setCell (p := ⟨b, i, none⟩) hb.1 _, fun c hc => ?_⟩
  rcases List.mem_cons.1 hc with rfl | hc
  · exact ⟨hb.1, heap_setCell_same w b i cs t v hb.2⟩
  · exact ⟨(h.2 c (List.mem_cons_of_mem _ hc)).1, (heap_setCell_other w _ c.1 v (hne c hc)).trans (h.2 c (List.mem_cons_of_mem _ hc)).2⟩
theorem Sb.setRow {b : Nat} {cs cs' : Array Value} {t : TypeId} (h : Sb w0 w ((b, .cells cs t (0, 0)) :: L)) (hne : ∀ c ∈ L, c.1 ≠ b) :
    Sb w0 (w.setRow b cs') ((b, .cells cs' t (0, 0)) :: L) := by
  have hb := h.2 _ (List.mem_cons_self ..)
  refine ⟨⟨h.1.os, h.1.tape, h.1.output, by simpa using h.1.size, fun k hk => (setRow_other w b k cs' (by omega)).trans (h.1.block k hk)⟩, fun c hc => ?_⟩
  rcases List.mem_cons.1 hc with rfl | hc
  · exact ⟨hb.1, setRow_heap w b cs cs' t (0, 0) hb.2⟩
  · exact ⟨(h.2 c (List.mem_cons_of_mem _ hc)).1, (setRow_other w b c.1 cs' (hne c hc)).trans (h.2 c (List.mem_cons_of_mem _ hc)).2⟩
theorem Sb.heap {b : Nat} {o : Obj} (h : Sb w0 w ((b, o) :: L)) : w.heap[b]? = some o := (h.2 _ (List.mem_cons_self ..)).2
theorem Sb.lt {b : Nat} {o : Obj} (h : Sb w0 w ((b, o) :: L)) : b < w.heap.size := (Array.getElem?_eq_some_iff.1 h.heap).1
theorem Sb.tl {c : Nat × Obj} (h : Sb w0 w (c :: L)) : Sb w0 w L := h.sub fun x hx => List.mem_cons_of_mem _ hx
theorem Sb.cell {b : Nat} {cs : Array Value} {t : TypeId} {fr : Nat × Nat} (h : Sb w0 w ((b, .cells cs t fr) :: L)) (j : Nat) : w.cell? ⟨b, j, none⟩ = cs[j]? := cell_of_row w b j cs t fr h.heap
theorem Sb.free {b : Nat} {cs : Array Value} {t : TypeId} (h : Sb w0 w ((b, .cells cs t (0, 0)) :: L)) (j : Nat) : w.frozen? ⟨b, j, none⟩ = false := frozen_of_row w b j cs t h.heap
/-- A block with its cells, or a row of one's own. -/
inductive It where
  | box (b : Nat) (o : Obj)
  | row (v : Value) (e : TypeId) (size n : Nat) (xs : List Value)
def It.blk : It → Option Nat
  | .box b _ => some b
  | .row v _ _ _ _ => v.ownBlock
def It.lies (B : Nat) (w : World) : It → Prop
  | .box b o => B ≤ b ∧ w.heap[b]? = some o
  | .row v e size n xs => w.ownsRow B e size v n xs
def Apart (x y : It) : Prop := ∀ b, x.blk = some b → y.blk ≠ some b
theorem Apart.symm {x y : It} (h : Apart x y) : Apart y x := fun b hy hx => h b hx hy
theorem It.lt {B : Nat} {w : World} {x : It} (h : x.lies B w) {b : Nat} (hb : x.blk = some b) : B ≤ b ∧ b < w.heap.size := by
  cases x with
  | box b' o =>
    have e : b' = b := by simpa [It.blk] using hb
    subst e
    exact ⟨h.1, (Array.getElem?_eq_some_iff.1 h.2).1⟩
  | row v e size n xs => exact World.ownsRow.lt h b hb
theorem It.kept {B : Nat} {w w' : World} {row : Option Nat} {x : It} (hg : w.grownBy w' row) (h : x.lies B w) (hn : ∀ b, x.blk = some b → some b ≠ row) : x.lies B w' := by
  cases x with
  | box b o => exact ⟨h.1, (hg.block b (Array.getElem?_eq_some_iff.1 h.2).1 (hn b rfl)).trans h.2⟩
  | row v e size n xs =>
    refine World.ownsRow.kept h hg ?_
    cases hv : v.ownBlock with
    | none => exact .inl rfl
    | some b => exact .inr (hn b hv)
structure Sep (B : Nat) (w0 w : World) (L : List It) : Prop where
  bel : Below B w0 w
  sz : B ≤ w.heap.size
  li : ∀ x ∈ L, x.lies B w
  ap : L.Pairwise Apart
theorem Sep.start (w : World) : Sep w.heap.size w w [] := ⟨Below.refl _ _, Nat.le_refl _, by simp, .nil⟩
theorem Sep.drew {B : Nat} {w0 w : World} {L : List It} (h : Sep B w0 w L) : Sep B w0 w.drew L :=
  ⟨below_drewN h.bel 1, h.sz, fun x hx => It.kept (row := none) ⟨rfl, rfl, rfl, Nat.le_refl _, fun _ _ _ => rfl⟩ (h.li x hx) (fun _ _ e => by cases e), h.ap⟩
theorem Sep.alloc {B : Nat} {w0 w : World} {L : List It} (h : Sep B w0 w L) (o : Obj) : Sep B w0 (w.alloc o) (.box w.heap.size o :: L) := by
  refine ⟨h.bel.alloc h.sz _, by simp; have := h.sz; omega, fun x hx => ?_, List.pairwise_cons.2 ⟨fun y hy b hb hyb => ?_, h.ap⟩⟩
  · rcases List.mem_cons.1 hx with rfl | hx
    · exact ⟨h.sz, heap_alloc_last w o⟩
    · exact It.kept (World.grownBy_alloc w o none) (h.li x hx) (fun _ _ e => by cases e)
  · have e : w.heap.size = b := by simpa [It.blk] using hb
    have := (It.lt (h.li y hy) hyb).2
    omega
theorem Sep.rep {B : Nat} {w0 w w' : World} {L : List It} {x x' : It} (h : Sep B w0 w (x :: L)) (hg : w.grownBy w' x.blk) (hl : x'.lies B w') (hat : ∀ b, x'.blk = some b → x.blk = some b ∨ w.heap.size ≤ b) : Sep B w0 w' (x' :: L) := by
  have hx := h.li x (List.mem_cons_self ..)
  have hap := List.pairwise_cons.1 h.ap
  refine ⟨below_grown h.bel hg (fun g e => (It.lt hx e).1) h.sz, Nat.le_trans h.sz hg.size, fun y hy => ?_, List.pairwise_cons.2 ⟨fun y hy b hb hyb => ?_, hap.2⟩⟩
  · rcases List.mem_cons.1 hy with rfl | hy
    · exact hl
    · exact It.kept hg (h.li y (List.mem_cons_of_mem _ hy)) (fun b hb e => hap.1 y hy b e.symm hb)
  · rcases hat b hb with e | e
    · exact hap.1 y hy b e hyb
    · have := (It.lt (h.li y (List.mem_cons_of_mem _ hy)) hyb).2
      omega
theorem Sep.same {B : Nat} {w0 w : World} {L : List It} {x x' : It} (h : Sep B w0 w (x :: L)) (hl : x'.lies B w) (hat : x'.blk = x.blk) : Sep B w0 w (x' :: L) :=
  h.rep ⟨rfl, rfl, rfl, Nat.le_refl _, fun _ _ _ => rfl⟩ hl (fun b hb => .inl (hat ▸ hb))
theorem Sep.up {B : Nat} {w0 w w' : World} {L : List It} (h : Sep B w0 w L) (hb : Below w.heap.size w w') : Sep B w0 w' L :=
  ⟨h.bel.trans (hb.mono h.sz), Nat.le_trans h.sz hb.size, fun x hx => It.kept (row := none) ⟨hb.os, hb.tape, hb.output, hb.size, fun k hk _ => hb.block k hk⟩ (h.li x hx) (fun _ _ e => by cases e), h.ap⟩
theorem Sep.tl {B : Nat} {w0 w : World} {L : List It} {x : It} (h : Sep B w0 w (x :: L)) : Sep B w0 w L := ⟨h.bel, h.sz, fun y hy => h.li y (List.mem_cons_of_mem _ hy), (List.pairwise_cons.1 h.ap).2⟩
theorem Sep.empty {B b e size : Nat} {w0 w : World} {L : List It} (h : Sep B w0 w (.box b (.cells #[] e (0, 0)) :: L)) : Sep B w0 w (.row (.slice (some ⟨b, 0, none⟩) 0 0) e size 0 [] :: L) := by
  have hx := h.li _ (List.mem_cons_self ..)
  exact h.same ⟨by simp, .inr ⟨b, 0, #[], rfl, hx.1, hx.2, Nat.le_refl _, by simp [maxLen], by simp, by simp⟩⟩ rfl
/-- Behind an append. -/
theorem Sep.app {B e size n m : Nat} {v v' : Value} {xs ys : List Value} {w0 w w' : World} {L : List It} (h : Sep B w0 w (.row v e size n xs :: L)) (hown : w'.ownsRow B e size v' m ys) (hg : w.grownBy w' v.ownBlock) (hat : v'.ownBlock = v.ownBlock ∨ v'.ownBlock = some w.heap.size) : Sep B w0 w' (.row v' e size m ys :: L) :=
  h.rep (x := .row v e size n xs) (x' := .row v' e size m ys) hg hown (fun b hb => hat.elim (fun e => .inl (e.symm.trans hb)) fun e => .inr (by have h2 : v'.ownBlock = some b := hb; rw [e] at h2; cases h2; exact Nat.le_refl _))
/-- Behind a store. -/
theorem Sep.put {B b : Nat} {o o' : Obj} {w0 w w' : World} {L : List It} (h : Sep B w0 w (.box b o :: L)) (hg : w.grownBy w' (some b)) (hb : w'.heap[b]? = some o') : Sep B w0 w' (.box b o' :: L) :=
  h.rep (x := .box b o) (x' := .box b o') hg ⟨(h.li _ (List.mem_cons_self ..)).1, hb⟩ (fun b' hb' => .inl hb')
end Go.Proofs.Ytemkppjdfjoipaa.I1
