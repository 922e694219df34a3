/- What lies in the blocks that a call has made: kept by whatever makes memory, by a store into another block, by a builder's writes. -/
import Derived.Test.YtennflnfjjhgpaaOf
import Derived.Test.YtennflnfjjhgpaaShelf
import Derived.Laws.Rows
import Derived.Laws.Tables
import Derived.Deep.WholeRow
import Derived.Lib.OthersKept
import Derived.Lib.FrozenHead
namespace Go.Proofs.Ytennflnfjjhgpaa
set_option linter.unusedSimpArgs false
set_option linter.unusedVariables false
open Go.RowKit

def Sb (w0 w : World) (L : List (Nat × Obj)) : Prop := Below w0.heap.size w0 w ∧ ∀ c ∈ L, w0.heap.size ≤ c.1 ∧ w.heap[c.1]? = some c.2
variable {w0 w w' : World} {L M : List (Nat × Obj)}
theorem Sb.start (w : World) : Sb w w [] := ⟨Below.refl _ _, by simp⟩
theorem Sb.up (h : Sb w0 w L) (hb : Below w.heap.size w w') : Sb w0 w' L :=
  ⟨h.1.trans (hb.mono h.1.size), fun c hc => ⟨(h.2 c hc).1, (hb.block _ (Array.getElem?_eq_some_iff.1 (h.2 c hc).2).1).trans (h.2 c hc).2⟩⟩
theorem Sb.drewN (h : Sb w0 w L) (n : Nat) : Sb w0 (w.drewN n) L := ⟨below_drewN h.1 n, h.2⟩
theorem Sb.drew (h : Sb w0 w L) : Sb w0 w.drew L := h.drewN 1
theorem Sb.alloc (h : Sb w0 w L) (o : Obj) : Sb w0 (w.alloc o) ((w.heap.size, o) :: L) := by
  have h1 : Sb w0 (w.alloc o) L := h.up ((Below.refl _ _).alloc (Nat.le_refl _) _)
  refine ⟨h1.1, fun c hc => ?_⟩
  rcases List.mem_cons.1 hc with rfl | hc
  · exact ⟨h.1.size, heap_alloc_last w o⟩
  · exact h1.2 c hc
theorem Sb.sub (h : Sb w0 w L) (hs : ∀ c ∈ M, c ∈ L) : Sb w0 w M := ⟨h.1, fun c hc => h.2 c (hs c hc)⟩
theorem Sb.set {b i : Nat} {cs : Array Value} {t : TypeId} (h : Sb w0 w ((b, .cells cs t (0, 0)) :: L)) (v : Value) (hne : ∀ c ∈ L, c.1 ≠ b) :
    Sb w0 (w.setCell ⟨b, i, none⟩ v) ((b, .cells (cs.setIfInBounds i v) t (0, 0)) :: L) := by
  have hb := h.2 _ (List.mem_cons_self ..)
  refine ⟨h.1.setCell (p := ⟨b, i, none⟩) hb.1 _, fun c hc => ?_⟩
  rcases List.mem_cons.1 hc with rfl | hc
  · exact ⟨hb.1, heap_setCell_same w b i cs t v hb.2⟩
  · exact ⟨(h.2 c (List.mem_cons_of_mem _ hc)).1, (heap_setCell_other w _ c.1 v (hne c hc)).trans (h.2 c (List.mem_cons_of_mem _ hc)).2⟩
theorem Sb.setRow {b : Nat} {cs cs' : Array Value} {t : TypeId} (h : Sb w0 w ((b, .cells cs t (0, 0)) :: L)) (hne : ∀ c ∈ L, c.1 ≠ b) :
    Sb w0 (w.setRow b cs') ((b, .cells cs' t (0, 0)) :: L) := by
  have hb := h.2 _ (List.mem_cons_self ..)
  refine ⟨⟨h.1.os, h.1.tape, h.1.output, by simpa using h.1.size, fun k hk => (setRow_other w b k cs' (by omega)).trans (h.1.block k hk)⟩, fun c hc => ?_⟩
  rcases List.mem_cons.1 hc with rfl | hc
  · exact ⟨hb.1, setRow_heap w b cs cs' t (0, 0) hb.2⟩
  · exact ⟨(h.2 c (List.mem_cons_of_mem _ hc)).1, (setRow_other w b c.1 cs' (hne c hc)).trans (h.2 c (List.mem_cons_of_mem _ hc)).2⟩
/-- A builder's write: rows of other types, in other blocks than its own, are kept. -/
theorem Sb.others {b : Nat} (h : Sb w0 w L) (hb : Below w0.heap.size w w') (ho : Lib.OthersKept 5 (some b) w w') (hne : ∀ c ∈ L, c.1 ≠ b ∧ ∀ cs fz, c.2 ≠ .cells cs 5 fz) : Sb w0 w' L :=
  ⟨h.1.trans hb, fun c hc => ⟨(h.2 c hc).1, ho c.1 c.2 (h.2 c hc).2 (fun e => (hne c hc).1 (Option.some.inj e)) (hne c hc).2⟩⟩
theorem Sb.heap {b : Nat} {o : Obj} (h : Sb w0 w ((b, o) :: L)) : w.heap[b]? = some o := (h.2 _ (List.mem_cons_self ..)).2
theorem Sb.lt {b : Nat} {o : Obj} (h : Sb w0 w ((b, o) :: L)) : b < w.heap.size := (Array.getElem?_eq_some_iff.1 h.heap).1
theorem Sb.tl {c : Nat × Obj} (h : Sb w0 w (c :: L)) : Sb w0 w L := h.sub fun x hx => List.mem_cons_of_mem _ hx
theorem Sb.cell {b : Nat} {cs : Array Value} {t : TypeId} {fr : Nat × Nat} (h : Sb w0 w ((b, .cells cs t fr) :: L)) (j : Nat) : w.cell? ⟨b, j, none⟩ = cs[j]? := cell_of_row w b j cs t fr h.heap
theorem Sb.free {b : Nat} {cs : Array Value} {t : TypeId} (h : Sb w0 w ((b, .cells cs t (0, 0)) :: L)) (j : Nat) : w.frozen? ⟨b, j, none⟩ = false := frozen_of_row w b j cs t h.heap
theorem Sb.flag {b : Nat} {f : Nat → Bool} {t : TypeId} {fr : Nat × Nat} (h : Sb w0 w ((b, .cells (fl f) t fr) :: L)) (j : Nat) (hj : j < 256) : w.cell? ⟨b, j, none⟩ = some (.bool (f j)) := (h.cell j).trans (fl_get f j hj)
theorem Sb.word {b : Nat} {f : Nat → Bool} {t : TypeId} {fr : Nat × Nat} (h : Sb w0 w ((b, .cells (wc f) t fr) :: L)) (j : Nat) (hj : j < 4) : w.cell? ⟨b, j, none⟩ = some (.int .u64 (W f j)) := by
  rw [h.cell j]; rcases (by omega : j = 0 ∨ j = 1 ∨ j = 2 ∨ j = 3) with rfl | rfl | rfl | rfl <;> rfl

theorem info27 : (Try.prog.info? 27).map (fun i => (i.zero, i.size)) = some (some (.agg (fl fun _ => false)), 256) := by kernel_rfl
theorem zero27 (w : World) : (zeroValue 27).run Try.prog w = .ok (.agg (fl fun _ => false)) w := (zero_of_info info27).1 w
theorem size27 : (Try.prog.info? 27).map (·.size) = some 256 := (zero_of_info info27).2
theorem fsize27 (f : Nat → Bool) : (Try.prog.info? 27).map (·.size) = some (fl f).size := by rw [fl_size]; exact size27
end Go.Proofs.Ytennflnfjjhgpaa
