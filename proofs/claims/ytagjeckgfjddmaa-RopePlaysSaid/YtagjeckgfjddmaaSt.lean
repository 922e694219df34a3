/- What a law's walk carries along: ropes that lie there, cells, and that what was there is as it was. -/
import Derived.Test.YtagjeckgfjddmaaRight2
import Derived.Test.YtagjeckgfjddmaaSp2
namespace Go.Proofs.Ytagjeckgfjddmaa
set_option linter.unusedSimpArgs false
set_option linter.unusedVariables false
open Go.RowKit

def St (w0 w : World) (R : List (Nat × Option T)) (C : List (Nat × Nat × Value)) : Prop :=
  Below w0.heap.size w0 w ∧ (∀ r ∈ R, RopeAt w r.1 r.2) ∧ (∀ c ∈ C, w.cell? ⟨c.1, c.2.1, none⟩ = some c.2.2 ∧ c.1 < w.heap.size)
section
variable {w0 w w' : World} {R : List (Nat × Option T)} {C : List (Nat × Nat × Value)}
theorem St.new (w : World) : St w w [] [] := ⟨Below.refl _ _, by simp, by simp⟩
theorem St.up (h : St w0 w R C) (hb : Below w.heap.size w w') : St w0 w' R C :=
  ⟨h.1.trans (hb.mono h.1.size), fun r hr => (h.2.1 r hr).below hb, fun c hc => ⟨(hb.cell (p := ⟨c.1, c.2.1, none⟩) (h.2.2 c hc).2).trans (h.2.2 c hc).1, Nat.lt_of_lt_of_le (h.2.2 c hc).2 hb.size⟩⟩
theorem St.alloc (h : St w0 w R C) (o : Obj) : St w0 (w.alloc o) R C := h.up ((Below.refl _ _).alloc (Nat.le_refl _) o)
theorem St.drew (h : St w0 w R C) : St w0 w.drew R C := h.up (Below.refl _ _).drew
theorem St.drewN (h : St w0 w R C) (n : Nat) : St w0 (w.drewN n) R C := h.up (below_drewN (Below.refl _ _) n)
theorem St.add {b : Nat} {o : Option T} (h : St w0 w R C) (hr : RopeAt w b o) : St w0 w ((b, o) :: R) C :=
  ⟨h.1, fun r hm => by rcases List.mem_cons.1 hm with rfl | hm; exact hr; exact h.2.1 r hm, h.2.2⟩
theorem St.cell {b k : Nat} {v : Value} (h : St w0 w R C) (hc : w.cell? ⟨b, k, none⟩ = some v) (hz : b < w.heap.size) : St w0 w R ((b, k, v) :: C) :=
  ⟨h.1, h.2.1, fun c hm => by rcases List.mem_cons.1 hm with rfl | hm; exact ⟨hc, hz⟩; exact h.2.2 c hm⟩
theorem St.place {x y : Int} (h : St w0 w R C) : St w0 (w.alloc (.cells #[.int .i64 x, .int .i64 y] 34)) R ((w.heap.size, 0, .int .i64 x) :: (w.heap.size, 1, .int .i64 y) :: C) :=
  ((h.alloc _).cell (by simp) (by simp)).cell (by simp) (by simp)
theorem St.r0 {b : Nat} {o : Option T} (h : St w0 w ((b, o) :: R) C) : RopeAt w b o := h.2.1 (b, o) (by simp)
theorem St.r1 {b : Nat} {o : Option T} {x : Nat × Option T} (h : St w0 w (x :: (b, o) :: R) C) : RopeAt w b o := h.2.1 (b, o) (by simp)
theorem St.r2 {b : Nat} {o : Option T} {x y : Nat × Option T} (h : St w0 w (x :: y :: (b, o) :: R) C) : RopeAt w b o := h.2.1 (b, o) (by simp)
theorem St.all (h : St w0 w R C) : ∀ c ∈ C, w.cell? ⟨c.1, c.2.1, none⟩ = some c.2.2 ∧ c.1 < w.heap.size := h.2.2
theorem St.c0 {b k : Nat} {v : Value} (h : St w0 w R ((b, k, v) :: C)) : w.cell? ⟨b, k, none⟩ = some v ∧ b < w.heap.size := h.2.2 (b, k, v) (by simp)
theorem St.tl {c : Nat × Nat × Value} (h : St w0 w R (c :: C)) : St w0 w R C := ⟨h.1, h.2.1, fun d hd => h.2.2 d (List.mem_cons_of_mem _ hd)⟩
end
end Go.Proofs.Ytagjeckgfjddmaa
