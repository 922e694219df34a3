/- Two boxes that a region makes and writes, beside calls that make memory: what lies in them, whichever has come up. -/
import Derived.Test.YtennflnfjjhgpaaSb
import Derived.Test.YtennflnfjjhgpaaInv
namespace Go.Proofs.Ytennflnfjjhgpaa
set_option linter.unusedSimpArgs false
set_option linter.unusedVariables false
open Go.RowKit

/-- One box: made (p), written (p'). -/
def Box (w0 w : World) (L : List (Nat × Obj)) (T : Nat) (p p' : Bool) (x : Value) (z u : Array Value) : Prop :=
  (p' = true → p = true) ∧ (p = true → ∃ b, x = .pointer (some ⟨b, 0, none⟩) ∧ w0.heap.size ≤ b ∧ (∀ c ∈ L, c.1 ≠ b) ∧ w.heap[b]? = some (.cells (bif p' then u else z) T))
variable {w0 w w' : World} {L : List (Nat × Obj)} {T : Nat} {p p' q q' : Bool} {x y : Value} {z u v : Array Value}
theorem Box.none : Box w0 w L T false false x z u := ⟨(fun h => by cases h), (fun h => by cases h)⟩
theorem Box.up (h : Box w0 w L T p p' x z u) (hb : Below w.heap.size w w') : Box w0 w' L T p p' x z u := ⟨h.1, fun hp => by
  obtain ⟨b, e, h0, hL, hh⟩ := h.2 hp
  exact ⟨b, e, h0, hL, (hb.block _ (Array.getElem?_eq_some_iff.1 hh).1).trans hh⟩⟩
theorem Box.new (hS : Sb w0 w L) : Box w0 (w.alloc (.cells z T)) L T true false (.pointer (some ⟨w.heap.size, 0, Option.none⟩)) z u := ⟨(fun h => by cases h), fun _ =>
  ⟨w.heap.size, rfl, hS.1.size, fun c hc e => by
    have h1 := (Array.getElem?_eq_some_iff.1 (hS.2 c hc).2).1
    omega, heap_alloc_last w _⟩⟩
theorem Box.no (h : Box w0 w L T false p' x z u) : p' = false := by
  cases p'
  · rfl
  · exact absurd (h.1 rfl) (by decide)
theorem Box.lt {b : Nat} (h : Box w0 w L T true p' (.pointer (some ⟨b, 0, Option.none⟩)) z u) : b < w.heap.size := by
  obtain ⟨b', e, h0, hL, hh⟩ := h.2 rfl
  cases e
  exact (Array.getElem?_eq_some_iff.1 hh).1
theorem Box.old {b : Nat} (h : Box w0 w L T true false (.pointer (some ⟨b, 0, Option.none⟩)) z u) : w.heap[b]? = some (.cells z T) := by
  obtain ⟨b', e, h0, hL, hh⟩ := h.2 rfl
  cases e
  exact hh
theorem Box.ptr (h : Box w0 w L T true p' x z u) : ∃ b, x = .pointer (some ⟨b, 0, Option.none⟩) := by
  obtain ⟨b', e, _⟩ := h.2 rfl
  exact ⟨b', e⟩
theorem Box.put {b : Nat} (h : Box w0 w L T true p' (.pointer (some ⟨b, 0, Option.none⟩)) z u) : Box w0 (w.setRow b u) L T true true (.pointer (some ⟨b, 0, Option.none⟩)) z u := ⟨fun _ => rfl, fun _ => by
  obtain ⟨b', e, h0, hL, hh⟩ := h.2 rfl
  cases e
  exact ⟨b, rfl, h0, hL, setRow_heap w b _ u T (0, 0) hh⟩⟩
theorem Box.other {b : Nat} {u' : Array Value} (h : Box w0 w L T p p' x z u) (hne : p = true → x ≠ .pointer (some ⟨b, 0, Option.none⟩)) : Box w0 (w.setRow b u') L T p p' x z u := ⟨h.1, fun hp => by
  obtain ⟨b', e, h0, hL, hh⟩ := h.2 hp
  exact ⟨b', e, h0, hL, (setRow_other w b b' u' (fun hb => hne hp (by rw [e, hb]))).trans hh⟩⟩
theorem Box.keep {b : Nat} (h : Box w0 w L T true p' (.pointer (some ⟨b, 0, Option.none⟩)) z u) (hS : Sb w0 w L) (u' : Array Value) : Sb w0 (w.setRow b u') L := by
  obtain ⟨b', e, h0, hL, hh⟩ := h.2 rfl
  cases e
  exact (Sb.setRow (L := L) (cs' := u') ⟨hS.1, fun c hc => by
    rcases List.mem_cons.1 hc with rfl | hc
    · exact ⟨h0, hh⟩
    · exact hS.2 c hc⟩ hL).tl
theorem Box.cons {b : Nat} (h : Box w0 w L T true p' (.pointer (some ⟨b, 0, Option.none⟩)) z u) {M : List (Nat × Obj)} (hS : Sb w0 w M) : Sb w0 w ((b, .cells (bif p' then u else z) T) :: M) := by
  obtain ⟨b', e, h0, hL, hh⟩ := h.2 rfl
  cases e
  refine ⟨hS.1, fun c hc => ?_⟩
  rcases List.mem_cons.1 hc with rfl | hc
  · exact ⟨h0, hh⟩
  · exact hS.2 c hc

/-- Two boxes. -/
def Two (w0 w : World) (L : List (Nat × Obj)) (T : Nat) (p p' q q' : Bool) (x y : Value) (z u v : Array Value) : Prop :=
  Sb w0 w L ∧ Box w0 w L T p p' x z u ∧ Box w0 w L T q q' y z v ∧ (p = true → q = true → x ≠ y)
theorem Two.start (hS : Sb w0 w L) : Two w0 w L T false false false false x y z u v := ⟨hS, Box.none, Box.none, fun h => by cases h⟩
theorem Two.up (h : Two w0 w L T p p' q q' x y z u v) (hb : Below w.heap.size w w') : Two w0 w' L T p p' q q' x y z u v := ⟨h.1.up hb, h.2.1.up hb, h.2.2.1.up hb, h.2.2.2⟩
theorem Two.newL (h : Two w0 w L T false p' q q' x y z u v) : Two w0 (w.alloc (.cells z T)) L T true p' q q' (.pointer (some ⟨w.heap.size, 0, none⟩)) y z u v := by
  rw [h.2.1.no]
  have hb : Below w.heap.size w (w.alloc (.cells z T)) := (Below.refl _ _).alloc (Nat.le_refl _) _
  refine ⟨h.1.up hb, Box.new h.1, h.2.2.1.up hb, fun _ hq e => ?_⟩
  subst hq
  obtain ⟨b, hb'⟩ := h.2.2.1.ptr
  subst hb'
  have := h.2.2.1.lt
  cases e
  omega
theorem Two.newR (h : Two w0 w L T p p' false q' x y z u v) : Two w0 (w.alloc (.cells z T)) L T p p' true q' x (.pointer (some ⟨w.heap.size, 0, none⟩)) z u v := by
  rw [h.2.2.1.no]
  have hb : Below w.heap.size w (w.alloc (.cells z T)) := (Below.refl _ _).alloc (Nat.le_refl _) _
  refine ⟨h.1.up hb, h.2.1.up hb, Box.new h.1, fun hp _ e => ?_⟩
  subst hp
  obtain ⟨b, hb'⟩ := h.2.1.ptr
  subst hb'
  have := h.2.1.lt
  cases e
  omega
theorem Two.putL {b : Nat} (h : Two w0 w L T true p' q q' (.pointer (some ⟨b, 0, none⟩)) y z u v) : Two w0 (w.setRow b u) L T true true q q' (.pointer (some ⟨b, 0, none⟩)) y z u v :=
  ⟨h.2.1.keep h.1 u, h.2.1.put, h.2.2.1.other (fun hq => (h.2.2.2 rfl hq).symm), h.2.2.2⟩
theorem Two.putR {b : Nat} (h : Two w0 w L T p p' true q' x (.pointer (some ⟨b, 0, none⟩)) z u v) : Two w0 (w.setRow b v) L T p p' true true x (.pointer (some ⟨b, 0, none⟩)) z u v :=
  ⟨h.2.2.1.keep h.1 v, h.2.1.other (fun hp => h.2.2.2 hp rfl), h.2.2.1.put, h.2.2.2⟩
theorem Two.putL' {b : Nat} (hx : x = .pointer (some ⟨b, 0, none⟩)) (h : Two w0 w L T true p' q q' x y z u v) : Two w0 (w.setRow b u) L T true true q q' x y z u v := by subst hx; exact h.putL
theorem Two.putR' {b : Nat} (hy : y = .pointer (some ⟨b, 0, none⟩)) (h : Two w0 w L T p p' true q' x y z u v) : Two w0 (w.setRow b v) L T p p' true true x y z u v := by subst hy; exact h.putR
theorem Box.old' {b : Nat} (hx : x = .pointer (some ⟨b, 0, Option.none⟩)) (h : Box w0 w L T true false x z u) : w.heap[b]? = some (.cells z T) := by subst hx; exact h.old
theorem Two.done (h : Two w0 w L T true true true true x y z u v) : ∃ b c, x = .pointer (some ⟨b, 0, none⟩) ∧ y = .pointer (some ⟨c, 0, none⟩) ∧ b ≠ c ∧ Sb w0 w ((c, .cells v T) :: (b, .cells u T) :: L) ∧ (∀ k ∈ L, k.1 ≠ b) ∧ (∀ k ∈ L, k.1 ≠ c) := by
  obtain ⟨b, e, h0, hL, hh⟩ := h.2.1.2 rfl
  obtain ⟨c, e', h0', hL', hh'⟩ := h.2.2.1.2 rfl
  refine ⟨b, c, e, e', fun hbc => h.2.2.2 rfl rfl (by rw [e, e', hbc]), ⟨h.1.1, fun k hk => ?_⟩, hL, hL'⟩
  rcases List.mem_cons.1 hk with rfl | hk
  · exact ⟨h0', hh'⟩
  rcases List.mem_cons.1 hk with rfl | hk
  · exact ⟨h0, hh⟩
  · exact h.1.2 k hk
end Go.Proofs.Ytennflnfjjhgpaa
