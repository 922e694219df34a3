/- A tree in memory; places put one behind the other; leaf and fork. -/
import Derived.Test.YtagjeckgfjddmaaCuts
import Derived.Test.YtagjeckgfjddmaaFacts
import Derived.Test.YtagjeckgfjddmaaEd
import Derived.Deep.RegionHeld3
import Derived.Deep.QuietTactic
import Derived.BigQuiet
import Derived.StillTailTactics
namespace Go.Proofs.Ytagjeckgfjddmaa
set_option linter.unusedSimpArgs false
set_option linter.unusedVariables false
open Go.RowKit

abbrev ptr (b : Nat) : Value := .pointer (some ⟨b, 0, none⟩)
/-- A node's cells. -/
def NodeAt (b : Nat) (p q : Value) (s : ByteArray) (n h x y : Nat) (w : World) : Prop :=
  w.cell? ⟨b, 0, none⟩ = some p ∧ w.cell? ⟨b, 1, none⟩ = some q ∧ w.cell? ⟨b, 2, none⟩ = some (.string s) ∧ w.cell? ⟨b, 3, none⟩ = some (.int .i64 n) ∧ w.cell? ⟨b, 4, none⟩ = some (.int .i64 h) ∧ w.cell? ⟨b, 5, none⟩ = some (.int .i64 x) ∧ w.cell? ⟨b, 6, none⟩ = some (.int .i64 y) ∧ b < w.heap.size
theorem NodeAt.below {b n h x y : Nat} {p q : Value} {s : ByteArray} {w w' : World} (H : NodeAt b p q s n h x y w) (hb : Below w.heap.size w w') : NodeAt b p q s n h x y w' := by
  obtain ⟨h0, h1, h2, h3, h4, h5, h6, hz⟩ := H
  exact ⟨(hb.cell (p := ⟨b, 0, none⟩) hz).trans h0, (hb.cell (p := ⟨b, 1, none⟩) hz).trans h1, (hb.cell (p := ⟨b, 2, none⟩) hz).trans h2, (hb.cell (p := ⟨b, 3, none⟩) hz).trans h3, (hb.cell (p := ⟨b, 4, none⟩) hz).trans h4, (hb.cell (p := ⟨b, 5, none⟩) hz).trans h5, (hb.cell (p := ⟨b, 6, none⟩) hz).trans h6, Nat.lt_of_lt_of_le hz hb.size⟩

/-- A block is a node's, and nothing else. -/
def Lives (b : Nat) (w : World) : Prop := ∃ cs, w.heap[b]? = some (.cells cs 83 (0, 0))
theorem Lives.below {b : Nat} {w w' : World} (h : Lives b w) (hb : Below w.heap.size w w') : Lives b w' := by
  obtain ⟨cs, h⟩ := h
  refine ⟨cs, (hb.block b ?_).trans h⟩
  rcases Nat.lt_or_ge b w.heap.size with hlt | hge
  · exact hlt
  · rw [Array.getElem?_eq_none hge] at h; cases h
theorem Lives.new (w : World) (cs : Array Value) : Lives w.heap.size (w.alloc (.cells cs 83)) := ⟨cs, heap_alloc_new _ _⟩
/-- A tree lies in memory. -/
def Rep (w : World) : T → Prop
  | .leaf b s => NodeAt b (.pointer none) (.pointer none) s s.size 0 (cntN s.data.toList) (colN s.data.toList) w ∧ Lives b w
  | .fork b l r => NodeAt b (ptr l.blk) (ptr r.blk) .empty (l.size + r.size) (max l.hgt r.hgt + 1) (cntN (l.bytes ++ r.bytes)) (colN (l.bytes ++ r.bytes)) w ∧ Rep w l ∧ Rep w r
theorem Rep.below {w w' : World} {t : T} (h : Rep w t) (hb : Below w.heap.size w w') : Rep w' t := by
  induction t with
  | leaf b s => exact ⟨NodeAt.below h.1 hb, Lives.below h.2 hb⟩
  | fork b l r hl hr => exact ⟨h.1.below hb, hl h.2.1, hr h.2.2⟩
/-- What is alike of all trees' nodes. -/
theorem Rep.node {w : World} {t : T} (h : Rep w t) : ∃ p q s, NodeAt t.blk p q s t.size t.hgt (cntN t.bytes) (colN t.bytes) w := by
  cases t with
  | leaf b s => exact ⟨_, _, _, h.1⟩
  | fork b l r => exact ⟨_, _, _, h.1⟩

def topPtr : Option T → Value | none => .pointer none | some t => ptr t.blk
def lvs : Option T → List Lf | none => [] | some t => t.leaves
def RepO (w : World) : Option T → Prop | none => True | some t => Rep w t
def balO : Option T → Prop | none => True | some t => t.bal
theorem RepO.below {w w' : World} {o : Option T} (h : RepO w o) (hb : Below w.heap.size w w') : RepO w' o := by
  cases o with
  | none => trivial
  | some t => exact Rep.below h hb

/-- What a call that makes a tree hands back. -/
def Out (Q : T → Prop) (w : World) (e : Ending) (w' : World) : Prop := ∃ t, e = .returned (ptr t.blk) ∧ Rep w' t ∧ Q t ∧ Below w.heap.size w w'
def OutO (Q : Option T → Prop) (w : World) (e : Ending) (w' : World) : Prop := ∃ o, e = .returned (topPtr o) ∧ RepO w' o ∧ Q o ∧ Below w.heap.size w w'

theorem onward_any (a b c d : Nat) (w : World) (ha : a ≤ 1000000000) (hb : b ≤ 1000000000) (hc : c ≤ 1000000000) (hd : d ≤ 1000000000) :
    Calls Try.prog 50 #[pl a b, pl c d] w fun r w' => r = .returned (pl (a + c : Nat) (if c = 0 then b + d else d : Nat)) ∧ Below w.heap.size w w' := by
  by_cases h : c = 0
  · subst h
    rw [if_pos rfl]
    go_enter Try.func50, Try.ntmps50
    go_wp2
    refine bodyPost_ret (v := pl (a + 0 : Nat) (b + d : Nat)) (by simp [results, Try.results50, go_sem]) rfl ⟨rfl, ?_⟩
    exact (((Below.refl _ _).alloc (Nat.le_refl _) _).alloc (by simp) _).alloc (by simp; omega) _
  · rw [if_neg h]
    have h' : ((c : Int) == 0) = false := by simp; omega
    clear h
    go_enter Try.func50, Try.ntmps50
    go_wp2
    refine bodyPost_ret (v := pl (a + c : Nat) d) (by simp [results, Try.results50, go_sem]) rfl ⟨rfl, ?_⟩
    exact (((Below.refl _ _).alloc (Nat.le_refl _) _).alloc (by simp) _).alloc (by simp; omega) _
end Go.Proofs.Ytagjeckgfjddmaa
