/- Two rows that grow, one of ropes and one of texts: the ropes stay what they were. -/
import Derived.Test.YtagjeckgfjddmaaAsked
import Derived.Test.YtagjeckgfjddmaaEdF
namespace Go.Proofs.Ytagjeckgfjddmaa
set_option linter.unusedSimpArgs false
set_option linter.unusedVariables false
open Go.RowKit

theorem NodeAt.kept {b n h x y : Nat} {p q : Value} {s : ByteArray} {w w' : World} {row : Option Nat} (H : NodeAt b p q s n h x y w) (hg : w.grownBy w' row) (hne : some b ≠ row) : NodeAt b p q s n h x y w' := by
  obtain ⟨h0, h1, h2, h3, h4, h5, h6, hz⟩ := H
  exact ⟨hg.cell h0 hne, hg.cell h1 hne, hg.cell h2 hne, hg.cell h3 hne, hg.cell h4 hne, hg.cell h5 hne, hg.cell h6 hne, Nat.lt_of_lt_of_le hz hg.size⟩
theorem Lives.kept {b : Nat} {w w' : World} {row : Option Nat} (h : Lives b w) (hg : w.grownBy w' row) (hne : some b ≠ row) : Lives b w' := by
  obtain ⟨cs, h⟩ := h
  exact ⟨cs, (hg.block b (Array.getElem?_eq_some_iff.1 h).1 hne).trans h⟩
/-- A block that is no node's and no rope's: a text lies at its head, or a rope's place. -/
def Odd (w : World) (row : Option Nat) : Prop := ∀ g, row = some g → (∃ s, w.cell? ⟨g, 0, none⟩ = some (.string s)) ∨ ∃ b, w.cell? ⟨g, 0, none⟩ = some (ptr b) ∧ w.cell? ⟨b, 0, none⟩ = some (.bool true)
theorem Rep.head {w : World} {t : T} (h : Rep w t) : ∃ p, w.cell? ⟨t.blk, 0, none⟩ = some (.pointer p) ∧ (∀ b, p = some ⟨b, 0, none⟩ → ∃ u : Option Addr, w.cell? ⟨b, 0, none⟩ = some (.pointer u)) := by
  cases t with
  | leaf b s => exact ⟨none, h.1.1, fun b e => by cases e⟩
  | fork b l r =>
    refine ⟨some ⟨l.blk, 0, none⟩, h.1.1, fun b e => ?_⟩
    cases e
    cases l with
    | leaf b s => exact ⟨none, h.2.1.1.1⟩
    | fork b l1 l2 => exact ⟨some ⟨l1.blk, 0, none⟩, h.2.1.1.1⟩
theorem Rep.far {w : World} {t : T} {row : Option Nat} (h : Rep w t) (ho : Odd w row) : some t.blk ≠ row := by
  intro e
  obtain ⟨p, hp, hb⟩ := h.head
  rcases ho _ e.symm with ⟨s, hs⟩ | ⟨b, h1, h2⟩
  · rw [hs] at hp; cases hp
  · rw [h1] at hp
    cases hp
    obtain ⟨u, hu⟩ := hb b rfl
    rw [h2] at hu
    cases hu
theorem Rep.kept {w w' : World} {t : T} {row : Option Nat} (h : Rep w t) (ho : Odd w row) (hg : w.grownBy w' row) : Rep w' t := by
  induction t with
  | leaf b s => exact ⟨NodeAt.kept h.1 hg (Rep.far (t := .leaf b s) h ho), Lives.kept h.2 hg (Rep.far (t := .leaf b s) h ho)⟩
  | fork b l r hl hr => exact ⟨NodeAt.kept h.1 hg (Rep.far (t := .fork b l r) h ho), hl h.2.1, hr h.2.2⟩
theorem RopeAt.kept {w w' : World} {b : Nat} {o : Option T} {row : Option Nat} (h : RopeAt w b o) (ho : Odd w row) (hg : w.grownBy w' row) : RopeAt w' b o := by
  have hne : some b ≠ row := by
    intro e
    rcases ho _ e.symm with ⟨s, hs⟩ | ⟨c, h1, h2⟩
    · have := h.1; rw [hs] at this; cases this
    · have := h.1; rw [h1] at this; cases this
  refine ⟨hg.cell h.1 hne, hg.cell h.2.1 hne, Nat.lt_of_lt_of_le h.2.2.1 hg.size, ?_⟩
  cases o with
  | none => trivial
  | some t => exact Rep.kept (show Rep w t from h.2.2.2) ho hg

abbrev Rp := Nat × Option T × ByteArray
def rps (l : List Rp) : List Value := l.map fun x => ptr x.1
def rtx (l : List Rp) : List Value := l.map fun x => .string x.2.2
theorem rps_app (a b : List Rp) : rps (a ++ b) = rps a ++ rps b := List.map_append ..
theorem rtx_app (a b : List Rp) : rtx (a ++ b) = rtx a ++ rtx b := List.map_append ..
theorem rps_one (x : Rp) : ∀ u ∈ rps [x], u.oneCell' = true := by
  intro u hu
  obtain ⟨x, -, rfl⟩ := List.mem_map.1 hu
  rfl
theorem rtx_one (x : Rp) : ∀ u ∈ rtx [x], u.oneCell' = true := by
  intro u hu
  obtain ⟨x, -, rfl⟩ := List.mem_map.1 hu
  rfl
/-- The two rows, and that every rope of the one is of its text. -/
structure Rws (w0 w : World) (v u : Value) (L M : List Rp) : Prop where
  a : w.ownsRow w0.heap.size 22 1 v L.length (rps L)
  b : w.ownsRow w0.heap.size 9 1 u M.length (rtx M)
  ne : v.ownBlock = none ∨ v.ownBlock ≠ u.ownBlock
  r : ∀ x ∈ L, RopeAt w x.1 x.2.1 ∧ TreeOf x.2.2 x.2.1
  l : 0 < L.length
  m : 0 < M.length
  below : Below w0.heap.size w0 w
theorem Rws.up {w0 w w' : World} {v u : Value} {L M : List Rp} (h : Rws w0 w v u L M) (hb : Below w.heap.size w w') : Rws w0 w' v u L M :=
  ⟨Ed.owns_below h.a hb, Ed.owns_below h.b hb, h.ne, fun x hx => ⟨(h.r x hx).1.below hb, (h.r x hx).2⟩, h.l, h.m, h.below.trans (hb.mono h.below.size)⟩
theorem Rws.drew {w0 w : World} {v u : Value} {L M : List Rp} (h : Rws w0 w v u L M) : Rws w0 w.drew v u L M := h.up (Below.refl _ _).drew
theorem Rws.alloc {w0 w : World} {v u : Value} {L M : List Rp} (h : Rws w0 w v u L M) (o : Obj) : Rws w0 (w.alloc o) v u L M := h.up ((Below.refl _ _).alloc (Nat.le_refl _) o)
theorem Rws.oddA {w0 w : World} {v u : Value} {L M : List Rp} (h : Rws w0 w v u L M) : Odd w v.ownBlock := by
  intro g hg
  cases L with
  | nil => exact absurd h.l (by simp)
  | cons x L =>
    refine .inr ⟨x.1, ?_, (h.r x (by simp)).1.1⟩
    have := h.a.cells hg 0 (ptr x.1) rfl
    simpa [Addr.add] using this
theorem Rws.oddB {w0 w : World} {v u : Value} {L M : List Rp} (h : Rws w0 w v u L M) : Odd w u.ownBlock := by
  intro g hg
  cases M with
  | nil => exact absurd h.m (by simp)
  | cons x M =>
    refine .inl ⟨x.2.2, ?_⟩
    have := h.b.cells hg 0 (.string x.2.2) rfl
    simpa [Addr.add] using this
theorem Rws.growA {w0 w w' : World} {v v' u : Value} {L M : List Rp} {x : Rp} (h : Rws w0 w v u L M) (ho : w'.ownsRow w0.heap.size 22 1 v' (L.length + 1) (rps L ++ rps [x])) (hg : w.grownBy w' v.ownBlock) (hat : v'.ownBlock = v.ownBlock ∨ v'.ownBlock = some w.heap.size) (hr : RopeAt w x.1 x.2.1) (hq : TreeOf x.2.2 x.2.1) : Rws w0 w' v' u (L ++ [x]) M := by
  refine ⟨by rw [rps_app, List.length_append]; exact ho, h.b.kept hg ?_, ?_, ?_, by simp, h.m, h.below.grown hg h.below.size fun k hk => (h.a.lt k hk).1⟩
  · rcases h.ne with e | e
    · rw [e]; cases u.ownBlock <;> simp
    · exact .inr fun e' => e e'.symm
  · rcases hat with e | e
    · rw [e]; exact h.ne
    · refine .inr fun e' => ?_
      have := (h.b.lt w.heap.size (by rw [← e', e])).2
      omega
  · intro y hy
    rcases List.mem_append.1 hy with hy | hy
    · exact ⟨(h.r y hy).1.kept h.oddA hg, (h.r y hy).2⟩
    · obtain rfl := List.mem_singleton.1 hy
      exact ⟨hr.kept h.oddA hg, hq⟩
theorem Rws.growB {w0 w w' : World} {v u u' : Value} {L M : List Rp} {x : Rp} (h : Rws w0 w v u L M) (ho : w'.ownsRow w0.heap.size 9 1 u' (M.length + 1) (rtx M ++ rtx [x])) (hg : w.grownBy w' u.ownBlock) (hat : u'.ownBlock = u.ownBlock ∨ u'.ownBlock = some w.heap.size) : Rws w0 w' v u' L (M ++ [x]) := by
  refine ⟨h.a.kept hg h.ne, by rw [rtx_app, List.length_append]; exact ho, ?_, fun y hy => ⟨(h.r y hy).1.kept h.oddB hg, (h.r y hy).2⟩, h.l, by simp, h.below.grown hg h.below.size fun k hk => (h.b.lt k hk).1⟩
  rcases hat with e | e
  · rw [e]; exact h.ne
  · refine .inr fun e' => ?_
    have := (h.a.lt w.heap.size (by rw [e', e])).2
    omega
/-- The first of each. -/
theorem Rws.first {w0 w : World} {b : Nat} {o : Option T} {x : ByteArray} (hr : RopeAt w b o) (hq : TreeOf x o) (hb : Below w0.heap.size w0 w) :
    Rws w0 ((w.alloc (.cells #[ptr b] 22)).alloc (.cells #[.string x] 9)) (.slice (some ⟨w.heap.size, 0, none⟩) 1 1) (.slice (some ⟨w.heap.size + 1, 0, none⟩) 1 1) [(b, o, x)] [(b, o, x)] := by
  have h1 := World.ownsRow_lit (e := 22) (size := 1) (base := w0.heap.size) w #[ptr b] 1 hb.size (by simp [maxLen]) rfl
  have h2 := World.ownsRow_lit (e := 9) (size := 1) (base := w0.heap.size) (w.alloc (.cells #[ptr b] 22)) #[.string x] 1 (by have := hb.size; simp; omega) (by simp [maxLen]) rfl
  have hB : Below w.heap.size w ((w.alloc (.cells #[ptr b] 22)).alloc (.cells #[.string x] 9)) := ((Below.refl _ _).alloc (Nat.le_refl _) _).alloc (by simp) _
  refine ⟨h1.alloc _, by simpa [rtx] using h2, .inr (by simp [Value.ownBlock]), ?_, by simp, by simp, hb.trans (hB.mono hb.size)⟩
  intro y hy
  obtain rfl := List.mem_singleton.1 hy
  exact ⟨hr.below hB, hq⟩
end Go.Proofs.Ytagjeckgfjddmaa
