/- Texts of package regs, one behind the other. -/
import Derived.Orders
import Derived.Deep.RegionHeld
import Derived.Test.YthglciccejholaaDoorProg
import Derived.Test.YthglciccejholaaDoorV5
import Derived.WalkKit
import Derived.WalkLawsBesides
import Derived.WalkSpells
import Derived.Outline
import Derived.Lib.Walk
import Derived.Lib.Hide
import Derived.Lib.Slices
import Derived.Lib.Strings
import Derived.RegionTactic
import Derived.LoopTactic
import Derived.Below
import Derived.IntWalk
import Derived.Deep.QuietTactic
import Derived.BigQuiet
import Derived.Deep.MidRow
import Derived.Maps.AppendAt
import Derived.Laws.Rows
import Derived.Laws.Tables
import Derived.Deep.WholeRow
import Derived.Deep.Cut
import Derived.Deep.CutRange
import Derived.Lib.SliceRun
import Derived.Laws.MakeOwn
import Derived.Deep.RegionLaw
import Derived.Deep.RegionLawGrows
import Derived.Deep.RegionHeld3
import Derived.RegionCalls
import Derived.Deep.RegionWith
import Derived.Test.YthglciccejholaaDoorV8
import Derived.Shelf.Spec.TrailingZeros
section
/- A region that draws its order, by a relation of which operations have come up: one duty for each operation, none for each order. -/
namespace Go.Proofs.YthglciccejholaaDoor
set_option linter.unusedSimpArgs false
set_option linter.unusedVariables false
open Go
section
variable {P : Program} {ops : Array Oper} {Q : Exit → Act → World → Prop} {md : Region.Mode}
/-- Those that operation 'i' waits for. -/
def waitsFor (md : Region.Mode) (ops : Array Oper) (i : Nat) : List Nat := ((ops[i]?).map fun o => (o.after.toList.filter (Region.binds md)).map (·.on)).getD []
/-- Each operation waits for earlier ones alone. -/
def rising (md : Region.Mode) (ops : Array Oper) : Bool := (List.range ops.size).all fun i => (waitsFor md ops i).all (fun j => decide (j < i))

theorem count_set : ∀ (L : List Bool) (i : Nat), L[i]? = some false → ((L.set i true).filter (· == false)).length + 1 = (L.filter (· == false)).length
  | [], i, h => by simp at h
  | x :: xs, 0, h => by simp at h; subst h; simp
  | x :: xs, i + 1, h => by
    have := count_set xs i (by simpa using h)
    cases x <;> simp at * <;> omega
theorem all_up (hr : rising md ops = true) {listed : Array Bool} (hs : listed.size = ops.size) (h : Region.ready md ops listed = []) : ∀ j, j < ops.size → listed.getD j false = true := by
  intro j
  induction j using Nat.strongRecOn with
  | ind j ih =>
    intro hj
    cases hv : listed.getD j false with
    | true => rfl
    | false =>
      exfalso
      have hm : j ∈ Region.ready md ops listed := by
        unfold Region.ready
        rw [List.mem_filter]
        refine ⟨List.mem_range.2 hj, ?_⟩
        have e1 : listed.getD j true = false := by
          have hjs : j < listed.size := by omega
          rw [Array.getD_eq_getD_getElem?, Array.getElem?_eq_getElem hjs] at hv ⊢
          exact hv
        rw [e1]
        simp only [Bool.not_false, Bool.true_and]
        rw [Array.getElem?_eq_getElem hj]
        simp only [Option.map_some, Option.getD_some]
        rw [Array.all_eq_true_iff_forall_mem]
        intro e he
        cases hb : Region.binds md e with
        | false => rfl
        | true =>
          have hw : e.on ∈ waitsFor md ops j := by
            unfold waitsFor
            rw [Array.getElem?_eq_getElem hj]
            simp only [Option.map_some, Option.getD_some, List.mem_map, List.mem_filter]
            exact ⟨e, ⟨by simpa using he, hb⟩, rfl⟩
          have hlt : e.on < j := by
            have := (List.all_eq_true.1 hr) j (List.mem_range.2 hj)
            have := (List.all_eq_true.1 this) _ hw
            simpa using this
          simp only [Bool.not_true, Bool.false_or]
          exact ih e.on hlt (by omega)
      rw [h] at hm
      cases hm

theorem wpAny_inv (hr : rising md ops = true) (I : (Nat → Bool) → Act → World → Prop)
    (hstep : ∀ i o, ops[i]? = some o → ∀ (l : Nat → Bool) a w, (∀ j ∈ waitsFor md ops i, l j = true) → l i = false → I l a w →
      ∀ K : Act → World → Prop, Shut (∀ a' w', I (fun j => j == i || l j) a' w' → K a' w') → if Region.wanted o (yielded ops a.tmps) = true then Oper.wp P o a w K Q else K (a.put o.dst undef) w)
    (hfin : ∀ (l : Nat → Bool) a w, (∀ j, j < ops.size → l j = true) → I l a w → Q .normal a w) :
    ∀ (fuel : Nat) (listed : Array Bool) (a : Act) (w : World), listed.size = ops.size → (listed.toList.filter (· == false)).length ≤ fuel →
      I (fun j => listed.getD j false) a w → wpAny P md ops Q fuel listed a w := by
  intro fuel
  induction fuel with
  | zero =>
    intro listed a w hs hf hI
    have hnil : Region.ready md ops listed = [] := by
      cases hc : Region.ready md ops listed with
      | nil => rfl
      | cons i rest =>
        exfalso
        have hi := mem_ready.1 (hc ▸ List.mem_cons_self .. : i ∈ Region.ready md ops listed)
        have h0 := hi.1
        have hlt : i < listed.size := by
          rcases Nat.lt_or_ge i listed.size with h | h
          · exact h
          · rw [Array.getD_eq_getD_getElem?, Array.getElem?_eq_none h] at h0; cases h0
        rw [Array.getD_eq_getD_getElem?, Array.getElem?_eq_getElem hlt] at h0
        have : listed[i] ∈ listed.toList.filter (· == false) := List.mem_filter.2 ⟨by simp, by simpa using h0⟩
        have hl := List.length_pos_of_mem this
        omega
    exact ⟨hnil, hfin _ a w (all_up hr hs hnil) hI⟩
  | succ fuel ih =>
    intro listed a w hs hf hI
    refine ⟨fun hnil => hfin _ a w (all_up hr hs hnil) hI, fun i hi => ?_⟩
    obtain ⟨h0, o, ho, hall⟩ := mem_ready.1 hi
    have hlt : i < listed.size := by
      rcases Nat.lt_or_ge i listed.size with h | h
      · exact h
      · rw [Array.getD_eq_getD_getElem?, Array.getElem?_eq_none h] at h0; cases h0
    have h0' : listed.getD i false = false := by
      rw [Array.getD_eq_getD_getElem?, Array.getElem?_eq_getElem hlt] at h0 ⊢; exact h0
    refine wpOp_step ho (fun K hK => ?_)
    refine hstep i o ho (fun j => listed.getD j false) a w (fun j hj => ?_) h0' hI K (fun a' w' hI' => hK a' w' ?_)
    · unfold waitsFor at hj
      rw [ho] at hj
      simp only [Option.map_some, Option.getD_some, List.mem_map, List.mem_filter] at hj
      obtain ⟨e, ⟨he, hb⟩, rfl⟩ := hj
      exact hall e (by simpa using he) hb
    · refine ih (listed.setIfInBounds i true) a' w' (by simpa using hs) ?_ ?_
      · have hcount : ((listed.setIfInBounds i true).toList.filter (· == false)).length + 1 = (listed.toList.filter (· == false)).length := by
          rw [Array.toList_setIfInBounds]
          have hg : listed.toList[i]? = some false := by
            rw [Array.getElem?_toList, Array.getElem?_eq_getElem hlt]
            rw [Array.getD_eq_getD_getElem?, Array.getElem?_eq_getElem hlt] at h0
            exact congrArg some h0
          exact count_set _ i hg
        omega
      · have : (fun j => (listed.setIfInBounds i true).getD j false) = fun j => j == i || listed.getD j false := by
          funext j
          rw [Array.getD_eq_getD_getElem?, Array.getD_eq_getD_getElem?, Array.getElem?_setIfInBounds]
          by_cases hji : i = j
          · subst hji; simp [hlt]
          · have : (j == i) = false := by simpa using fun h => hji h.symm
            simp [hji, this]
        rw [this]; exact hI'

/-- A region that draws its order: 'I' says what holds once those of 'l' have come up. -/
theorem wp_region_inv {id : Nat} {a : Act} {w : World} (hm : P.follows .mixedOrders = true) (hr : rising .any ops = true) (I : (Nat → Bool) → Act → World → Prop)
    (h0 : I (fun _ => false) a w.drew)
    (hstep : ∀ i o, ops[i]? = some o → ∀ (l : Nat → Bool) a w, (∀ j ∈ waitsFor .any ops i, l j = true) → l i = false → I l a w →
      ∀ K : Act → World → Prop, Shut (∀ a' w', I (fun j => j == i || l j) a' w' → K a' w') → if Region.wanted o (yielded ops a.tmps) = true then Oper.wp P o a w K Q else K (a.put o.dst undef) w)
    (hfin : ∀ (l : Nat → Bool) a w, (∀ j, j < ops.size → l j = true) → I l a w → Q .normal a w) : (Code.region id ops true).wp P Q a w := by
  refine wp_region_any hm (wpAny_inv hr I hstep hfin ops.size (Array.replicate ops.size false) a _ (by simp) ?_ ?_)
  · rw [Array.toList_replicate]
    exact Nat.le_trans (List.length_filter_le _ _) (by simp)
  · have : (fun j => (Array.replicate ops.size false).getD j false) = fun _ => false := by
      funext j
      rw [Array.getD_eq_getD_getElem?, Array.getElem?_replicate]
      split <;> rfl
    rw [this]; exact h0
/-- What number 'i' owes: from a state in which those that it waits for have come up. -/
def Owes (P : Program) (ops : Array Oper) (Q : Exit → Act → World → Prop) (I : (Nat → Bool) → Act → World → Prop) (i : Nat) (o : Oper) : Prop :=
  ∀ (l : Nat → Bool) a w, (∀ j, (waitsFor .any ops i).contains j = true → l j = true) → l i = false → I l a w →
      ∀ K : Act → World → Prop, Shut (∀ a' w', I (fun j => j == i || l j) a' w' → K a' w') → if Region.wanted o (yielded ops a.tmps) = true then Oper.wp P o a w K Q else K (a.put o.dst undef) w
def Owed (P : Program) (ops : Array Oper) (Q : Exit → Act → World → Prop) (I : (Nat → Bool) → Act → World → Prop) (n : Nat) : Prop := ∀ i, n ≤ i → ∀ o, ops[i]? = some o → Owes P ops Q I i o
theorem Owed.last {I : (Nat → Bool) → Act → World → Prop} {n : Nat} (h : ops[n]? = none) : Owed P ops Q I n := fun i hi o ho => by
  exfalso
  have h1 := Array.getElem?_eq_none_iff.1 h
  have h2 := (Array.getElem?_eq_some_iff.1 ho).1
  omega
theorem Owed.next {I : (Nat → Bool) → Act → World → Prop} {n : Nat} {o : Oper} (ho : ops[n]? = some o) (h : Owes P ops Q I n o) (hs : Owed P ops Q I (n + 1)) : Owed P ops Q I n := fun i hi o' ho' => by
  rcases Nat.eq_or_lt_of_le hi with rfl | hlt
  · obtain rfl : o = o' := Option.some.inj (ho.symm.trans ho'); exact h
  · exact hs i hlt o' ho'
/-- The way in. -/
theorem wp_region_owed {id : Nat} {a : Act} {w : World} (I : (Nat → Bool) → Act → World → Prop) (hm : P.follows .mixedOrders = true) (hr : rising .any ops = true)
    (h0 : I (fun _ => false) a w.drew) (hstep : Owed P ops Q I 0)
    (hfin : ∀ (l : Nat → Bool) a w, (∀ j, decide (j < ops.size) = true → l j = true) → I l a w → Q .normal a w) : (Code.region id ops true).wp P Q a w :=
  wp_region_inv hm hr I h0 (fun i o ho l a w hw => hstep i (Nat.zero_le _) o ho l a w (fun j hj => hw j (List.contains_iff_mem.1 hj))) (fun l a w hl => hfin l a w (fun j hj => hl j (by simpa using hj)))
/-- The same of those in M alone. -/
theorem packsM {l : Nat → Bool} {X V : Nat → Value} {M : List Nat} (i : Nat) (hX : ∀ j, l j = true → M.contains j = true → X j = V j) (E : List Nat) (hE : ∀ j ∈ E, l j = true) :
    ∀ j, (j == i || l j) = true → M.contains j = true → (bif (i :: E).contains j then V j else X j) = V j := fun j hj hm => by
  cases hc : (i :: E).contains j with
  | true => rfl
  | false =>
    have hne : j ≠ i := fun e => by subst e; simp at hc
    have hl : l j = true := by simpa [hne] using hj
    exact hX j hl hm
/-- One that is not in M has come up, with whatever it has yielded; others become known. -/
theorem packsN {l : Nat → Bool} {X V : Nat → Value} {M : List Nat} (i : Nat) (v : Value) (hX : ∀ j, l j = true → M.contains j = true → X j = V j) (hi : M.contains i = false) (E : List Nat) (hE : ∀ j ∈ E, l j = true) :
    ∀ j, (j == i || l j) = true → M.contains j = true → (bif [i].contains j then v else bif E.contains j then V j else X j) = V j := fun j hj hm => by
  have hne : j ≠ i := fun e => by subst e; rw [hm] at hi; cases hi
  have hl : l j = true := by simpa [hne] using hj
  have h1 : [i].contains j = false := by simp [hne]
  rw [h1]
  cases hc : E.contains j with
  | true => rfl
  | false => exact hX j hl hm
end
end Go.Proofs.YthglciccejholaaDoor
end
section
/- Package nfa. -/
namespace Go.Proofs.YthglciccejholaaDoor
set_option linter.unusedSimpArgs false
set_option linter.unusedVariables false
set_option maxRecDepth 100000
open Go.RowKit
/- What lies in memory, apart; regions that draw, closed. -/
section
variable {P : Program} {ops : Array Oper} {Q : Exit → Act → World → Prop}
/-- What has come up has what it waits for. -/
def Closed (ops : Array Oper) (l : Nat → Bool) : Prop := ∀ i, l i = true → ∀ j, (waitsFor .any ops i).contains j = true → l j = true
theorem Closed.next {l : Nat → Bool} {i : Nat} (h : Closed ops l) (hw : ∀ j, (waitsFor .any ops i).contains j = true → l j = true) : Closed ops (fun j => j == i || l j) := fun k hk j hj => by
  by_cases e : k = i
  · subst e; simp [hw j hj]
  · have : l k = true := by simpa [e] using hk
    simp [h k this j hj]
theorem Closed.none : Closed ops (fun _ => false) := fun _ h => by cases h
theorem Closed.not {l : Nat → Bool} (h : Closed ops l) (i j : Nat) (hj : l j = false) (hw : (waitsFor .any ops i).contains j = true) : l i = false := by
  cases hi : l i with
  | false => rfl
  | true => rw [h i hi j hw] at hj; cases hj
theorem wp_region_owed2 {id : Nat} {a : Act} {w : World} (I : (Nat → Bool) → Act → World → Prop) (hm : P.follows .mixedOrders = true) (hr : rising .any ops = true)
    (h0 : I (fun _ => false) a w.drew) (hstep : Owed P ops Q (fun l a w => Closed ops l ∧ I l a w) 0)
    (hfin : ∀ (l : Nat → Bool) a w, (∀ j, decide (j < ops.size) = true → l j = true) → I l a w → Q .normal a w) : (Code.region id ops true).wp P Q a w :=
  wp_region_owed (fun l a w => Closed ops l ∧ I l a w) hm hr ⟨Closed.none, h0⟩ hstep (fun l a w hl h => hfin l a w hl h.2)
end
/-- A block with its cells, or a row of one's own. -/
inductive It where
  | box (b : Nat) (o : Obj)
  | row (v : Value) (e : TypeId) (size n : Nat) (xs : List Value)
def It.blk : It → Option Nat
  | .box b _ => some b
  | .row v _ _ _ _ => v.ownBlock
def It.lies (B : Nat) (w : World) : It → Prop
  | .box b o => B ≤ b ∧ w.heap[b]? = some o
  | .row v e size n xs => w.ownsRow B e size v n xs
def Apart (x y : It) : Prop := ∀ b, x.blk = some b → y.blk ≠ some b
theorem Apart.symm {x y : It} (h : Apart x y) : Apart y x := fun b hy hx => h b hx hy
theorem It.lt {B : Nat} {w : World} {x : It} (h : x.lies B w) {b : Nat} (hb : x.blk = some b) : B ≤ b ∧ b < w.heap.size := by
  cases x with
  | box b' o =>
    have e : b' = b := by simpa [It.blk] using hb
    subst e
    exact ⟨h.1, (Array.getElem?_eq_some_iff.1 h.2).1⟩
  | row v e size n xs => exact World.ownsRow.lt h b hb
theorem It.kept {B : Nat} {w w' : World} {row : Option Nat} {x : It} (hg : w.grownBy w' row) (h : x.lies B w) (hn : ∀ b, x.blk = some b → some b ≠ row) : x.lies B w' := by
  cases x with
  | box b o => exact ⟨h.1, (hg.block b (Array.getElem?_eq_some_iff.1 h.2).1 (hn b rfl)).trans h.2⟩
  | row v e size n xs =>
    refine World.ownsRow.kept h hg ?_
    cases hv : v.ownBlock with
    | none => exact .inl rfl
    | some b => exact .inr (hn b hv)
structure Sep (B : Nat) (w0 w : World) (L : List It) : Prop where
  bel : Below B w0 w
  sz : B ≤ w.heap.size
  li : ∀ x ∈ L, x.lies B w
  ap : L.Pairwise Apart
theorem Sep.start (w : World) : Sep w.heap.size w w [] := ⟨Below.refl _ _, Nat.le_refl _, by simp, .nil⟩
theorem Sep.drew {B : Nat} {w0 w : World} {L : List It} (h : Sep B w0 w L) : Sep B w0 w.drew L :=
  ⟨below_drewN h.bel 1, h.sz, fun x hx => It.kept (row := none) ⟨rfl, rfl, rfl, Nat.le_refl _, fun _ _ _ => rfl⟩ (h.li x hx) (fun _ _ e => by cases e), h.ap⟩
theorem Sep.alloc {B : Nat} {w0 w : World} {L : List It} (h : Sep B w0 w L) (o : Obj) : Sep B w0 (w.alloc o) (.box w.heap.size o :: L) := by
  refine ⟨h.bel.alloc h.sz _, by simp; have := h.sz; omega, fun x hx => ?_, List.pairwise_cons.2 ⟨fun y hy b hb hyb => ?_, h.ap⟩⟩
  · rcases List.mem_cons.1 hx with rfl | hx
    · exact ⟨h.sz, heap_alloc_last w o⟩
    · exact It.kept (World.grownBy_alloc w o none) (h.li x hx) (fun _ _ e => by cases e)
  · have e : w.heap.size = b := by simpa [It.blk] using hb
    have := (It.lt (h.li y hy) hyb).2
    omega
theorem Sep.rep {B : Nat} {w0 w w' : World} {L : List It} {x x' : It} (h : Sep B w0 w (x :: L)) (hg : w.grownBy w' x.blk) (hl : x'.lies B w') (hat : ∀ b, x'.blk = some b → x.blk = some b ∨ w.heap.size ≤ b) : Sep B w0 w' (x' :: L) := by
  have hx := h.li x (List.mem_cons_self ..)
  have hap := List.pairwise_cons.1 h.ap
  refine ⟨below_grown h.bel hg (fun g e => (It.lt hx e).1) h.sz, Nat.le_trans h.sz hg.size, fun y hy => ?_, List.pairwise_cons.2 ⟨fun y hy b hb hyb => ?_, hap.2⟩⟩
  · rcases List.mem_cons.1 hy with rfl | hy
    · exact hl
    · exact It.kept hg (h.li y (List.mem_cons_of_mem _ hy)) (fun b hb e => hap.1 y hy b e.symm hb)
  · rcases hat b hb with e | e
    · exact hap.1 y hy b e hyb
    · have := (It.lt (h.li y (List.mem_cons_of_mem _ hy)) hyb).2
      omega
theorem Sep.same {B : Nat} {w0 w : World} {L : List It} {x x' : It} (h : Sep B w0 w (x :: L)) (hl : x'.lies B w) (hat : x'.blk = x.blk) : Sep B w0 w (x' :: L) :=
  h.rep ⟨rfl, rfl, rfl, Nat.le_refl _, fun _ _ _ => rfl⟩ hl (fun b hb => .inl (hat ▸ hb))
theorem Sep.up {B : Nat} {w0 w w' : World} {L : List It} (h : Sep B w0 w L) (hb : Below w.heap.size w w') : Sep B w0 w' L :=
  ⟨h.bel.trans (hb.mono h.sz), Nat.le_trans h.sz hb.size, fun x hx => It.kept (row := none) ⟨hb.os, hb.tape, hb.output, hb.size, fun k hk _ => hb.block k hk⟩ (h.li x hx) (fun _ _ e => by cases e), h.ap⟩
theorem Sep.front {B : Nat} {w0 w : World} {L : List It} {x : It} (h : Sep B w0 w L) (hx : x ∈ L) : ∃ M, Sep B w0 w (x :: M) ∧ ∀ y ∈ L, y ≠ x → y ∈ M := by
  obtain ⟨s, t, rfl⟩ := List.append_of_mem hx
  refine ⟨s ++ t, ⟨h.bel, h.sz, fun y hy => h.li y ?_, ?_⟩, fun y hy hn => ?_⟩
  · simp only [List.mem_cons, List.mem_append] at hy ⊢
    rcases hy with h | h | h
    · exact .inr (.inl h)
    · exact .inl h
    · exact .inr (.inr h)
  · exact (List.perm_middle.pairwise_iff (fun h => h.symm)).1 h.ap
  · simp only [List.mem_cons, List.mem_append] at hy ⊢
    rcases hy with h | h | h
    · exact .inl h
    · exact absurd h hn
    · exact .inr h
theorem Sep.tl {B : Nat} {w0 w : World} {L : List It} {x : It} (h : Sep B w0 w (x :: L)) : Sep B w0 w L := ⟨h.bel, h.sz, fun y hy => h.li y (List.mem_cons_of_mem _ hy), (List.pairwise_cons.1 h.ap).2⟩
theorem Sep.empty {B b e size : Nat} {w0 w : World} {L : List It} (h : Sep B w0 w (.box b (.cells #[] e (0, 0)) :: L)) : Sep B w0 w (.row (.slice (some ⟨b, 0, none⟩) 0 0) e size 0 [] :: L) := by
  have hx := h.li _ (List.mem_cons_self ..)
  exact h.same ⟨by simp, .inr ⟨b, 0, #[], rfl, hx.1, hx.2, Nat.le_refl _, by simp [maxLen], by simp, by simp⟩⟩ rfl
/-- Behind an append. -/
theorem Sep.app {B e size n m : Nat} {v v' : Value} {xs ys : List Value} {w0 w w' : World} {L : List It} (h : Sep B w0 w (.row v e size n xs :: L)) (hown : w'.ownsRow B e size v' m ys) (hg : w.grownBy w' v.ownBlock) (hat : v'.ownBlock = v.ownBlock ∨ v'.ownBlock = some w.heap.size) : Sep B w0 w' (.row v' e size m ys :: L) :=
  h.rep (x := .row v e size n xs) (x' := .row v' e size m ys) hg hown (fun b hb => hat.elim (fun e => .inl (e.symm.trans hb)) fun e => .inr (by have h2 : v'.ownBlock = some b := hb; rw [e] at h2; cases h2; exact Nat.le_refl _))
/-- Behind a store. -/
theorem Sep.put {B b : Nat} {o o' : Obj} {w0 w w' : World} {L : List It} (h : Sep B w0 w (.box b o :: L)) (hg : w.grownBy w' (some b)) (hb : w'.heap[b]? = some o') : Sep B w0 w' (.box b o' :: L) :=
  h.rep (x := .box b o) (x' := .box b o') hg ⟨(h.li _ (List.mem_cons_self ..)).1, hb⟩ (fun b' hb' => .inl hb')
end Go.Proofs.YthglciccejholaaDoor
end
section
/- Package regs: the reader's small steps: what comes next. -/
namespace Go.Proofs.YthglciccejholaaDoor.R5
set_option linter.unusedSimpArgs false
set_option linter.unusedVariables false
set_option maxRecDepth 100000
open Go.RowKit

/-- The library's table lies where its variable lies. -/
abbrev Tb (w : World) : Prop := TabAt 0 Lib.deBruijn64tab w
set_option maxHeartbeats 1000000 in
theorem tz_core (x k idx : Nat) (w : World) (hx0 : ((x : Int) == 0) = false)
    (key : IntKind.u64.wrap (bits BinOp.and IntKind.u64 (x : Int) (IntKind.u64.wrap (-(x : Int))) * 285870213051353865) / 288230376151711744 = (idx : Int))
    (hi : idx < 64) (hk : k < 64) (hcell : w.cell? ⟨0, idx, none⟩ = some (.int .u8 k)) :
    Calls Tryd.prog 114 #[.int .u64 x] w fun e w' => e = .returned (.int .i64 k) ∧ w = w' := by
  have hi' : (idx : Int) < 64 := by omega
  go_enter Tryd.func114, Tryd.ntmps114
  go_wp2_with (simp only [key])
  go_ret
  exact ⟨rfl, rfl⟩
theorem tz_any (x : Nat) (hx : x < 18446744073709551616) (h0 : x ≠ 0) (w : World) (hT : Tb w) :
    Calls Tryd.prog 114 #[.int .u64 x] w fun e w' => e = .returned (.int .i64 (Lib.ctz 64 x : Nat)) ∧ w = w' := by
  obtain ⟨hlow, hk⟩ := Lib.lowest_bit 64 x h0 hx
  obtain ⟨hi, htab⟩ := Lib.deBruijn64_at _ hk
  have hcell := hT _ hi
  rw [htab] at hcell
  exact tz_core x _ _ w (by simp; omega) (tz64_key x _ hx h0 hlow) hi hk hcell
end Go.Proofs.YthglciccejholaaDoor.R5
end
section
/- Package regs: the reader's small steps: what comes next. -/
namespace Go.Proofs.YthglciccejholaaDoor.R5
set_option linter.unusedSimpArgs false
set_option linter.unusedVariables false
set_option maxRecDepth 100000
open Go.RowKit

section
variable {P : Program} {ops : Array Oper} {Q : Exit → Act → World → Prop}
/-- What has come up has what it waits for. -/
def Closed (ops : Array Oper) (l : Nat → Bool) : Prop := ∀ i, l i = true → ∀ j, (waitsFor .any ops i).contains j = true → l j = true
theorem Closed.next {l : Nat → Bool} {i : Nat} (h : Closed ops l) (hw : ∀ j, (waitsFor .any ops i).contains j = true → l j = true) : Closed ops (fun j => j == i || l j) := fun k hk j hj => by
  by_cases e : k = i
  · subst e; simp [hw j hj]
  · have : l k = true := by simpa [e] using hk
    simp [h k this j hj]
theorem Closed.none : Closed ops (fun _ => false) := fun _ h => by cases h
theorem wp_region_owed2 {id : Nat} {a : Act} {w : World} (I : (Nat → Bool) → Act → World → Prop) (hm : P.follows .mixedOrders = true) (hr : rising .any ops = true)
    (h0 : I (fun _ => false) a w.drew) (hstep : Owed P ops Q (fun l a w => Closed ops l ∧ I l a w) 0)
    (hfin : ∀ (l : Nat → Bool) a w, (∀ j, decide (j < ops.size) = true → l j = true) → I l a w → Q .normal a w) : (Code.region id ops true).wp P Q a w :=
  wp_region_owed (fun l a w => Closed ops l ∧ I l a w) hm hr ⟨Closed.none, h0⟩ hstep (fun l a w hl h => hfin l a w hl h.2)
end
/-- A row's cells with others put in from o on. -/
def putA : Array Value → Nat → List Value → Array Value
  | cs, _, [] => cs
  | cs, o, v :: r => putA (cs.setIfInBounds o v) (o + 1) r
theorem putA_get : ∀ (vs : List Value) (cs : Array Value) (o i : Nat), o + vs.length ≤ cs.size → (putA cs o vs)[i]? = if o ≤ i ∧ i < o + vs.length then vs[i - o]? else cs[i]?
  | [], cs, o, i, _ => by
    rw [putA, if_neg (by rintro ⟨h1, h2⟩; simp at h2; omega)]
  | v :: r, cs, o, i, h => by
    simp only [List.length_cons] at h
    rw [putA, putA_get r _ (o + 1) i (by simp; omega), Array.getElem?_setIfInBounds]
    simp only [List.length_cons]
    by_cases h1 : o = i
    · subst h1
      rw [if_neg (by omega), if_pos rfl, if_pos (by omega), if_pos (by omega)]
      simp
    · by_cases h2 : o + 1 ≤ i ∧ i < o + 1 + r.length
      · rw [if_pos h2, if_pos (by omega), show i - o = (i - (o + 1)) + 1 by omega]; simp
      · rw [if_neg h2, if_neg h1, if_neg (by omega)]
theorem putA_size : ∀ (vs : List Value) (cs : Array Value) (o : Nat), (putA cs o vs).size = cs.size
  | [], _, _ => rfl
  | v :: r, cs, o => by rw [putA, putA_size]; simp
theorem setCells_heap {b : Nat} {t : TypeId} : ∀ (vs : List Value) (o : Nat) (w : World) (cs : Array Value), w.heap[b]? = some (.cells cs t (0, 0)) → (w.setCells b o vs).heap[b]? = some (.cells (putA cs o vs) t (0, 0))
  | [], _, _, _, h => h
  | v :: r, o, w, cs, h => setCells_heap r (o + 1) _ _ (heap_setCell_same w b o cs t v h)
theorem setCells_other {b z : Nat} (hz : z ≠ b) : ∀ (vs : List Value) (o : Nat) (w : World), (w.setCells b o vs).heap[z]? = w.heap[z]?
  | [], _, _ => rfl
  | v :: r, o, w => by
    rw [World.setCells, setCells_other hz r, heap_setCell_other _ _ _ _ (by simpa using hz)]
theorem setCells_below {B b : Nat} {w0 : World} (hb : B ≤ b) : ∀ (vs : List Value) (o : Nat) (w : World), Below B w0 w → Below B w0 (w.setCells b o vs)
  | [], _, _, h => h
  | v :: r, o, w, h => setCells_below hb r (o + 1) _ (h.setCell (p := ⟨b, o, none⟩) hb v)
theorem setCells_size {b : Nat} : ∀ (vs : List Value) (o : Nat) (w : World), (w.setCells b o vs).heap.size = w.heap.size
  | [], _, _ => rfl
  | v :: r, o, w => by rw [World.setCells, setCells_size r]; simp
/-- The words of some spots, as cells. -/
def spL (f : Nat → Bool) : List Value := [.int .u64 (wf f 0), .int .u64 (wf f 1), .int .u64 (wf f 2), .int .u64 (wf f 3), .int .u64 (wf f 4), .int .u64 (wf f 5), .int .u64 (wf f 6), .int .u64 (wf f 7)]
theorem spL_get (f : Nat → Bool) (j : Nat) (h : j < 8) : (spL f)[j]? = some (.int .u64 (wf f j)) := by
  rcases lt8 h with rfl | rfl | rfl | rfl | rfl | rfl | rfl | rfl <;> rfl
theorem wf_congr {f g : Nat → Bool} (h : ∀ k, k < 512 → f k = g k) (j : Nat) (hj : j < 8) : wf f j = wf g j := by
  unfold wf; rw [W_congr j (fun k hk => h _ (by omega))]
def netV (N : Net) (i : Nat) : Value := if i = 0 then .int .i64 (N.n : Nat) else if i < 2049 then .int .u64 (wf (N.has ((i - 1) / 8)) ((i - 1) % 8)) else .int .u64 (wf (N.beh ((i - 2049) / 8)) ((i - 2049) % 8))
/-- A net's cells. -/
def netC (N : Net) : Array Value := Array.ofFn (n := 6145) fun i => netV N i.val
theorem netC_size (N : Net) : (netC N).size = 6145 := by simp [netC]
theorem netC_get (N : Net) (i : Nat) (h : i < 6145) : (netC N)[i]? = some (netV N i) := by
  simp [netC, Array.getElem?_ofFn, h]
theorem netC_n (N : Net) : (netC N)[0]? = some (.int .i64 (N.n : Nat)) := netC_get N 0 (by omega)
theorem netC_has (N : Net) (c j : Nat) (hc : c < 256) (hj : j < 8) : (netC N)[1 + c * 8 + j]? = some (.int .u64 (wf (N.has c) j)) := by
  rw [netC_get N _ (by omega)]
  unfold netV
  rw [if_neg (by omega), if_pos (by omega), show (1 + c * 8 + j - 1) / 8 = c by omega, show (1 + c * 8 + j - 1) % 8 = j by omega]
theorem netC_beh (N : Net) (c j : Nat) (hc : c < 512) (hj : j < 8) : (netC N)[2049 + c * 8 + j]? = some (.int .u64 (wf (N.beh c) j)) := by
  rw [netC_get N _ (by omega)]
  unfold netV
  rw [if_neg (by omega), if_neg (by omega), show (2049 + c * 8 + j - 2049) / 8 = c by omega, show (2049 + c * 8 + j - 2049) % 8 = j by omega]
theorem netV_congr {N M : Net} (hn : N.n = M.n) (hh : ∀ c, c < 256 → ∀ s, s < 512 → N.has c s = M.has c s) (hb : ∀ c, c < 512 → ∀ s, s < 512 → N.beh c s = M.beh c s) (i : Nat) (hi : i < 6145) : netV N i = netV M i := by
  unfold netV
  by_cases h0 : i = 0
  · rw [if_pos h0, if_pos h0, hn]
  · rw [if_neg h0, if_neg h0]
    by_cases h1 : i < 2049
    · rw [if_pos h1, if_pos h1, wf_congr (hh _ (by omega)) _ (by omega)]
    · rw [if_neg h1, if_neg h1, wf_congr (hb _ (by omega)) _ (by omega)]
theorem arr_ext {a b : Array Value} {n : Nat} (ha : a.size = n) (hb : b.size = n) (h : ∀ i, i < n → a[i]? = b[i]?) : a = b := by
  apply Array.ext_getElem?
  intro i
  by_cases hi : i < n
  · exact h i hi
  · rw [Array.getElem?_eq_none (by omega), Array.getElem?_eq_none (by omega)]
theorem netC_congr {N M : Net} (hn : N.n = M.n) (hh : ∀ c, c < 256 → ∀ s, s < 512 → N.has c s = M.has c s) (hb : ∀ c, c < 512 → ∀ s, s < 512 → N.beh c s = M.beh c s) : netC N = netC M :=
  arr_ext (netC_size N) (netC_size M) fun i hi => by rw [netC_get N i hi, netC_get M i hi, netV_congr hn hh hb i hi]
/-- What one more word of a byte's spots makes. -/
theorem putA_has {N M : Net} (c : Nat) (hc : c < 256) (f : Nat → Bool) (hn : N.n = M.n) (h1 : ∀ s, s < 512 → M.has c s = f s) (hh : ∀ k, k < 256 → k ≠ c → ∀ s, s < 512 → N.has k s = M.has k s) (hb : ∀ k, k < 512 → ∀ s, s < 512 → N.beh k s = M.beh k s) :
    putA (netC N) (1 + c * 8) (spL f) = netC M := by
  have hl : (spL f).length = 8 := rfl
  refine arr_ext (n := 6145) (by rw [putA_size, netC_size]) (netC_size M) fun i hi => ?_
  rw [putA_get _ _ _ _ (by rw [netC_size, hl]; omega), netC_get M i hi, netC_get N i hi, hl]
  by_cases h : 1 + c * 8 ≤ i ∧ i < 1 + c * 8 + 8
  · rw [if_pos h, spL_get f _ (by omega)]
    unfold netV
    rw [if_neg (by omega), if_pos (by omega), show (i - 1) / 8 = c by omega, show (i - 1) % 8 = i - (1 + c * 8) by omega, wf_congr (fun s hs => h1 s hs) _ (by omega)]
  · rw [if_neg h]
    unfold netV
    by_cases h0 : i = 0
    · rw [if_pos h0, if_pos h0, hn]
    · rw [if_neg h0, if_neg h0]
      by_cases h2 : i < 2049
      · rw [if_pos h2, if_pos h2, wf_congr (hh _ (by omega) (by omega)) _ (by omega)]
      · rw [if_neg h2, if_neg h2, wf_congr (hb _ (by omega)) _ (by omega)]
theorem putA_beh {N M : Net} (c : Nat) (hc : c < 512) (f : Nat → Bool) (hn : N.n = M.n) (h1 : ∀ s, s < 512 → M.beh c s = f s) (hh : ∀ k, k < 256 → ∀ s, s < 512 → N.has k s = M.has k s) (hb : ∀ k, k < 512 → k ≠ c → ∀ s, s < 512 → N.beh k s = M.beh k s) :
    putA (netC N) (2049 + c * 8) (spL f) = netC M := by
  have hl : (spL f).length = 8 := rfl
  refine arr_ext (n := 6145) (by rw [putA_size, netC_size]) (netC_size M) fun i hi => ?_
  rw [putA_get _ _ _ _ (by rw [netC_size, hl]; omega), netC_get M i hi, netC_get N i hi, hl]
  by_cases h : 2049 + c * 8 ≤ i ∧ i < 2049 + c * 8 + 8
  · rw [if_pos h, spL_get f _ (by omega)]
    unfold netV
    rw [if_neg (by omega), if_neg (by omega), show (i - 2049) / 8 = c by omega, show (i - 2049) % 8 = i - (2049 + c * 8) by omega, wf_congr (fun s hs => h1 s hs) _ (by omega)]
  · rw [if_neg h]
    unfold netV
    by_cases h0 : i = 0
    · rw [if_pos h0, if_pos h0, hn]
    · rw [if_neg h0, if_neg h0]
      by_cases h2 : i < 2049
      · rw [if_pos h2, if_pos h2, wf_congr (hh _ (by omega)) _ (by omega)]
      · rw [if_neg h2, if_neg h2, wf_congr (hb _ (by omega) (by omega)) _ (by omega)]
/-- A net at b; whatever else there was is as it was. -/
def Nk (b : Nat) (N : Net) (w w' : World) : Prop := w'.heap[b]? = some (.cells (netC N) 94 (0, 0)) ∧ Below b w w' ∧ ∀ z, z < w.heap.size → z ≠ b → w'.heap[z]? = w.heap[z]?
theorem Nk.trans {b : Nat} {N M : Net} {w w1 w2 : World} (h : Nk b N w w1) (g : Nk b M w1 w2) : Nk b M w w2 :=
  ⟨g.1, h.2.1.trans g.2.1, fun z hz hne => (g.2.2 z (Nat.lt_of_lt_of_le hz h.2.1.size) hne).trans (h.2.2 z hz hne)⟩
theorem Nk.lt {b : Nat} {N : Net} {w w' : World} (h : Nk b N w w') : b < w'.heap.size := (Array.getElem?_eq_some_iff.1 h.1).1
theorem Nk.up {b : Nat} {N : Net} {w w1 w2 : World} (h : Nk b N w w1) (hb : Below w1.heap.size w1 w2) : Nk b N w w2 :=
  ⟨(hb.block b h.lt).trans h.1, h.2.1.trans (hb.mono (Nat.le_of_lt h.lt)), fun z hz hne => (hb.block z (Nat.lt_of_lt_of_le hz h.2.1.size)).trans (h.2.2 z hz hne)⟩
theorem Nk.start {b : Nat} {N : Net} {w : World} (h : w.heap[b]? = some (.cells (netC N) 94 (0, 0))) : Nk b N w w := ⟨h, Below.refl _ _, fun _ _ _ => rfl⟩
theorem Nk.again {b : Nat} {N : Net} {w w' : World} (h : Nk b N w w') : Nk b N w' w' := Nk.start h.1
theorem Nk.drew {b : Nat} {N : Net} {w w' : World} (h : Nk b N w w') : Nk b N w w'.drew := ⟨h.1, below_drewN h.2.1 1, h.2.2⟩
/-- A block made since is written: the net is as it was. -/
theorem Nk.set {b g o : Nat} {N : Net} {w w' : World} (h : Nk b N w w') (hb : b < w.heap.size) (hg : w.heap.size ≤ g) (vs : List Value) : Nk b N w (w'.setCells g o vs) :=
  ⟨(setCells_other (by omega) vs o w').trans h.1, setCells_below (by omega) vs o w' h.2.1, fun z hz hne => (setCells_other (by omega) vs o w').trans (h.2.2 z hz hne)⟩
theorem Nk.put {b o : Nat} {N M : Net} {w w' : World} (h : Nk b N w w') (vs : List Value) (hM : putA (netC N) o vs = netC M) : Nk b M w (w'.setCells b o vs) :=
  ⟨by rw [← hM]; exact setCells_heap vs o w' _ h.1, setCells_below (Nat.le_refl _) vs o w' h.2.1, fun z hz hne => (setCells_other hne vs o w').trans (h.2.2 z hz hne)⟩
theorem Nk.hasAt {b : Nat} {N : Net} {w w' : World} (h : Nk b N w w') (c : Nat) (hc : c < 256) : w'.rangeAt b (1 + c * 8) (spL (N.has c)) := fun j v hv => by
  have hj : j < 8 := (List.getElem?_eq_some_iff.1 hv).1
  rw [cell_of_row w' b _ _ 94 (0, 0) h.1, netC_has N c j hc hj, ← spL_get _ _ hj]; exact hv
theorem Nk.behAt {b : Nat} {N : Net} {w w' : World} (h : Nk b N w w') (c : Nat) (hc : c < 512) : w'.rangeAt b (2049 + c * 8) (spL (N.beh c)) := fun j v hv => by
  have hj : j < 8 := (List.getElem?_eq_some_iff.1 hv).1
  rw [cell_of_row w' b _ _ 94 (0, 0) h.1, netC_beh N c j hc hj, ← spL_get _ _ hj]; exact hv
theorem Nk.there {b : Nat} {N : Net} {w w' : World} (h : Nk b N w w') (o n : Nat) (ho : o + n ≤ 6145) : w'.there b o n := fun j hj => by
  refine ⟨?_, frozen_of_row w' b _ _ 94 h.1⟩
  rw [cell_of_row w' b _ _ 94 (0, 0) h.1, netC_get N _ (by omega)]; rfl
theorem Nk.count {b : Nat} {N : Net} {w w' : World} (h : Nk b N w w') : w'.cell? ⟨b, 0, none⟩ = some (.int .i64 (N.n : Nat)) := by
  rw [cell_of_row w' b _ _ 94 (0, 0) h.1, netC_n]
/-- A block of eight words. -/
theorem row8_at {w : World} {b : Nat} {f : Nat → Bool} (h : w.heap[b]? = some (.cells (spL f).toArray 90 (0, 0))) (j : Nat) (hj : j < 8) : w.cell? ⟨b, j, none⟩ = some (.int .u64 (wf f j)) := by
  rw [cell_of_row w b j _ 90 (0, 0) h, List.getElem?_toArray, spL_get f j hj]
theorem row8_range {w : World} {b : Nat} {f : Nat → Bool} (h : w.heap[b]? = some (.cells (spL f).toArray 90 (0, 0))) : w.rangeAt b 0 (spL f) := fun j v hv => by
  have hj : j < 8 := (List.getElem?_eq_some_iff.1 hv).1
  rw [Nat.zero_add, row8_at h j hj, ← spL_get _ _ hj]; exact hv
end Go.Proofs.YthglciccejholaaDoor.R5
end
