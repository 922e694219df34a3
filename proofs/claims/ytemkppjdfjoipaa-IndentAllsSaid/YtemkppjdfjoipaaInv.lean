/- A region that draws its order, by a relation of which operations have come up: one duty for each operation, none for each order. -/
import Derived.Orders
import Derived.Deep.RegionHeld
namespace Go.Proofs.Ytemkppjdfjoipaa.I1
set_option linter.unusedSimpArgs false
set_option linter.unusedVariables false
open Go
section
variable {P : Program} {ops : Array Oper} {Q : Exit → Act → World → Prop} {md : Region.Mode}
/-- Those that operation 'i' waits for. -/
def waitsFor (md : Region.Mode) (ops : Array Oper) (i : Nat) : List Nat := ((ops[i]?).map fun o => (o.after.toList.filter (Region.binds md)).map (·.on)).getD []
/-- Each operation waits for earlier ones alone. -/
def rising (md : Region.Mode) (ops : Array Oper) : Bool := (List.range ops.size).all fun i => (waitsFor md ops i).all (fun j => decide (j < i))

theorem count_set : ∀ (L : List Bool) (i : Nat), L[i]? = some false → ((L.set i true).filter (· == false)).length + 1 = (L.filter (· == false)).length
  | [], i, h => by simp at h
  | x :: xs, 0, h => by simp at h; subst h; simp
  | x :: xs, i + 1, h => by
    have := count_set xs i (by simpa using h)
    cases x <;> simp at * <;> omega
theorem all_up (hr : rising md ops = true) {listed : Array Bool} (hs : listed.size = ops.size) (h : Region.ready md ops listed = []) : ∀ j, j < ops.size → listed.getD j false = true := by
  intro j
  induction j using Nat.strongRecOn with
  | ind j ih =>
    intro hj
    cases hv : listed.getD j false with
    | true => rfl
    | false =>
      exfalso
      have hm : j ∈ Region.ready md ops listed := by
        unfold Region.ready
        rw [List.mem_filter]
        refine ⟨List.mem_range.2 hj, ?_⟩
        have e1 : listed.getD j true = false := by
          have hjs : j < listed.size := by omega
          rw [Array.getD_eq_getD_getElem?, Array.getElem?_eq_getElem hjs] at hv ⊢
          exact hv
        rw [e1]
        simp only [Bool.not_false, Bool.true_and]
        rw [Array.getElem?_eq_getElem hj]
        simp only [Option.map_some, Option.getD_some]
        rw [Array.all_eq_true_iff_forall_mem]
        intro e he
        cases hb : Region.binds md e with
        | false => rfl
        | true =>
          have hw : e.on ∈ waitsFor md ops j := by
            unfold waitsFor
            rw [Array.getElem?_eq_getElem hj]
            simp only [Option.map_some, Option.getD_some, List.mem_map, List.mem_filter]
            exact ⟨e, ⟨by simpa using he, hb⟩, rfl⟩
          have hlt : e.on < j := by
            have := (List.all_eq_true.1 hr) j (List.mem_range.2 hj)
            have := (List.all_eq_true.1 this) _ hw
            simpa using this
          simp only [Bool.not_true, Bool.false_or]
          exact ih e.on hlt (by omega)
      rw [h] at hm
      cases hm

theorem wpAny_inv (hr : rising md ops = true) (I : (Nat → Bool) → Act → World → Prop)
    (hstep : ∀ i o, ops[i]? = some o → ∀ (l : Nat → Bool) a w, (∀ j ∈ waitsFor md ops i, l j = true) → l i = false → I l a w →
      ∀ K : Act → World → Prop, Shut (∀ a' w', I (fun j => j == i || l j) a' w' → K a' w') → if Region.wanted o (yielded ops a.tmps) = true then Oper.wp P o a w K Q else K (a.put o.dst undef) w)
    (hfin : ∀ (l : Nat → Bool) a w, (∀ j, j < ops.size → l j = true) → I l a w → Q .normal a w) :
    ∀ (fuel : Nat) (listed : Array Bool) (a : Act) (w : World), listed.size = ops.size → (listed.toList.filter (· == false)).length ≤ fuel →
      I (fun j => listed.getD j false) a w → wpAny P md ops Q fuel listed a w := by
  intro fuel
  induction fuel with
  | zero =>
    intro listed a w hs hf hI
    have hnil : Region.ready md ops listed = [] := by
      cases hc : Region.ready md ops listed with
      | nil => rfl
      | cons i rest =>
        exfalso
        have hi := mem_ready.1 (hc ▸ List.mem_cons_self .. : i ∈ Region.ready md ops listed)
        have h0 := hi.1
        have hlt : i < listed.size := by
          rcases Nat.lt_or_ge i listed.size with h | h
          · exact h
          · rw [Array.getD_eq_getD_getElem?, Array.getElem?_eq_none h] at h0; cases h0
        rw [Array.getD_eq_getD_getElem?, Array.getElem?_eq_getElem hlt] at h0
        have : listed[i] ∈ listed.toList.filter (· == false) := List.mem_filter.2 ⟨by simp, by simpa using h0⟩
        have hl := List.length_pos_of_mem this
        omega
    exact ⟨hnil, hfin _ a w (all_up hr hs hnil) hI⟩
  | succ fuel ih =>
    intro listed a w hs hf hI
    refine ⟨fun hnil => hfin _ a w (all_up hr hs hnil) hI, fun i hi => ?_⟩
    obtain ⟨h0, o, ho, hall⟩ := mem_ready.1 hi
    have hlt : i < listed.size := by
      rcases Nat.lt_or_ge i listed.size with h | h
      · exact h
      · rw [Array.getD_eq_getD_getElem?, Array.getElem?_eq_none h] at h0; cases h0
    have h0' : listed.getD i false = false := by
      rw [Array.getD_eq_getD_getElem?, Array.getElem?_eq_getElem hlt] at h0 ⊢; exact h0
    refine wpOp_step ho (fun K hK => ?_)
    refine hstep i o ho (fun j => listed.getD j false) a w (fun j hj => ?_) h0' hI K (fun a' w' hI' => hK a' w' ?_)
    · unfold waitsFor at hj
      rw [ho] at hj
      simp only [Option.map_some, Option.getD_some, List.mem_map, List.mem_filter] at hj
      obtain ⟨e, ⟨he, hb⟩, rfl⟩ := hj
      exact hall e (by simpa using he) hb
    · refine ih (listed.setIfInBounds i true) a' w' (by simpa using hs) ?_ ?_
      · have hcount : ((listed.setIfInBounds i true).toList.filter (· == false)).length + 1 = (listed.toList.filter (· == false)).length := by
          rw [Array.toList_setIfInBounds]
          have hg : listed.toList[i]? = some false := by
            rw [Array.getElem?_toList, Array.getElem?_eq_getElem hlt]
            rw [Array.getD_eq_getD_getElem?, Array.getElem?_eq_getElem hlt] at h0
            exact congrArg some h0
          exact count_set _ i hg
        omega
      · have : (fun j => (listed.setIfInBounds i true).getD j false) = fun j => j == i || listed.getD j false := by
          funext j
          rw [Array.getD_eq_getD_getElem?, Array.getD_eq_getD_getElem?, Array.getElem?_setIfInBounds]
          by_cases hji : i = j
          · subst hji; simp [hlt]
          · have : (j == i) = false := by simpa using fun h => hji h.symm
            simp [hji, this]
        rw [this]; exact hI'

/-- A region that draws its order: 'I' says what holds once those of 'l' have come up. -/
theorem wp_region_inv {id : Nat} {a : Act} {w : World} (hm : P.follows .mixedOrders = true) (hr : rising .any ops = true) (I : (Nat → Bool) → Act → World → Prop)
    (h0 : I (fun _ => false) a w.drew)
    (hstep : ∀ i o, ops[i]? = some o → ∀ (l : Nat → Bool) a w, (∀ j ∈ waitsFor .any ops i, l j = true) → l i = false → I l a w →
      ∀ K : Act → World → Prop, Shut (∀ a' w', I (fun j => j == i || l j) a' w' → K a' w') → if Region.wanted o (yielded ops a.tmps) = true then Oper.wp P o a w K Q else K (a.put o.dst undef) w)
    (hfin : ∀ (l : Nat → Bool) a w, (∀ j, j < ops.size → l j = true) → I l a w → Q .normal a w) : (Code.region id ops true).wp P Q a w := by
  refine wp_region_any hm (wpAny_inv hr I hstep hfin ops.size (Array.replicate ops.size false) a _ (by simp) ?_ ?_)
  · rw [Array.toList_replicate]
    exact Nat.le_trans (List.length_filter_le _ _) (by simp)
  · have : (fun j => (Array.replicate ops.size false).getD j false) = fun _ => false := by
      funext j
      rw [Array.getD_eq_getD_getElem?, Array.getElem?_replicate]
      split <;> rfl
    rw [this]; exact h0
/-- What number 'i' owes: from a state in which those that it waits for have come up. -/
def Owes (P : Program) (ops : Array Oper) (Q : Exit → Act → World → Prop) (I : (Nat → Bool) → Act → World → Prop) (i : Nat) (o : Oper) : Prop :=
  ∀ (l : Nat → Bool) a w, (∀ j, (waitsFor .any ops i).contains j = true → l j = true) → l i = false → I l a w →
      ∀ K : Act → World → Prop, Shut (∀ a' w', I (fun j => j == i || l j) a' w' → K a' w') → if Region.wanted o (yielded ops a.tmps) = true then Oper.wp P o a w K Q else K (a.put o.dst undef) w
def Owed (P : Program) (ops : Array Oper) (Q : Exit → Act → World → Prop) (I : (Nat → Bool) → Act → World → Prop) (n : Nat) : Prop := ∀ i, n ≤ i → ∀ o, ops[i]? = some o → Owes P ops Q I i o
theorem Owed.last {I : (Nat → Bool) → Act → World → Prop} {n : Nat} (h : ops[n]? = none) : Owed P ops Q I n := fun i hi o ho => by
  exfalso
  have h1 := Array.getElem?_eq_none_iff.1 h
  have h2 := (Array.getElem?_eq_some_iff.1 ho).1
  omega
theorem Owed.next {I : (Nat → Bool) → Act → World → Prop} {n : Nat} {o : Oper} (ho : ops[n]? = some o) (h : Owes P ops Q I n o) (hs : Owed P ops Q I (n + 1)) : Owed P ops Q I n := fun i hi o' ho' => by
  rcases Nat.eq_or_lt_of_le hi with rfl | hlt
  · obtain rfl : o = o' := Option.some.inj (ho.symm.trans ho'); exact h
  · exact hs i hlt o' ho'
/-- The way in. -/
theorem wp_region_owed {id : Nat} {a : Act} {w : World} (I : (Nat → Bool) → Act → World → Prop) (hm : P.follows .mixedOrders = true) (hr : rising .any ops = true)
    (h0 : I (fun _ => false) a w.drew) (hstep : Owed P ops Q I 0)
    (hfin : ∀ (l : Nat → Bool) a w, (∀ j, decide (j < ops.size) = true → l j = true) → I l a w → Q .normal a w) : (Code.region id ops true).wp P Q a w :=
  wp_region_inv hm hr I h0 (fun i o ho l a w hw => hstep i (Nat.zero_le _) o ho l a w (fun j hj => hw j (List.contains_iff_mem.1 hj))) (fun l a w hl => hfin l a w (fun j hj => hl j (by simpa using hj)))
/-- The same of those in M alone. -/
theorem packsM {l : Nat → Bool} {X V : Nat → Value} {M : List Nat} (i : Nat) (hX : ∀ j, l j = true → M.contains j = true → X j = V j) (E : List Nat) (hE : ∀ j ∈ E, l j = true) :
    ∀ j, (j == i || l j) = true → M.contains j = true → (bif (i :: E).contains j then V j else X j) = V j := fun j hj hm => by
  cases hc : (i :: E).contains j with
  | true => rfl
  | false =>
    have hne : j ≠ i := fun e => by subst e; simp at hc
    have hl : l j = true := by simpa [hne] using hj
    exact hX j hl hm
/-- One that is not in M has come up, with whatever it has yielded; others become known. -/
theorem packsN {l : Nat → Bool} {X V : Nat → Value} {M : List Nat} (i : Nat) (v : Value) (hX : ∀ j, l j = true → M.contains j = true → X j = V j) (hi : M.contains i = false) (E : List Nat) (hE : ∀ j ∈ E, l j = true) :
    ∀ j, (j == i || l j) = true → M.contains j = true → (bif [i].contains j then v else bif E.contains j then V j else X j) = V j := fun j hj hm => by
  have hne : j ≠ i := fun e => by subst e; rw [hm] at hi; cases hi
  have hl : l j = true := by simpa [hne] using hj
  have h1 : [i].contains j = false := by simp [hne]
  rw [h1]
  cases hc : E.contains j with
  | true => rfl
  | false => exact hX j hl hm
end
end Go.Proofs.Ytemkppjdfjoipaa.I1
