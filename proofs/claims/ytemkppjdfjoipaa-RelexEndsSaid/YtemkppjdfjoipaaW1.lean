/- Texts of package regs, one behind the other. -/
import Derived.Orders
import Derived.Deep.RegionHeld
import Derived.Great.BuildSlice
import Derived.WalkKit
import Derived.Maps.OwnSet
import Derived.Maps.OwnOps
import Derived.Maps.Own
import Derived.DeepKeys5
import Derived.BigFrame
import Derived.WalkMore
import Derived.ScopeJumps
import Derived.StillTailTactics
import Derived.Stop.BytesEq
import Derived.WalkLawsBesides
import Derived.WalkSpells
import Derived.Outline
import Derived.Lib.Walk
import Derived.Lib.Hide
import Derived.Lib.Slices
import Derived.Lib.Strings
import Derived.RegionTactic
import Derived.LoopTactic
import Derived.Below
import Derived.IntWalk
import Derived.Deep.QuietTactic
import Derived.BigQuiet
import Derived.Deep.MidRow
import Derived.Maps.AppendAt
import Derived.Laws.Rows
import Derived.Laws.Tables
import Derived.Deep.WholeRow
import Derived.Deep.Cut
import Derived.Deep.CutRange
import Derived.Lib.SliceRun
import Derived.Laws.MakeOwn
import Derived.Deep.RegionLaw
import Derived.Deep.RegionLawGrows
import Derived.Deep.RegionHeld3
import Derived.RegionCalls
import Derived.Deep.RegionWith
import Derived.Deep.Light
import Derived.Laws.CopyOwn
import Derived.Laws.ResultCell
import Derived.Test.YtemkppjdfjoipaaProg
section
/- A region that draws its order, by a relation of which operations have come up: one duty for each operation, none for each order. -/
namespace Go.Proofs.Ytemkppjdfjoipaa.I1
set_option linter.unusedSimpArgs false
set_option linter.unusedVariables false
open Go
section
variable {P : Program} {ops : Array Oper} {Q : Exit → Act → World → Prop} {md : Region.Mode}
/-- Those that operation 'i' waits for. -/
def waitsFor (md : Region.Mode) (ops : Array Oper) (i : Nat) : List Nat := ((ops[i]?).map fun o => (o.after.toList.filter (Region.binds md)).map (·.on)).getD []
/-- Each operation waits for earlier ones alone. -/
def rising (md : Region.Mode) (ops : Array Oper) : Bool := (List.range ops.size).all fun i => (waitsFor md ops i).all (fun j => decide (j < i))

theorem count_set : ∀ (L : List Bool) (i : Nat), L[i]? = some false → ((L.set i true).filter (· == false)).length + 1 = (L.filter (· == false)).length
  | [], i, h => by simp at h
  | x :: xs, 0, h => by simp at h; subst h; simp
  | x :: xs, i + 1, h => by
    have := count_set xs i (by simpa using h)
    cases x <;> simp at * <;> omega
theorem all_up (hr : rising md ops = true) {listed : Array Bool} (hs : listed.size = ops.size) (h : Region.ready md ops listed = []) : ∀ j, j < ops.size → listed.getD j false = true := by
  intro j
  induction j using Nat.strongRecOn with
  | ind j ih =>
    intro hj
    cases hv : listed.getD j false with
    | true => rfl
    | false =>
      exfalso
      have hm : j ∈ Region.ready md ops listed := by
        unfold Region.ready
        rw [List.mem_filter]
        refine ⟨List.mem_range.2 hj, ?_⟩
        have e1 : listed.getD j true = false := by
          have hjs : j < listed.size := by omega
          rw [Array.getD_eq_getD_getElem?, Array.getElem?_eq_getElem hjs] at hv ⊢
          exact hv
        rw [e1]
        simp only [Bool.not_false, Bool.true_and]
        rw [Array.getElem?_eq_getElem hj]
        simp only [Option.map_some, Option.getD_some]
        rw [Array.all_eq_true_iff_forall_mem]
        intro e he
        cases hb : Region.binds md e with
        | false => rfl
        | true =>
          have hw : e.on ∈ waitsFor md ops j := by
            unfold waitsFor
            rw [Array.getElem?_eq_getElem hj]
            simp only [Option.map_some, Option.getD_some, List.mem_map, List.mem_filter]
            exact ⟨e, ⟨by simpa using he, hb⟩, rfl⟩
          have hlt : e.on < j := by
            have := (List.all_eq_true.1 hr) j (List.mem_range.2 hj)
            have := (List.all_eq_true.1 this) _ hw
            simpa using this
          simp only [Bool.not_true, Bool.false_or]
          exact ih e.on hlt (by omega)
      rw [h] at hm
      cases hm

theorem wpAny_inv (hr : rising md ops = true) (I : (Nat → Bool) → Act → World → Prop)
    (hstep : ∀ i o, ops[i]? = some o → ∀ (l : Nat → Bool) a w, (∀ j ∈ waitsFor md ops i, l j = true) → l i = false → I l a w →
      ∀ K : Act → World → Prop, Shut (∀ a' w', I (fun j => j == i || l j) a' w' → K a' w') → if Region.wanted o (yielded ops a.tmps) = true then Oper.wp P o a w K Q else K (a.put o.dst undef) w)
    (hfin : ∀ (l : Nat → Bool) a w, (∀ j, j < ops.size → l j = true) → I l a w → Q .normal a w) :
    ∀ (fuel : Nat) (listed : Array Bool) (a : Act) (w : World), listed.size = ops.size → (listed.toList.filter (· == false)).length ≤ fuel →
      I (fun j => listed.getD j false) a w → wpAny P md ops Q fuel listed a w := by
  intro fuel
  induction fuel with
  | zero =>
    intro listed a w hs hf hI
    have hnil : Region.ready md ops listed = [] := by
      cases hc : Region.ready md ops listed with
      | nil => rfl
      | cons i rest =>
        exfalso
        have hi := mem_ready.1 (hc ▸ List.mem_cons_self .. : i ∈ Region.ready md ops listed)
        have h0 := hi.1
        have hlt : i < listed.size := by
          rcases Nat.lt_or_ge i listed.size with h | h
          · exact h
          · rw [Array.getD_eq_getD_getElem?, Array.getElem?_eq_none h] at h0; cases h0
        rw [Array.getD_eq_getD_getElem?, Array.getElem?_eq_getElem hlt] at h0
        have : listed[i] ∈ listed.toList.filter (· == false) := List.mem_filter.2 ⟨by simp, by simpa using h0⟩
        have hl := List.length_pos_of_mem this
        omega
    exact ⟨hnil, hfin _ a w (all_up hr hs hnil) hI⟩
  | succ fuel ih =>
    intro listed a w hs hf hI
    refine ⟨fun hnil => hfin _ a w (all_up hr hs hnil) hI, fun i hi => ?_⟩
    obtain ⟨h0, o, ho, hall⟩ := mem_ready.1 hi
    have hlt : i < listed.size := by
      rcases Nat.lt_or_ge i listed.size with h | h
      · exact h
      · rw [Array.getD_eq_getD_getElem?, Array.getElem?_eq_none h] at h0; cases h0
    have h0' : listed.getD i false = false := by
      rw [Array.getD_eq_getD_getElem?, Array.getElem?_eq_getElem hlt] at h0 ⊢; exact h0
    refine wpOp_step ho (fun K hK => ?_)
    refine hstep i o ho (fun j => listed.getD j false) a w (fun j hj => ?_) h0' hI K (fun a' w' hI' => hK a' w' ?_)
    · unfold waitsFor at hj
      rw [ho] at hj
      simp only [Option.map_some, Option.getD_some, List.mem_map, List.mem_filter] at hj
      obtain ⟨e, ⟨he, hb⟩, rfl⟩ := hj
      exact hall e (by simpa using he) hb
    · refine ih (listed.setIfInBounds i true) a' w' (by simpa using hs) ?_ ?_
      · have hcount : ((listed.setIfInBounds i true).toList.filter (· == false)).length + 1 = (listed.toList.filter (· == false)).length := by
          rw [Array.toList_setIfInBounds]
          have hg : listed.toList[i]? = some false := by
            rw [Array.getElem?_toList, Array.getElem?_eq_getElem hlt]
            rw [Array.getD_eq_getD_getElem?, Array.getElem?_eq_getElem hlt] at h0
            exact congrArg some h0
          exact count_set _ i hg
        omega
      · have : (fun j => (listed.setIfInBounds i true).getD j false) = fun j => j == i || listed.getD j false := by
          funext j
          rw [Array.getD_eq_getD_getElem?, Array.getD_eq_getD_getElem?, Array.getElem?_setIfInBounds]
          by_cases hji : i = j
          · subst hji; simp [hlt]
          · have : (j == i) = false := by simpa using fun h => hji h.symm
            simp [hji, this]
        rw [this]; exact hI'

/-- A region that draws its order: 'I' says what holds once those of 'l' have come up. -/
theorem wp_region_inv {id : Nat} {a : Act} {w : World} (hm : P.follows .mixedOrders = true) (hr : rising .any ops = true) (I : (Nat → Bool) → Act → World → Prop)
    (h0 : I (fun _ => false) a w.drew)
    (hstep : ∀ i o, ops[i]? = some o → ∀ (l : Nat → Bool) a w, (∀ j ∈ waitsFor .any ops i, l j = true) → l i = false → I l a w →
      ∀ K : Act → World → Prop, Shut (∀ a' w', I (fun j => j == i || l j) a' w' → K a' w') → if Region.wanted o (yielded ops a.tmps) = true then Oper.wp P o a w K Q else K (a.put o.dst undef) w)
    (hfin : ∀ (l : Nat → Bool) a w, (∀ j, j < ops.size → l j = true) → I l a w → Q .normal a w) : (Code.region id ops true).wp P Q a w := by
  refine wp_region_any hm (wpAny_inv hr I hstep hfin ops.size (Array.replicate ops.size false) a _ (by simp) ?_ ?_)
  · rw [Array.toList_replicate]
    exact Nat.le_trans (List.length_filter_le _ _) (by simp)
  · have : (fun j => (Array.replicate ops.size false).getD j false) = fun _ => false := by
      funext j
      rw [Array.getD_eq_getD_getElem?, Array.getElem?_replicate]
      split <;> rfl
    rw [this]; exact h0
/-- What number 'i' owes: from a state in which those that it waits for have come up. -/
def Owes (P : Program) (ops : Array Oper) (Q : Exit → Act → World → Prop) (I : (Nat → Bool) → Act → World → Prop) (i : Nat) (o : Oper) : Prop :=
  ∀ (l : Nat → Bool) a w, (∀ j, (waitsFor .any ops i).contains j = true → l j = true) → l i = false → I l a w →
      ∀ K : Act → World → Prop, Shut (∀ a' w', I (fun j => j == i || l j) a' w' → K a' w') → if Region.wanted o (yielded ops a.tmps) = true then Oper.wp P o a w K Q else K (a.put o.dst undef) w
def Owed (P : Program) (ops : Array Oper) (Q : Exit → Act → World → Prop) (I : (Nat → Bool) → Act → World → Prop) (n : Nat) : Prop := ∀ i, n ≤ i → ∀ o, ops[i]? = some o → Owes P ops Q I i o
theorem Owed.last {I : (Nat → Bool) → Act → World → Prop} {n : Nat} (h : ops[n]? = none) : Owed P ops Q I n := fun i hi o ho => by
  exfalso
  have h1 := Array.getElem?_eq_none_iff.1 h
  have h2 := (Array.getElem?_eq_some_iff.1 ho).1
  omega
theorem Owed.next {I : (Nat → Bool) → Act → World → Prop} {n : Nat} {o : Oper} (ho : ops[n]? = some o) (h : Owes P ops Q I n o) (hs : Owed P ops Q I (n + 1)) : Owed P ops Q I n := fun i hi o' ho' => by
  rcases Nat.eq_or_lt_of_le hi with rfl | hlt
  · obtain rfl : o = o' := Option.some.inj (ho.symm.trans ho'); exact h
  · exact hs i hlt o' ho'
/-- The way in. -/
theorem wp_region_owed {id : Nat} {a : Act} {w : World} (I : (Nat → Bool) → Act → World → Prop) (hm : P.follows .mixedOrders = true) (hr : rising .any ops = true)
    (h0 : I (fun _ => false) a w.drew) (hstep : Owed P ops Q I 0)
    (hfin : ∀ (l : Nat → Bool) a w, (∀ j, decide (j < ops.size) = true → l j = true) → I l a w → Q .normal a w) : (Code.region id ops true).wp P Q a w :=
  wp_region_inv hm hr I h0 (fun i o ho l a w hw => hstep i (Nat.zero_le _) o ho l a w (fun j hj => hw j (List.contains_iff_mem.1 hj))) (fun l a w hl => hfin l a w (fun j hj => hl j (by simpa using hj)))
/-- The same of those in M alone. -/
theorem packsM {l : Nat → Bool} {X V : Nat → Value} {M : List Nat} (i : Nat) (hX : ∀ j, l j = true → M.contains j = true → X j = V j) (E : List Nat) (hE : ∀ j ∈ E, l j = true) :
    ∀ j, (j == i || l j) = true → M.contains j = true → (bif (i :: E).contains j then V j else X j) = V j := fun j hj hm => by
  cases hc : (i :: E).contains j with
  | true => rfl
  | false =>
    have hne : j ≠ i := fun e => by subst e; simp at hc
    have hl : l j = true := by simpa [hne] using hj
    exact hX j hl hm
/-- One that is not in M has come up, with whatever it has yielded; others become known. -/
theorem packsN {l : Nat → Bool} {X V : Nat → Value} {M : List Nat} (i : Nat) (v : Value) (hX : ∀ j, l j = true → M.contains j = true → X j = V j) (hi : M.contains i = false) (E : List Nat) (hE : ∀ j ∈ E, l j = true) :
    ∀ j, (j == i || l j) = true → M.contains j = true → (bif [i].contains j then v else bif E.contains j then V j else X j) = V j := fun j hj hm => by
  have hne : j ≠ i := fun e => by subst e; rw [hm] at hi; cases hi
  have hl : l j = true := by simpa [hne] using hj
  have h1 : [i].contains j = false := by simp [hne]
  rw [h1]
  cases hc : E.contains j with
  | true => rfl
  | false => exact hX j hl hm
end
end Go.Proofs.Ytemkppjdfjoipaa.I1
end
section
/- Package indent. -/
namespace Go.Proofs.Ytemkppjdfjoipaa.I1
set_option linter.unusedSimpArgs false
set_option linter.unusedVariables false
set_option maxRecDepth 100000
open Go.RowKit
/- Marks and steps, plain. -/
structure Mk where
  cols : List Int
  opn : Int
  col : Int
  fresh : Bool
  lead : Int
/-- A token: kind, lead, width. -/
abbrev Tk := Int × Int × Int
structure May (m : Mk) : Prop where
  ne : 0 < m.cols.length
  h0 : m.cols.getD 0 0 = 0
  up : ∀ i, i + 1 < m.cols.length → m.cols.getD i 0 < m.cols.getD (i + 1) 0
  top : m.cols.getD (m.cols.length - 1) 0 ≤ 4096
  o0 : 0 ≤ m.opn
  o1 : m.opn ≤ 65536
  l0 : 0 ≤ m.lead
  l1 : m.lead ≤ 65536
  c0 : 0 ≤ m.col
  c1 : m.col ≤ 4096
theorem rise_le {l : List Int} (up : ∀ i, i + 1 < l.length → l.getD i 0 < l.getD (i + 1) 0) : ∀ (d i : Nat), i + d < l.length → l.getD i 0 + (d : Nat) ≤ l.getD (i + d) 0
  | 0, i, _ => by simp
  | d + 1, i, h => by
    have h1 := rise_le up d i (by omega)
    have h2 := up (i + d) (by omega)
    rw [show i + (d + 1) = i + d + 1 by omega]
    push_cast
    omega
theorem May.at {m : Mk} (h : May m) {i : Nat} (hi : i < m.cols.length) : 0 ≤ m.cols.getD i 0 ∧ m.cols.getD i 0 ≤ 4096 ∧ (i : Int) ≤ m.cols.getD i 0 := by
  have h1 := rise_le h.up i 0 (by omega)
  have h2 := rise_le h.up (m.cols.length - 1 - i) i (by omega)
  rw [show i + (m.cols.length - 1 - i) = m.cols.length - 1 by omega] at h2
  rw [Nat.zero_add, h.h0] at h1
  have := h.top
  omega
theorem May.len {m : Mk} (h : May m) : m.cols.length ≤ 4097 := by
  have := h.at (i := m.cols.length - 1) (by have := h.ne; omega)
  have := h.ne
  omega
/-- Where a byte leads «to». -/
def tabF (c : Int) (b : Nat) : Int := if b = 9 then c + (8 - c % 8) else c + 1
def colU (c : Int) : List Nat → Int
  | [] => c
  | b :: s => colU (tabF c b) s
def colC (c : Int) : List Nat → Int
  | [] => c
  | b :: s => colC (min (tabF c b) 4096) s
theorem tabF_gt {c : Int} (b : Nat) : c < tabF c b ∧ tabF c b ≤ c + 8 := by unfold tabF; split <;> omega
theorem col_cap : ∀ (s : List Nat) (c : Int), 0 ≤ c → min (colU c s) 4096 = colC (min c 4096) s
  | [], c, _ => rfl
  | b :: s, c, h => by
    unfold colU colC
    have h1 := @tabF_gt c b
    rw [col_cap s (tabF c b) (by omega)]
    congr 1
    unfold tabF at *
    split <;> omega
/-- The document's way. -/
theorem colC_le : ∀ {s : List Nat} {c : Int}, 0 ≤ c → c ≤ 4096 → 0 ≤ colC c s ∧ colC c s ≤ 4096
  | [], c, h1, h2 => ⟨h1, h2⟩
  | b :: s, c, h1, h2 => by
    have h3 := @tabF_gt c b
    exact colC_le (s := s) (c := min (tabF c b) 4096) (by omega) (by omega)
/-- How many of the first n columns stay: those behind the last one that is not above. -/
def keepN (cols : List Int) (col : Int) : Nat → Nat
  | 0 => 0
  | n + 1 => if col < cols.getD n 0 then keepN cols col n else n + 1
theorem keepN_le (cols : List Int) (col : Int) : ∀ n, keepN cols col n ≤ n
  | 0 => Nat.le_refl _
  | n + 1 => by unfold keepN; split <;> have := keepN_le cols col n <;> omega
theorem keepN_pos {cols : List Int} {col : Int} (h0 : cols.getD 0 0 = 0) (hc : 0 ≤ col) : ∀ {n}, 0 < n → 0 < keepN cols col n
  | n + 1, _ => by
    unfold keepN
    split
    · rename_i h
      cases n with
      | zero => rw [h0] at h; omega
      | succ n => exact keepN_pos h0 hc (by omega)
    · omega
def blkF (cols : List Int) (col : Int) : List Int × List Tk :=
  if cols.getD (cols.length - 1) 0 < col then (cols ++ [col], [(20, 0, 0)])
  else (cols.take (keepN cols col cols.length), List.replicate (cols.length - keepN cols col cols.length) (21, 0, 0) ++ (if cols.getD (keepN cols col cols.length - 1) 0 < col then [(23, 0, 0)] else []))
def leadF (x : Int) : List Tk → List Tk
  | [] => []
  | (a, _, c) :: r => (a, x, c) :: r
def opnF (k o : Int) : Int := if k = 9 then min (o + 1) 65536 else if k = 10 then max (o - 1) 0 else o
def begF (m : Mk) : Bool := m.fresh && decide (m.opn = 0)
def tokF (m : Mk) (k n : Int) : Mk × List Tk :=
  if begF m = true then (⟨(blkF m.cols m.col).1, opnF k m.opn, 0, false, 0⟩, leadF m.lead ((blkF m.cols m.col).2 ++ [(k, 0, n)]))
  else (⟨m.cols, opnF k m.opn, 0, false, 0⟩, [(k, m.lead, n)])
def stepF (m : Mk) (s : List Nat) (k n : Int) : Mk × List Tk :=
  if k = 25 then (⟨m.cols, m.opn, if begF m = true then colC m.col s else m.col, m.fresh, m.lead + n⟩, [])
  else if k = 26 ∨ k = 27 then (⟨m.cols, m.opn, m.col, m.fresh, m.lead + n⟩, [])
  else if k = 19 then (if m.fresh = false ∧ m.opn = 0 then (⟨m.cols, m.opn, 0, true, 0⟩, [(19, m.lead, n)]) else (⟨m.cols, m.opn, if m.opn = 0 then 0 else m.col, m.fresh, m.lead + n⟩, []))
  else tokF m k n
def endF (m : Mk) : List Tk := (if m.fresh = true then [] else [(19, 0, 0)]) ++ List.replicate (m.cols.length - 1) (21, 0, 0) ++ [(22, m.lead, 0)]
def Made (m : Mk) (s : List Nat) (n : Int) : Prop := 1 ≤ n ∧ (s.length : Int) = n ∧ n ≤ 65536 - m.lead
theorem blkF_len (cols : List Int) (col : Int) : (blkF cols col).1.length ≤ cols.length + 1 ∧ (blkF cols col).2.length ≤ cols.length + 1 := by
  unfold blkF
  split
  · simp
  · have := keepN_le cols col cols.length
    simp only [List.length_take, List.length_append, List.length_replicate]
    split <;> simp <;> omega
theorem stepF_len (m : Mk) (s : List Nat) (k n : Int) : (stepF m s k n).2.length ≤ m.cols.length + 2 := by
  unfold stepF tokF
  split
  · simp
  · split
    · simp
    · split
      · split <;> simp
      · split
        · have h := (blkF_len m.cols m.col).2
          have e : ∀ (x : Int) (l : List Tk), (leadF x l).length = l.length := fun x l => by cases l <;> simp [leadF]
          simp only [e, List.length_append, List.length_singleton]; omega
        · simp
theorem getD_take {l : List Int} {k i : Nat} (h : i < k) : (l.take k).getD i 0 = l.getD i 0 := by
  simp [List.getD, List.getElem?_take, h]
theorem getD_app {l r : List Int} {i : Nat} (h : i < l.length) : (l ++ r).getD i 0 = l.getD i 0 := by
  simp [List.getD, List.getElem?_append_left h]
theorem getD_end (l : List Int) (c : Int) : (l ++ [c]).getD l.length 0 = c := by simp [List.getD]
/-- Where a step leads «to» may be. -/
theorem stepF_may {m : Mk} (h : May m) {s : List Nat} {k n : Int} (hs : Made m s n) : May (stepF m s k n).1 := by
  obtain ⟨h1, h2, h3⟩ := hs
  have hl := h.l0
  unfold stepF
  split
  · refine ⟨h.ne, h.h0, h.up, h.top, h.o0, h.o1, by simp only []; omega, by simp only []; omega, ?_, ?_⟩ <;> simp only [] <;> split
    · exact (colC_le h.c0 h.c1).1
    · exact h.c0
    · exact (colC_le h.c0 h.c1).2
    · exact h.c1
  · split
    · exact ⟨h.ne, h.h0, h.up, h.top, h.o0, h.o1, by simp only []; omega, by simp only []; omega, h.c0, h.c1⟩
    · split
      · split
        · exact ⟨h.ne, h.h0, h.up, h.top, h.o0, h.o1, by simp, by simp, by simp, by simp⟩
        · refine ⟨h.ne, h.h0, h.up, h.top, h.o0, h.o1, by simp only []; omega, by simp only []; omega, ?_, ?_⟩ <;> simp only [] <;> split
          · omega
          · exact h.c0
          · omega
          · exact h.c1
      · have ho : 0 ≤ opnF k m.opn ∧ opnF k m.opn ≤ 65536 := by
          have := h.o0; have := h.o1
          unfold opnF; split
          · omega
          · split <;> omega
        unfold tokF
        split
        · unfold blkF
          split
          · rename_i hlt
            refine ⟨by simp, ?_, fun i hi => ?_, ?_, ho.1, ho.2, by simp, by simp, by simp, by simp⟩
            · simp only []; rw [getD_app h.ne]; exact h.h0
            · simp only [List.length_append, List.length_singleton] at hi ⊢
              by_cases e : i + 1 < m.cols.length
              · rw [getD_app (by omega), getD_app e]; exact h.up i e
              · rw [getD_app (by omega), show i + 1 = m.cols.length by omega, getD_end, show i = m.cols.length - 1 by omega]; exact hlt
            · simp only [List.length_append, List.length_singleton, Nat.add_sub_cancel]; rw [getD_end]; exact h.c1
          · have hk := keepN_le m.cols m.col m.cols.length
            have hp := keepN_pos h.h0 h.c0 h.ne
            refine ⟨by simp only [List.length_take]; omega, ?_, fun i hi => ?_, ?_, ho.1, ho.2, by simp, by simp, by simp, by simp⟩
            · simp only []; rw [getD_take hp]; exact h.h0
            · simp only [List.length_take] at hi ⊢
              rw [getD_take (by omega), getD_take (by omega)]; exact h.up i (by omega)
            · simp only [List.length_take]
              rw [Nat.min_eq_left hk, getD_take (by omega)]
              exact (h.at (by omega)).2.1
        · exact ⟨h.ne, h.h0, h.up, h.top, ho.1, ho.2, by simp, by simp, by simp, by simp⟩
end Go.Proofs.Ytemkppjdfjoipaa.I1
end
section
/- Package indent. -/
namespace Go.Proofs.Ytemkppjdfjoipaa.I1
set_option linter.unusedSimpArgs false
set_option linter.unusedVariables false
set_option maxRecDepth 100000
open Go.RowKit
/- Automata without choice in memory. -/
theorem blk_lt {w : World} {b o : Nat} {v : Value} (h : w.cell? ⟨b, o, none⟩ = some v) : b < w.heap.size := World.block_lt_of_cell? w _ h
theorem cell_same {w w' : World} {b : Nat} (h : w'.heap[b]? = w.heap[b]?) (o : Nat) : w'.cell? ⟨b, o, none⟩ = w.cell? ⟨b, o, none⟩ := by
  unfold World.cell?; simp only [h]
/-- A list of numbers. -/
def IV (D : Nat → Prop) (w : World) (l : List Int) (sl : Value) : Prop := ∃ p c, sl = .slice p l.length c ∧ (l ≠ [] → ∃ b o, p = some ⟨b, o, none⟩ ∧ D b ∧ ∀ i (h : i < l.length), w.cell? ⟨b, o + i, none⟩ = some (.int .i64 l[i]))
theorem IV.mono {D E : Nat → Prop} {w w' : World} (hE : ∀ b, D b → E b) (hw : ∀ b, D b → b < w.heap.size → w'.heap[b]? = w.heap[b]?) {l : List Int} {sl : Value} (h : IV D w l sl) : IV E w' l sl := by
  obtain ⟨p, c, rfl, h⟩ := h
  refine ⟨p, c, rfl, fun hn => ?_⟩
  obtain ⟨b, o, hp, hD, hc⟩ := h hn
  refine ⟨b, o, hp, hE b hD, fun i hi => ?_⟩
  rw [← hc i hi]
  exact cell_same (hw b hD (blk_lt (hc i hi))) _
theorem IV.nil (D : Nat → Prop) (w : World) (p : Option Addr) (c : Nat) : IV D w [] (.slice p 0 c) := ⟨p, c, rfl, fun h => absurd rfl h⟩
def bl (s : ByteArray) : List Nat := s.data.toList.map UInt8.toNat
theorem bl_len (s : ByteArray) : (bl s).length = s.size := by simp [bl]
/- TwinInts, SameInts, LeftInts. -/
theorem vbool6 {a b : Bool} (h : a = b) : Ending.returned (.bool a) = .returned (.bool b) := by rw [h]
theorem run_append_zero {P : Program} (w : World) (t ty e : TypeId) (i : TypeInfo) (ht : P.underlying t = some (.slice e)) (hi : P.info? e = some i) (a : Addr) (n c : Nat) (q : Option Addr) (c' : Nat) (hn : n ≤ c) :
    Sem.run P (Builtin.append_ #[t, t] ty #[.slice (some a) n c, .slice q 0 c']) w = .ok (.slice (some a) n c) w := by
  cases q <;> simp [Builtin.append_, underlying, ht, hi, Go.sizeOf, Go.typeInfo, Builtin.firstCells, storeCells, hn, go_sem]
theorem wpList_append_zero {P : Program} (w : World) {ops : Array Oper} {rest : List Oper} {o : Oper} {a : Act} {Q : Exit → Act → World → Prop} (hgd : o.guard = none) (s x : Operand) (t : TypeId)
    (ho : o.op = .call { callee := .builtin .append, args := #[s, x], argTypes := #[t, t] })
    (e : TypeId) (i : TypeInfo) (ht : P.underlying t = some (.slice e)) (hi : P.info? e = some i) (ad : Addr) (n c : Nat) (hs : a.eval s = .slice (some ad) n c) (q : Option Addr) (c' : Nat) (hx : a.eval x = .slice q 0 c') (hn : n ≤ c)
    (h : wpList P ops Q rest (a.put o.dst (.slice (some ad) n c)) w) : wpList P ops Q (o :: rest) a w := by
  refine wpList_plain hgd fun K hK => ?_
  have hr := run_append_zero (P := P) w t o.type e i ht hi ad n c q c' hn
  unfold Oper.wp execOp
  simp only [ho, resolve, invoke, builtin, Sem.run_bind, Sem.run_pure, Result.andThen_ok, List.map_toArray, List.map_cons, List.map_nil, hs, hx, hr]
  exact hK _ _ h
theorem info3b : (Try.prog.info? 3).map (fun i => (i.zero, i.size, i.bytes)) = some (some (.int .i64 0), 1, 8) := by kernel_rfl
def zi (l : List Int) : List Value := l.map fun x => .int .i64 x
theorem zi_one (l : List Int) : ∀ v ∈ zi l, v.oneCell' = true := by
  intro v hv
  obtain ⟨x, _, rfl⟩ := List.mem_map.1 hv
  rfl
theorem row_own {w : World} {B : Nat} {e : TypeId} {size : Nat} {v : Value} {n : Nat} {xs : List Value} (h : w.ownsRow B e size v n xs) (hn : 0 < n) :
    ∃ g cap, v = .slice (some ⟨g, 0, none⟩) n cap ∧ n ≤ cap := by
  rcases h.2 with ⟨_, h0⟩ | ⟨g, cap, cur, hv, _, _, hc, _⟩
  · omega
  · exact ⟨g, cap, hv, hc⟩
theorem at_worldQ {Q : Exit → Act → World → Prop} {e : Exit} {a : Act} {w : World} (R : World → Prop) (hR : R w) (h : ∀ y, R y → Q e a y) : Q e a w := h w hR
theorem at_world {P : Program} {c : Code} {Q : Exit → Act → World → Prop} {a : Act} {w : World} (R : World → Prop) (hR : R w) (h : ∀ y, R y → c.wp P Q a y) : c.wp P Q a w := h w hR
theorem below_grown {B : Nat} {w0 w w' : World} {row : Option Nat} (h : Below B w0 w) (hg : w.grownBy w' row) (hr : ∀ g, row = some g → B ≤ g) (hB : B ≤ w.heap.size) : Below B w0 w' :=
  ⟨hg.os.trans h.os, hg.tape.trans h.tape, hg.output.trans h.output, Nat.le_trans h.size hg.size, fun k hk => (hg.block k (by omega) (fun e => by have := hr k e.symm; omega)).trans (h.block k hk)⟩
theorem below_drewN {B : Nat} {w0 w : World} (h : Below B w0 w) (n : Nat) : Below B w0 (w.drewN n) := ⟨h.os, h.tape, h.output, h.size, h.block⟩
set_option maxHeartbeats 8000000 in
theorem same_any {D E : Nat → Prop} {w : World} {a b : List Int} {pa pb : Option Addr} {ca cb : Nat} (hla : a.length ≤ 9223372036854775806) (hD : ∀ b, D b → b < w.heap.size) (hE : ∀ b, E b → b < w.heap.size) (ha : IV D w a (.slice pa a.length ca)) (hb : IV E w b (.slice pb b.length cb)) :
    Calls Try.prog 35 #[.slice pa a.length ca, .slice pb b.length cb] w fun e w' => e = .returned (.bool (decide (a = b))) ∧ Below w.heap.size w w' := by
  have HA := Lib.hid ha
  have HB := Lib.hid hb
  have HD := Lib.hid hD
  have HE := Lib.hid hE
  have S0 := Lib.hid (Below.refl w.heap.size w)
  clear ha hb hD hE
  by_cases hl : a.length = b.length
  · have HLN := Lib.hid hl
    rw [← hl]
    have hne : (((a.length : Nat) : Int) != ((a.length : Nat) : Int)) = false := by simp
    clear hl
    go_enter Try.func35, Try.ntmps35
    go_wp2_with fail
    go_loopw [5] (fun i wr => ∃ j : Nat, i = .int .i64 (j : Nat) ∧ j ≤ a.length ∧ Hid (a.take j = b.take j) ∧ Hid (Below w.heap.size w wr)) (fun i _ => a.length - (intOf i).toNat)
    case atStart => exact ⟨0, rfl, by omega, Lib.hid (by simp), S0⟩
    case round =>
      clear S0
      obtain ⟨j, rfl, hj, HT, HS⟩ := hrel
      obtain ⟨wo, rfl⟩ : ∃ wo : World, wo = wr := ⟨_, rfl⟩
      by_cases hlt : j < a.length
      · have hltb : j < b.length := by have := HLN.out; omega
        obtain ⟨p', c', he, hh⟩ := HA.out
        injection he with e1 e2 e3
        subst e1 e3
        clear e2
        obtain ⟨ba, oa, rfl, hba, hca⟩ := hh (by intro e; rw [e] at hlt; simp at hlt)
        obtain ⟨p'', c'', he, hh2⟩ := HB.out
        injection he with e4 e5 e6
        subst e4 e6
        obtain ⟨bb, ob, rfl, hbb, hcb⟩ := hh2 (by intro e; rw [e] at hltb; simp at hltb)
        have ca1 : wo.cell? ⟨ba, oa + j, none⟩ = some (.int .i64 a[j]) := (cell_same (HS.out.block ba (HD.out ba hba)) _).trans (hca j hlt)
        have cb1 : wo.cell? ⟨bb, ob + j, none⟩ = some (.int .i64 b[j]) := (cell_same (HS.out.block bb (HE.out bb hbb)) _).trans (hcb j hltb)
        have ht1 : a.take (j + 1) = a.take j ++ [a[j]] := by rw [List.take_add_one, List.getElem?_eq_getElem hlt]; rfl
        have ht2 : b.take (j + 1) = b.take j ++ [b[j]] := by rw [List.take_add_one, List.getElem?_eq_getElem hltb]; rfl
        have hneq : a[j] ≠ b[j] → a ≠ b := fun h e => h (by subst e; rfl)
        generalize a[j] = x at *
        generalize b[j] = y at *
        have HT1 := Lib.hid ht1
        have HT2 := Lib.hid ht2
        have HNE := Lib.hid hneq
        have hltI : (j : Int) < (a.length : Int) := by omega
        have hjI : ¬ (j : Int) < 0 := by omega
        clear hh hh2 hca hcb ht1 ht2 hneq e5 hltb
        by_cases hxy : x = y
        · have hxI : (x != y) = false := by rw [hxy]; simp
          have HT3 : Hid (a.take (j + 1) = b.take (j + 1)) := Lib.hid (by rw [HT1.out, HT2.out, HT.out, hxy])
          clear HT HNE hxy
          go_wp2_with fail
          go_quiet (fail)
          refine at_worldQ (fun z => Below w.heap.size w z) (below_drewN HS.out _) fun z hz => ?_
          have HS2 := Lib.hid hz
          clear hz HS ca1 cb1
          go_wp2_with fail
          go_roundw
          case rel => exact ⟨j + 1, by go_num, by omega, HT3, HS2⟩
          case measure => simp [intOf]; omega
        · have hxI : (x != y) = true := by simpa using hxy
          have HRES : Hid (decide (a = b) = false) := Lib.hid (by simpa using HNE.out hxy)
          clear HT HNE hxy
          go_wp2_with fail
          go_quiet (fail)
          refine at_worldQ (fun z => Below w.heap.size w z) (below_drewN HS.out _) fun z hz => ?_
          have HS2 := Lib.hid hz
          clear hz HS ca1 cb1
          go_wp2_with fail
          go_ret
          exact ⟨vbool6 HRES.out.symm, HS2.out⟩
      · obtain rfl : j = a.length := by omega
        have hab : a = b := by
          have := HT.out
          rwa [List.take_length, HLN.out, List.take_length] at this
        have HRES : Hid (decide (a = b) = true) := Lib.hid (by simpa using hab)
        have hltI : ¬ (a.length : Int) < (a.length : Int) := by omega
        clear hab
        go_wp2_with fail
        go_ret
        exact ⟨vbool6 HRES.out.symm, HS.out⟩
  · have hne : (((a.length : Nat) : Int) != ((b.length : Nat) : Int)) = true := by simp; omega
    have hr : decide (a = b) = false := by simp; intro e; exact hl (by rw [e])
    rw [hr]
    go_enter Try.func35, Try.ntmps35
    go_wp2_with fail
    go_ret
    exact ⟨rfl, S0.out⟩
end Go.Proofs.Ytemkppjdfjoipaa.I1
end
