/- Package regs: the reader's small steps: what comes next. -/
import Derived.Test.YtmjojahkbjlcdaaDoorProg
import Derived.Test.YtmjojahkbjlcdaaDoorX3
import Derived.Test.YtmjojahkbjlcdaaDoorX5
import Derived.WalkKit
import Derived.WalkLawsBesides
import Derived.WalkSpells
import Derived.Outline
import Derived.Lib.Walk
import Derived.Lib.Hide
import Derived.RegionTactic
import Derived.LoopTactic
import Derived.Below
import Derived.IntWalk
import Derived.Deep.QuietTactic
import Derived.BigQuiet
import Derived.Deep.MidRow
import Derived.Maps.AppendAt
import Derived.Test.YtmjojahkbjlcdaaDoorX15
namespace Go.Proofs.YtmjojahkbjlcdaaDoor
set_option linter.unusedSimpArgs false
set_option linter.unusedVariables false
set_option maxRecDepth 100000
open Go.RowKit

theorem dummy : True := trivial
def flat (xs : List (Array Value)) : List Value := xs.flatMap Array.toList
theorem flat_len : ∀ (xs : List (Array Value)), (∀ x ∈ xs, x.size = 6) → (flat xs).length = xs.length * 6
  | [], _ => rfl
  | x :: xs, h => by
    have h1 := flat_len xs fun y hy => h y (List.mem_cons_of_mem _ hy)
    have h2 := h x (List.mem_cons_self ..)
    show (x.toList ++ flat xs).length = _
    rw [List.length_append, h1, Array.length_toList, h2, List.length_cons]; omega
theorem flat_get : ∀ (xs : List (Array Value)), (∀ x ∈ xs, x.size = 6) → ∀ i (h : i < xs.length) j, j < 6 → (flat xs)[6 * i + j]? = (xs[i])[j]?
  | [], _, i, h, j, hj => by simp at h
  | x :: xs, h, 0, hi, j, hj => by
    have h2 := h x (List.mem_cons_self ..)
    show (x.toList ++ flat xs)[6 * 0 + j]? = _
    rw [List.getElem?_append_left (by simp [h2]; omega)]
    simp
  | x :: xs, h, i + 1, hi, j, hj => by
    have h1 := flat_get xs (fun y hy => h y (List.mem_cons_of_mem _ hy)) i (by simpa using hi) j hj
    have h2 := h x (List.mem_cons_self ..)
    show (x.toList ++ flat xs)[6 * (i + 1) + j]? = _
    rw [List.getElem?_append_right (by simp [h2]; omega), Array.length_toList, h2, show 6 * (i + 1) + j - 6 = 6 * i + j by omega, h1]
    simp
/-- The patterns ts lie in the row of the slice sl. -/
def Th (base : Nat) (ts : List RT) (sl : Value) (w : World) : Prop :=
  ∃ xs : List (Array Value), xs.length = ts.length ∧ (∀ x ∈ xs, x.size = 6) ∧ (∀ i (h : i < ts.length) (h' : i < xs.length), RV (fun b => base ≤ b ∧ b < w.heap.size ∧ some b ≠ sl.ownBlock) w ts[i] (.agg xs[i])) ∧ w.ownsRow base 27 6 sl ts.length (flat xs)
theorem Th.nil (base : Nat) (w : World) : Th base [] (.slice none 0 0) w := ⟨[], rfl, by simp, by simp, rfl, .inl ⟨rfl, rfl⟩⟩
theorem Th.keep {base : Nat} {ts : List RT} {sl : Value} {w w' : World} {row : Option Nat} (h : Th base ts sl w) (hg : w.grownBy w' row) (hr : ∀ b, row = some b → b < base) : Th base ts sl w' := by
  obtain ⟨xs, h1, h2, h3, h4⟩ := h
  refine ⟨xs, h1, h2, fun i hi hi' => (h3 i hi hi').mono (fun b hb => ⟨hb.1, Nat.lt_of_lt_of_le hb.2.1 hg.size, hb.2.2⟩) (fun b hb hlt => hg.block b hlt (fun e => by have := hr b e.symm; omega)), ?_⟩
  refine World.ownsRow.kept h4 hg ?_
  rcases h4.2 with ⟨rfl, _⟩ | ⟨g, cap, cur, rfl, hb, _⟩
  · simp [Value.ownBlock]
  · right
    intro hh
    have := hr g (by simpa [Value.ownBlock] using hh.symm)
    omega
theorem flat_app (xs : List (Array Value)) (x : Array Value) : flat (xs ++ [x]) = flat xs ++ x.toList := by simp [flat]
theorem Th.app {base lo : Nat} {ts : List RT} {sl sl' : Value} {w w1 w2 : World} {t : RT} {x : Array Value} {xs : List (Array Value)} {o : Obj} (hx6 : x.size = 6)
    (h1 : xs.length = ts.length) (h2 : ∀ x ∈ xs, x.size = 6) (h3 : ∀ i (h : i < ts.length) (h' : i < xs.length), RV (fun b => base ≤ b ∧ b < w.heap.size ∧ some b ≠ sl.ownBlock) w ts[i] (.agg xs[i]))
    (hw1 : w1 = w.alloc o) (hbl : base ≤ lo) (hlo : ∀ g, sl.ownBlock = some g → g < lo) (ht : RV (fun b => lo ≤ b ∧ b < w.heap.size) w t (.agg x))
    (hown : w2.ownsRow base 27 6 sl' (ts.length + 1) (flat xs ++ x.toList)) (hg : w1.grownBy w2 sl.ownBlock) (hat : sl'.ownBlock = sl.ownBlock ∨ sl'.ownBlock = some w1.heap.size) : Th base (ts ++ [t]) sl' w2 := by
  have hsz : w1.heap.size = w.heap.size + 1 := by subst hw1; simp
  have hkeep : ∀ b, b < w.heap.size → some b ≠ sl.ownBlock → w2.heap[b]? = w.heap[b]? := fun b hb hne => by
    rw [hg.block b (by omega) (fun e => hne e), hw1, heap_alloc_old w _ hb]
  have hD : ∀ b, b < w.heap.size → some b ≠ sl.ownBlock → some b ≠ sl'.ownBlock := fun b hb hne e => by
    rcases hat with h | h
    · rw [h] at e; exact hne e
    · rw [h] at e; cases e; omega
  refine ⟨xs ++ [x], by simp [h1], fun y hy => ?_, fun i hi hi' => ?_, by rw [flat_app]; simpa using hown⟩
  · rcases List.mem_append.1 hy with hy | hy
    · exact h2 y hy
    · simp at hy; subst hy; exact hx6
  · by_cases hlt : i < ts.length
    · rw [List.getElem_append_left hlt, List.getElem_append_left (by omega)]
      exact (h3 i hlt (by omega)).mono (fun b hb => ⟨hb.1, by have := hg.size; omega, hD b hb.2.1 hb.2.2⟩) (fun b hb hlt => hkeep b hlt hb.2.2)
    · have hi2 : i = ts.length := by simp at hi; omega
      subst hi2
      have e1 : (ts ++ [t])[ts.length]'hi = t := by simp
      have e2 : (xs ++ [x])[ts.length]'hi' = x := by
        rw [List.getElem_append_right (by omega)]; simp [h1]
      rw [e1, e2]
      have hno : ∀ b, lo ≤ b → some b ≠ sl.ownBlock := fun b hb e => by have := hlo b e.symm; omega
      exact ht.mono (fun b hb => ⟨by omega, by have := hg.size; omega, hD b hb.2 (hno b hb.1)⟩) (fun b hb hlt => hkeep b hlt (hno b hb.1))
theorem Th.node {base : Nat} {ts : List RT} {sl : Value} {w : World} (h : Th base ts sl w) (hn : ts ≠ []) (k : Int) (u : Nat → Int) :
    ∃ g cap, sl = .slice (some ⟨g, 0, none⟩) ts.length cap ∧ base ≤ g ∧ g < w.heap.size ∧ RV (fun b => base ≤ b ∧ b < w.heap.size) w (.mk k u ts) (.agg (nodeC k u sl)) := by
  obtain ⟨xs, h1, h2, h3, h4⟩ := h
  have hown := h4
  rcases h4.2 with ⟨_, h0⟩ | ⟨g, cap, cur, rfl, hb, hg, _⟩
  · exact absurd (List.length_eq_zero_iff.1 h0) hn
  · have hgs := (Array.getElem?_eq_some_iff.1 hg).1
    refine ⟨g, cap, rfl, hb, hgs, RV.node k u ts g 0 cap (fun i => xs.getD i #[]) ⟨hb, hgs⟩ hn (fun i hi => ?_) (fun i hi j hj => ?_)⟩
    · have hi' : i < xs.length := by omega
      have e : xs.getD i #[] = xs[i] := by simp [List.getD, hi']
      rw [e]
      exact (h3 i hi hi').mono (fun b hb => ⟨hb.1, hb.2.1⟩) (fun b hb hlt => rfl)
    · have hi' : i < xs.length := by omega
      have e : xs.getD i #[] = xs[i] := by simp [List.getD, hi']
      have h6 := h2 xs[i] (List.getElem_mem hi')
      have hf := flat_get xs h2 i hi' j hj
      have hj' : j < (xs[i]).size := by omega
      rw [Array.getElem?_eq_getElem hj'] at hf
      refine ⟨(xs[i])[j], by rw [e]; exact Array.getElem?_eq_getElem hj', ?_⟩
      have := World.ownsRow.cells hown rfl _ _ hf
      rwa [Addr.add_mid] at this
theorem Th.one {base : Nat} {t : RT} {sl : Value} {w : World} (h : Th base [t] sl w) : ∃ g cap k u p n c, sl = .slice (some ⟨g, 0, none⟩) 1 cap ∧ base ≤ g ∧ g < w.heap.size ∧ RV (fun b => base ≤ b ∧ b < w.heap.size) w t (.agg (nodeC k u (.slice p n c))) ∧
    (∀ j y, (nodeC k u (.slice p n c))[j]? = some y → w.cell? ⟨g, j, none⟩ = some y) := by
  obtain ⟨g, cap, rfl, h2, h3, h4⟩ := h.node (by simp) 0 u0
  cases h4 with
  | node k u ps b o c xs hD hn hx hc =>
    obtain ⟨k, u, p, n, c', hf⟩ := (hx 0 (by simp)).form
    have hxs : xs 0 = nodeC k u (.slice p n c') := by injection hf
    refine ⟨g, cap, k, u, p, n, c', rfl, h2, h3, hxs ▸ hx 0 (by simp), fun j y hy => ?_⟩
    have hj : j < 6 := (Array.getElem?_eq_some_iff.1 hy).1
    obtain ⟨y', h5, h6⟩ := hc 0 (by simp) j hj
    rw [hxs, hy] at h5
    cases h5
    simpa using h6
def joinT (k : Int) (ts : List RT) : RT := match ts with
  | [t] => t
  | ts => .mk k u0 ts
set_option maxHeartbeats 4000000 in
theorem joined_1 {base : Nat} {t : RT} {sl : Value} {w : World} (kd : Int) (h : Th base [t] sl w) :
    Calls Tryd.prog 67 #[.int .i64 kd, sl] w fun e w' => (∃ v, e = .returned v ∧ RV (fun b => base ≤ b ∧ b < w'.heap.size) w' t v) ∧ Below w.heap.size w w' := by
  obtain ⟨g, cap, k, u, p, n, c, rfl, h2, h3, h4, h5⟩ := h.one
  have d0 : w.cell? ⟨g, 0, none⟩ = some (.int .i64 k) := h5 0 _ rfl
  have d1 : w.cell? ⟨g, 1, none⟩ = some (.int .u64 (u 0)) := h5 1 _ rfl
  have d2 : w.cell? ⟨g, 2, none⟩ = some (.int .u64 (u 1)) := h5 2 _ rfl
  have d3 : w.cell? ⟨g, 3, none⟩ = some (.int .u64 (u 2)) := h5 3 _ rfl
  have d4 : w.cell? ⟨g, 4, none⟩ = some (.int .u64 (u 3)) := h5 4 _ rfl
  have d5 : w.cell? ⟨g, 5, none⟩ = some (.slice p n c) := h5 5 _ rfl
  have HV := Lib.hid h4
  clear h h4 h5
  go_enter Tryd.func67, Tryd.ntmps67
  go_wp2
  refine bodyPost_ret (v := .agg (nodeC k u (.slice p n c))) (results_cell_row rfl _ _ w.heap.size 27 (nodeC k u (.slice p n c)) (0, 0) _ rfl (heap_alloc_last w _) Tryd.underlying27 rfl size27r) rfl ⟨⟨_, rfl, HV.out.mono (fun b hb => ⟨hb.1, ?_⟩) (fun b hb hlt => heap_alloc_old w _ hlt)⟩, (Below.refl _ _).alloc (Nat.le_refl _) _⟩
  simp; omega
set_option maxHeartbeats 4000000 in
theorem joined_n {base : Nat} {ts : List RT} {sl : Value} {w : World} (kd : Int) (h : Th base ts sl w) (hn : 2 ≤ ts.length) :
    Calls Tryd.prog 67 #[.int .i64 kd, sl] w fun e w' => (∃ v, e = .returned v ∧ RV (fun b => base ≤ b ∧ b < w'.heap.size) w' (.mk kd u0 ts) v) ∧ Below w.heap.size w w' := by
  obtain ⟨g, cap, rfl, h2, h3, h4⟩ := h.node (by intro e; subst e; simp at hn) kd u0
  have HV := Lib.hid h4
  clear h h4
  have hne : ((ts.length : Int) == 1) = false := by rw [beq_eq_false_iff_ne]; omega
  have hne2 : decide (ts.length = 1) = false := by simp; omega
  have hne3 : (ts.length == 1) = false := by rw [beq_eq_false_iff_ne]; omega
  generalize hm : ts.length = m at *
  have HM := Lib.hid hm
  clear hm hn
  go_enter Tryd.func67, Tryd.ntmps67
  go_wp2
  refine bodyPost_ret (v := .agg (nodeC kd u0 (.slice (some ⟨g, 0, none⟩) m cap))) (results_cell_row rfl _ _ w.heap.size 27 (nodeC kd u0 (.slice (some ⟨g, 0, none⟩) m cap)) (0, 0) _ rfl (heap_alloc_last w _) Tryd.underlying27 rfl size27r) rfl ⟨⟨_, rfl, HV.out.mono (fun b hb => ⟨hb.1, ?_⟩) (fun b hb hlt => heap_alloc_old w _ hlt)⟩, (Below.refl _ _).alloc (Nat.le_refl _) _⟩
  simp; omega
theorem joined_any {base : Nat} {ts : List RT} {sl : Value} {w : World} (kd : Int) (h : Th base ts sl w) (hn : ts ≠ []) :
    Calls Tryd.prog 67 #[.int .i64 kd, sl] w fun e w' => (∃ v, e = .returned v ∧ RV (fun b => base ≤ b ∧ b < w'.heap.size) w' (joinT kd ts) v) ∧ Below w.heap.size w w' := by
  match ts, h, hn with
  | [], _, hn => exact absurd rfl hn
  | [t], h, _ => exact joined_1 kd h
  | a :: b :: ts, h, _ => exact joined_n kd h (by simp)
end Go.Proofs.YtmjojahkbjlcdaaDoor
