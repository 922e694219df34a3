import Derived.Test.YtmjojahkbjlcdaaDoorProg
import Derived.Test.YtmjojahkbjlcdaaDoorX3
import Derived.Test.YtmjojahkbjlcdaaDoorX4
import Derived.WalkKit
import Derived.WalkLawsBesides
import Derived.WalkSpells
import Derived.Outline
import Derived.Lib.Walk
import Derived.Lib.Hide
import Derived.RegionTactic
import Derived.LoopTactic
import Derived.Below
import Derived.IntWalk
import Derived.Deep.QuietTactic
import Derived.BigQuiet
import Derived.Test.YtmjojahkbjlcdaaDoorX33
namespace Go.Proofs.YtmjojahkbjlcdaaDoor
set_option linter.unusedSimpArgs false
set_option linter.unusedVariables false
set_option maxRecDepth 100000
open Go.RowKit

/- A row of one's own whose elements are of whatever kind. -/
/-- What an element is, by the blocks that it lies in. -/
abbrev EP := (Nat → Prop) → World → Array Value → Prop
def EMono (p : EP) : Prop := ∀ {D E : Nat → Prop} {w w' : World} {x : Array Value}, (∀ b, D b → E b) → (∀ b, D b → b < w.heap.size → w'.heap[b]? = w.heap[b]?) → p D w x → p E w' x
/-- The elements ps lie in the row of the slice sl. -/
def ThG (base : Nat) (ps : List EP) (sl : Value) (w : World) : Prop :=
  (∀ p ∈ ps, EMono p) ∧ ∃ xs : List (Array Value), xs.length = ps.length ∧ (∀ x ∈ xs, x.size = 6) ∧ (∀ i (h : i < ps.length) (h' : i < xs.length), ps[i] (fun b => base ≤ b ∧ b < w.heap.size ∧ some b ≠ sl.ownBlock) w xs[i]) ∧ w.ownsRow base 27 6 sl ps.length (flat xs)
theorem ThG.nil (base : Nat) (w : World) : ThG base [] (.slice none 0 0) w := ⟨by simp, [], rfl, by simp, by simp, rfl, .inl ⟨rfl, rfl⟩⟩
theorem ThG.up {base : Nat} {ps : List EP} {sl : Value} {w w' : World} (h : ThG base ps sl w) (hb : Below w.heap.size w w') : ThG base ps sl w' := by
  obtain ⟨h0, xs, h1, h2, h3, h4⟩ := h
  refine ⟨h0, xs, h1, h2, fun i hi hi' => h0 _ (List.getElem_mem hi) (fun b hb' => ⟨hb'.1, Nat.lt_of_lt_of_le hb'.2.1 hb.size, hb'.2.2⟩) (fun b _ hlt => hb.block b hlt) (h3 i hi hi'), h4.1, ?_⟩
  rcases h4.2 with hn | ⟨g, cap, cur, hv, hg, hh, rest⟩
  · exact .inl hn
  · exact .inr ⟨g, cap, cur, hv, hg, (hb.block g (Array.getElem?_eq_some_iff.1 hh).1).trans hh, rest⟩
theorem ThG.app {base lo : Nat} {ps : List EP} {sl sl' : Value} {w w1 w2 : World} {p : EP} {x : Array Value} {xs : List (Array Value)} {o : Obj} (h0 : ∀ p ∈ ps, EMono p) (hp : EMono p) (hx6 : x.size = 6)
    (h1 : xs.length = ps.length) (h2 : ∀ x ∈ xs, x.size = 6) (h3 : ∀ i (h : i < ps.length) (h' : i < xs.length), ps[i] (fun b => base ≤ b ∧ b < w.heap.size ∧ some b ≠ sl.ownBlock) w xs[i])
    (hw1 : w1 = w.alloc o) (hbl : base ≤ lo) (hlo : ∀ g, sl.ownBlock = some g → g < lo) (ht : p (fun b => lo ≤ b ∧ b < w.heap.size) w x)
    (hown : w2.ownsRow base 27 6 sl' (ps.length + 1) (flat xs ++ x.toList)) (hg : w1.grownBy w2 sl.ownBlock) (hat : sl'.ownBlock = sl.ownBlock ∨ sl'.ownBlock = some w1.heap.size) : ThG base (ps ++ [p]) sl' w2 := by
  have hsz : w1.heap.size = w.heap.size + 1 := by subst hw1; simp
  have hkeep : ∀ b, b < w.heap.size → some b ≠ sl.ownBlock → w2.heap[b]? = w.heap[b]? := fun b hb hne => by
    rw [hg.block b (by omega) (fun e => hne e), hw1, heap_alloc_old w _ hb]
  have hD : ∀ b, b < w.heap.size → some b ≠ sl.ownBlock → some b ≠ sl'.ownBlock := fun b hb hne e => by
    rcases hat with h | h
    · rw [h] at e; exact hne e
    · rw [h] at e; cases e; omega
  refine ⟨fun q hq => ?_, xs ++ [x], by simp [h1], fun y hy => ?_, fun i hi hi' => ?_, by rw [flat_app]; simpa using hown⟩
  · rcases List.mem_append.1 hq with hq | hq
    · exact h0 q hq
    · rw [List.mem_singleton.1 hq]; exact hp
  · rcases List.mem_append.1 hy with hy | hy
    · exact h2 y hy
    · simp at hy; subst hy; exact hx6
  · by_cases hlt : i < ps.length
    · rw [List.getElem_append_left hlt, List.getElem_append_left (by omega)]
      exact h0 _ (List.getElem_mem hlt) (fun b hb => ⟨hb.1, by have := hg.size; omega, hD b hb.2.1 hb.2.2⟩) (fun b hb hlt => hkeep b hlt hb.2.2) (h3 i hlt (by omega))
    · have hi2 : i = ps.length := by simp at hi; omega
      subst hi2
      have e1 : (ps ++ [p])[ps.length]'hi = p := by simp
      have e2 : (xs ++ [x])[ps.length]'hi' = x := by
        rw [List.getElem_append_right (by omega)]; simp [h1]
      rw [e1, e2]
      have hno : ∀ b, lo ≤ b → some b ≠ sl.ownBlock := fun b hb e => by have := hlo b e.symm; omega
      exact hp (fun b hb => ⟨by omega, by have := hg.size; omega, hD b hb.2 (hno b hb.1)⟩) (fun b hb hlt => hkeep b hlt (hno b hb.1)) ht
theorem ThG.slice {base : Nat} {ps : List EP} {sl : Value} {w : World} (h : ThG base ps sl w) : ∃ p c, sl = .slice p ps.length c := by
  obtain ⟨_, xs, h1, h2, h3, h4⟩ := h
  rcases h4.2 with ⟨hv, hn⟩ | ⟨g, cap, cur, hv, _⟩
  · exact ⟨none, 0, by rw [hv, hn]⟩
  · exact ⟨_, _, hv⟩
theorem ThG.own {base : Nat} {ps : List EP} {sl : Value} {w : World} (h : ThG base ps sl w) : ∀ g, sl.ownBlock = some g → base ≤ g ∧ g < w.heap.size := by
  obtain ⟨_, xs, h1, h2, h3, h4⟩ := h
  intro g hg
  rcases h4.2 with ⟨hv, hn⟩ | ⟨g', cap, cur, hv, hb, hh, _⟩
  · rw [hv] at hg; simp [Value.ownBlock] at hg
  · rw [hv] at hg
    have : g' = g := by simpa [Value.ownBlock] using hg
    subst this
    exact ⟨hb, (Array.getElem?_eq_some_iff.1 hh).1⟩
/-- The row's cells, and its elements. -/
theorem ThG.row {base : Nat} {ps : List EP} {sl : Value} {w : World} (h : ThG base ps sl w) (hn : ps ≠ []) : ∃ (g cap : Nat) (X : Nat → Array Value), sl = .slice (some ⟨g, 0, none⟩) ps.length cap ∧ base ≤ g ∧ g < w.heap.size ∧ ps.length ≤ cap ∧
    ∀ i (hi : i < ps.length), ps[i] (fun b => base ≤ b ∧ b < w.heap.size) w (X i) ∧ (X i).size = 6 ∧ ∀ j, j < 6 → ∃ y, (X i)[j]? = some y ∧ w.cell? ⟨g, 6 * i + j, none⟩ = some y := by
  obtain ⟨h0, xs, h1, h2, h3, h4⟩ := h
  have hown := h4
  rcases h4.2 with ⟨_, h00⟩ | ⟨g, cap, cur, rfl, hb, hg, hcap, _⟩
  · exact absurd (List.length_eq_zero_iff.1 h00) hn
  · have hgs := (Array.getElem?_eq_some_iff.1 hg).1
    refine ⟨g, cap, fun i => xs.getD i #[], rfl, hb, hgs, hcap, fun i hi => ?_⟩
    have hi' : i < xs.length := by omega
    have e : xs.getD i #[] = xs[i] := by simp [List.getD, hi']
    show ps[i] _ w (xs.getD i #[]) ∧ (xs.getD i #[]).size = 6 ∧ ∀ j, j < 6 → ∃ y, (xs.getD i #[])[j]? = some y ∧ w.cell? ⟨g, 6 * i + j, none⟩ = some y
    rw [e]
    have h6 := h2 xs[i] (List.getElem_mem hi')
    refine ⟨h0 _ (List.getElem_mem hi) (fun b hb => ⟨hb.1, hb.2.1⟩) (fun b hb hlt => rfl) (h3 i hi hi'), h6, fun j hj => ?_⟩
    have hf := flat_get xs h2 i hi' j hj
    have hj' : j < (xs[i]).size := by omega
    rw [Array.getElem?_eq_getElem hj'] at hf
    refine ⟨(xs[i])[j], Array.getElem?_eq_getElem hj', ?_⟩
    have := World.ownsRow.cells hown rfl _ _ hf
    rw [Addr.add_mid, Nat.zero_add] at this; exact this
/-- A mark behind a list. -/
def markV (i : Nat) : Array Value := nodeC (-7000 - i) u0 (.slice none 0 0)
/-- A twin of the pattern t: its lists have three marks behind them; it lies in blocks of D. -/
inductive TW (D : Nat → Prop) (w : World) : RT → Value → Prop where
  | mk (k : Int) (u : Nat → Int) (ps : List RT) (b c : Nat) (X : Nat → Array Value) (hD : D b) (hb : b < w.heap.size) (hx : ∀ i (h : i < ps.length), TW D w ps[i] (.agg (X i)))
      (hc : ∀ i, i < ps.length → ∀ j, j < 6 → ∃ y, (X i)[j]? = some y ∧ w.cell? ⟨b, 6 * i + j, none⟩ = some y) (hm : ∀ i, i < 3 → ∀ j, j < 6 → ∃ y, (markV i)[j]? = some y ∧ w.cell? ⟨b, 6 * (ps.length + i) + j, none⟩ = some y) (hcap : ps.length + 3 ≤ c) :
      TW D w (.mk k u ps) (.agg (nodeC k u (.slice (some ⟨b, 0, none⟩) ps.length c)))
theorem TW.mono {D E : Nat → Prop} {w w' : World} (hE : ∀ b, D b → E b) (hw : ∀ b, D b → b < w.heap.size → w'.heap[b]? = w.heap[b]?) {t : RT} {v : Value} (h : TW D w t v) : TW E w' t v := by
  induction h with
  | mk k u ps b c X hD hb hx hc hm hcap ih =>
    have hk : ∀ o y, w.cell? ⟨b, o, none⟩ = some y → w'.cell? ⟨b, o, none⟩ = some y := fun o y h => by
      rw [← h]; unfold World.cell?; simp only [hw b hD hb]
    have hb' : b < w'.heap.size := by
      obtain ⟨y, _, h2⟩ := hm 0 (by omega) 0 (by omega)
      exact World.block_lt_of_cell? w' _ (hk _ _ h2)
    exact .mk k u ps b c X (hE b hD) hb' ih (fun i hi j hj => by obtain ⟨y, h1, h2⟩ := hc i hi j hj; exact ⟨y, h1, hk _ _ h2⟩) (fun i hi j hj => by obtain ⟨y, h1, h2⟩ := hm i hi j hj; exact ⟨y, h1, hk _ _ h2⟩) hcap
theorem TW.rv {D : Nat → Prop} {w : World} {t : RT} {v : Value} (h : TW D w t v) : RV D w t v := by
  induction h with
  | mk k u ps b c X hD hb hx hc hm hcap ih =>
    by_cases hn : ps = []
    · subst hn; exact .leaf k u _ c
    · exact .node k u ps b 0 c X hD hn ih (fun i hi j hj => by rw [Nat.zero_add]; exact hc i hi j hj)
theorem TW.form {D : Nat → Prop} {w : World} {t : RT} {v : Value} (h : TW D w t v) : ∃ (k : Int) (u : Nat → Int) (p : Option Addr) (n c : Nat), v = .agg (nodeC k u (.slice p n c)) := by
  cases h with
  | mk k u ps b c X hD hb hx hc hm hcap => exact ⟨k, u, _, _, _, rfl⟩
def twE (t : RT) : EP := fun D w x => TW D w t (.agg x)
def mkE (i : Nat) : EP := fun _ _ x => x = markV i
theorem twE_mono (t : RT) : EMono (twE t) := fun hE hw h => TW.mono hE hw h
theorem mkE_mono (i : Nat) : EMono (mkE i) := fun _ _ h => h
theorem ThG.twin {base : Nat} {ps : List RT} {sl : Value} {w : World} (h : ThG base (ps.map twE ++ [mkE 0, mkE 1, mkE 2]) sl w) (k : Int) (u : Nat → Int) : ∃ g cap, sl = .slice (some ⟨g, 0, none⟩) (ps.length + 3) cap ∧ ps.length + 3 ≤ cap ∧ base ≤ g ∧ g < w.heap.size ∧
    TW (fun b => base ≤ b ∧ b < w.heap.size) w (.mk k u ps) (.agg (nodeC k u (.slice (some ⟨g, 0, none⟩) ps.length cap))) := by
  obtain ⟨g, cap, X, hs, hb, hg, hcap, hX⟩ := h.row (by simp)
  have hl : (ps.map twE ++ [mkE 0, mkE 1, mkE 2]).length = ps.length + 3 := by simp
  rw [hl] at hs hcap
  refine ⟨g, cap, hs, hcap, hb, hg, .mk k u ps g cap X ⟨hb, hg⟩ hg (fun i hi => ?_) (fun i hi j hj => (hX i (by omega)).2.2 j hj) (fun i hi j hj => ?_) hcap⟩
  · have := (hX i (by omega)).1
    rw [List.getElem_append_left (by simpa using hi), List.getElem_map] at this
    exact this
  · have h1 := hX (ps.length + i) (by omega)
    have h2 := h1.1
    have e : (ps.map twE ++ [mkE 0, mkE 1, mkE 2])[ps.length + i]'(by omega) = mkE i := by
      rw [List.getElem_append_right (by simp)]
      rcases (by omega : i = 0 ∨ i = 1 ∨ i = 2) with rfl | rfl | rfl <;> simp
    rw [e] at h2
    have h3 : X (ps.length + i) = markV i := h2
    have := h1.2.2 j hj
    rwa [h3] at this
end Go.Proofs.YtmjojahkbjlcdaaDoor
