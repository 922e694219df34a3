import Derived.Test.YtmjojahkbjlcdaaDoorProg
import Derived.Test.YtmjojahkbjlcdaaDoorX3
import Derived.Test.YtmjojahkbjlcdaaDoorX4
import Derived.WalkKit
import Derived.WalkLawsBesides
import Derived.WalkSpells
import Derived.Outline
import Derived.Lib.Walk
import Derived.Lib.Hide
import Derived.RegionTactic
import Derived.LoopTactic
import Derived.Below
import Derived.IntWalk
import Derived.Deep.QuietTactic
import Derived.BigQuiet
import Derived.Test.YtmjojahkbjlcdaaDoorX33
import Derived.Test.YtmjojahkbjlcdaaDoorX22
namespace Go.Proofs.YtmjojahkbjlcdaaDoor
set_option linter.unusedSimpArgs false
set_option linter.unusedVariables false
set_option maxRecDepth 100000
open Go.RowKit

/- A queue of patterns in a row of one's own: taken off its head, put to its end. -/
def QW (w0 : World) (D : Nat → Prop) (ts : List RT) (sl : Value) (w : World) : Prop :=
  ∃ (g off cap : Nat) (xs : List (Array Value)) (cur : Array Value), sl = .slice (some ⟨g, off, none⟩) ts.length cap ∧ w0.heap.size ≤ g ∧ ts.length ≤ cap ∧ w.heap[g]? = some (.cells cur 27 (0, 0)) ∧ off + cap * 6 ≤ cur.size ∧ xs.length = ts.length ∧ (∀ x ∈ xs, ∃ k u p n c, x = nodeC k u (.slice p n c)) ∧
    (∀ i (h : i < ts.length) (h' : i < xs.length), RV D w0 ts[i] (.agg xs[i])) ∧ ∀ i, i < ts.length * 6 → cur[off + i]? = (flat xs)[i]?
theorem QW.one {w0 w : World} {D : Nat → Prop} {t : RT} {k : Int} {u : Nat → Int} {p : Option Addr} {n c : Nat} (ht : RV D w0 t (.agg (nodeC k u (.slice p n c)))) (hw : w0.heap.size ≤ w.heap.size) : QW w0 D [t] (.slice (some ⟨w.heap.size, 0, none⟩) 1 1) (w.alloc (.cells (nodeC k u (.slice p n c)) 27)) :=
  ⟨w.heap.size, 0, 1, [nodeC k u (.slice p n c)], nodeC k u (.slice p n c), rfl, hw, Nat.le_refl _, heap_alloc_last w _, (show 0 + 1 * 6 ≤ 6 by omega), rfl, fun x hx => by simp at hx; exact ⟨k, u, p, n, c, hx⟩, fun i hi hi' => by
    have : i = 0 := by simpa using hi
    subst this; exact ht, fun i hi => by rw [Nat.zero_add]; simp [flat]⟩
theorem QW.up {w0 w w' : World} {D : Nat → Prop} {ts : List RT} {sl : Value} (h : QW w0 D ts sl w) (hb : Below w.heap.size w w') : QW w0 D ts sl w' := by
  obtain ⟨g, off, cap, xs, cur, h1, h2, h3, h4, h5⟩ := h
  exact ⟨g, off, cap, xs, cur, h1, h2, h3, (hb.block g (Array.getElem?_eq_some_iff.1 h4).1).trans h4, h5⟩
theorem QW.sl {w0 w : World} {D : Nat → Prop} {ts : List RT} {sl : Value} (h : QW w0 D ts sl w) : ∃ g off cap, sl = .slice (some ⟨g, off, none⟩) ts.length cap ∧ ts.length ≤ cap ∧ w0.heap.size ≤ g ∧ g < w.heap.size := by
  obtain ⟨g, off, cap, xs, cur, h1, h2, h3, h4, h5⟩ := h
  exact ⟨g, off, cap, h1, h3, h2, (Array.getElem?_eq_some_iff.1 h4).1⟩
theorem flat_cons (x : Array Value) (xs : List (Array Value)) : flat (x :: xs) = x.toList ++ flat xs := rfl
/-- The first one. -/
theorem QW.head {w0 w : World} {D : Nat → Prop} {t : RT} {ts : List RT} {g off cap : Nat} (h : QW w0 D (t :: ts) (.slice (some ⟨g, off, none⟩) (ts.length + 1) cap) w) : ∃ k u p n c, RV D w0 t (.agg (nodeC k u (.slice p n c))) ∧ ∀ j y, (nodeC k u (.slice p n c))[j]? = some y → w.cell? ⟨g, off + j, none⟩ = some y := by
  obtain ⟨g', off', cap', xs, cur, h1, h2, h3, h4, h5, h6, h7, h8, h9⟩ := h
  simp only [Value.slice.injEq, Option.some.injEq, Addr.mk.injEq] at h1
  obtain ⟨⟨rfl, rfl, -⟩, -, rfl⟩ := h1
  match xs, h6 with
  | x :: xs, h6 =>
    obtain ⟨k, u, p, n, c, rfl⟩ := h7 x (List.mem_cons_self ..)
    refine ⟨k, u, p, n, c, h8 0 (by simp) (by simp), fun j y hy => ?_⟩
    have hj : j < 6 := (Array.getElem?_eq_some_iff.1 hy).1
    rw [cell_of_row w g _ cur 27 (0, 0) h4, h9 j (by simp; omega), flat_cons, List.getElem?_append_left (by rw [Array.length_toList]; exact hj), Array.getElem?_toList]
    exact hy
theorem QW.tail {w0 w : World} {D : Nat → Prop} {t : RT} {ts : List RT} {g off cap : Nat} (h : QW w0 D (t :: ts) (.slice (some ⟨g, off, none⟩) (ts.length + 1) cap) w) : (cap = 1 → QW w0 D ts (.slice (some ⟨g, off, none⟩) ts.length 0) w) ∧ (cap ≠ 1 → QW w0 D ts (.slice (some ⟨g, off + 6, none⟩) ts.length (cap - 1)) w) := by
  obtain ⟨g', off', cap', xs, cur, h1, h2, h3, h4, h5, h6, h7, h8, h9⟩ := h
  simp only [Value.slice.injEq, Option.some.injEq, Addr.mk.injEq] at h1
  obtain ⟨⟨rfl, rfl, -⟩, -, rfl⟩ := h1
  match xs, h6 with
  | x :: xs, h6 =>
    have hx6 : x.size = 6 := nodes_six h7 x (List.mem_cons_self ..)
    have hl : xs.length = ts.length := by simpa using h6
    have h8' : ∀ i (h : i < ts.length) (h' : i < xs.length), RV D w0 ts[i] (.agg xs[i]) := fun i hi hi' => by
      have := h8 (i + 1) (by simpa using hi) (by simpa using hi')
      simpa using this
    have h7' : ∀ y ∈ xs, ∃ k u p n c, y = nodeC k u (.slice p n c) := fun y hy => h7 y (List.mem_cons_of_mem _ hy)
    simp only [List.length_cons] at h3 h9
    constructor
    · rintro rfl
      have h0 : ts.length = 0 := by omega
      exact ⟨g, off, 0, xs, cur, rfl, h2, by omega, h4, by omega, hl, h7', h8', fun i hi => by rw [h0] at hi; omega⟩
    · intro hc
      refine ⟨g, off + 6, cap - 1, xs, cur, rfl, h2, by omega, h4, by omega, hl, h7', h8', fun i hi => ?_⟩
      have := h9 (i + 6) (by omega)
      rw [flat_cons, List.getElem?_append_right (by simp [hx6])] at this
      rw [show off + 6 + i = off + (i + 6) by omega, this]
      congr 1
      simp [hx6]
theorem flat_len6 {xs : List (Array Value)} (h : ∀ x ∈ xs, ∃ k u p n c, x = nodeC k u (.slice p n c)) : (flat xs).length = xs.length * 6 := flat_len xs (nodes_six h)
/-- One more, where there is room. -/
theorem QW.room {w0 w w1 : World} {D : Nat → Prop} {ts : List RT} {t : RT} {g off cap : Nat} {k : Int} {u : Nat → Int} {p : Option Addr} {n c : Nat} (h : QW w0 D ts (.slice (some ⟨g, off, none⟩) ts.length cap) w) (ht : RV D w0 t (.agg (nodeC k u (.slice p n c)))) (hb : Below w.heap.size w w1) (hr : ts.length + 1 ≤ cap) :
    QW w0 D (ts ++ [t]) (.slice (some ⟨g, off, none⟩) (ts.length + 1) cap) (w1.setCells g (off + ts.length * 6) (nodeC k u (.slice p n c)).toList) := by
  obtain ⟨g', off', cap', xs, cur, h1, h2, h3, h4, h5, h6, h7, h8, h9⟩ := h
  simp only [Value.slice.injEq, Option.some.injEq, Addr.mk.injEq] at h1
  obtain ⟨⟨rfl, rfl, -⟩, -, rfl⟩ := h1
  have hg : w1.heap[g]? = some (.cells cur 27 (0, 0)) := (hb.block g (Array.getElem?_eq_some_iff.1 h4).1).trans h4
  have hnl : (nodeC k u (.slice p n c)).toList.length = 6 := rfl
  have hfl := flat_len6 h7
  refine ⟨g, off, cap, xs ++ [nodeC k u (.slice p n c)], putA cur (off + ts.length * 6) (nodeC k u (.slice p n c)).toList, by simp, h2, by simpa using hr, setCells_heap _ _ _ _ hg, by rw [putA_size]; exact h5, by simp [h6], fun x hx => ?_, fun i hi hi' => ?_, fun i hi => ?_⟩
  · rcases List.mem_append.1 hx with hx | hx
    · exact h7 x hx
    · simp at hx; exact ⟨k, u, p, n, c, hx⟩
  · by_cases hlt : i < ts.length
    · have := h8 i hlt (by omega)
      simpa [List.getElem_append_left, hlt, h6] using this
    · have hi2 : i = ts.length := by simp at hi; omega
      subst hi2
      have e1 : (ts ++ [t])[ts.length]'hi = t := by simp
      have e2 : (xs ++ [nodeC k u (.slice p n c)])[ts.length]'hi' = nodeC k u (.slice p n c) := by simp [← h6]
      rw [e1, e2]; exact ht
  · rw [List.length_append, List.length_singleton] at hi
    rw [putA_get _ _ _ _ (by rw [hnl]; omega), hnl, flat_app]
    by_cases hlt : i < ts.length * 6
    · rw [if_neg (by omega), h9 i hlt, List.getElem?_append_left (by omega)]
    · rw [if_pos (by omega), List.getElem?_append_right (by omega)]
      congr 1
      omega
theorem QW.grow {w0 w w1 w2 : World} {D : Nat → Prop} {ts : List RT} {t : RT} {g off cap : Nat} {k : Int} {u : Nat → Int} {p : Option Addr} {n c : Nat} {v : Value} {xs : List (Array Value)} (h6 : xs.length = ts.length) (h7 : ∀ x ∈ xs, ∃ k u p n c, x = nodeC k u (.slice p n c)) (h8 : ∀ i (h : i < ts.length) (h' : i < xs.length), RV D w0 ts[i] (.agg xs[i])) (ht : RV D w0 t (.agg (nodeC k u (.slice p n c))))
    (hsz : w0.heap.size ≤ w1.heap.size) (hown : w2.ownsRow w1.heap.size 27 6 v (ts.length + 1) (flat xs ++ (nodeC k u (.slice p n c)).toList)) : QW w0 D (ts ++ [t]) v w2 := by
  rcases hown.2 with ⟨_, hn⟩ | ⟨g', cap', cur, hv, hg, hh, hc1, hc2, hc3, hc4⟩
  · omega
  · refine ⟨g', 0, cap', xs ++ [nodeC k u (.slice p n c)], cur, by rw [hv]; simp, by omega, by simpa using hc1, hh, by omega, by simp [h6], fun x hx => ?_, fun i hi hi' => ?_, fun i hi => ?_⟩
    · rcases List.mem_append.1 hx with hx | hx
      · exact h7 x hx
      · simp at hx; exact ⟨k, u, p, n, c, hx⟩
    · by_cases hlt : i < ts.length
      · have := h8 i hlt (by omega)
        simpa [List.getElem_append_left, hlt, h6] using this
      · have hi2 : i = ts.length := by simp at hi; omega
        subst hi2
        have e1 : (ts ++ [t])[ts.length]'hi = t := by simp
        have e2 : (xs ++ [nodeC k u (.slice p n c)])[ts.length]'hi' = nodeC k u (.slice p n c) := by simp [← h6]
        rw [e1, e2]; exact ht
    · rw [List.length_append, List.length_singleton] at hi
      rw [Nat.zero_add, flat_app, ← hc4, List.getElem?_take_of_lt hi, Array.getElem?_toList]
end Go.Proofs.YtmjojahkbjlcdaaDoor
