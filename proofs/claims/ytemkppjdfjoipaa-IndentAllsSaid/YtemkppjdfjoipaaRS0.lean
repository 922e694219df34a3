/- Rules, their twins: as in layer 6. -/
import Derived.Test.YtemkppjdfjoipaaProg
import Derived.Test.YtemkppjdfjoipaaU31
import Derived.WalkKit
import Derived.BigFrame
import Derived.WalkMore
import Derived.ScopeJumps
import Derived.StillTailTactics
import Derived.Stop.BytesEq
import Derived.WalkLawsBesides
import Derived.WalkSpells
import Derived.Outline
import Derived.Lib.Walk
import Derived.Lib.Hide
import Derived.Lib.Slices
import Derived.Lib.Strings
import Derived.RegionTactic
import Derived.LoopTactic
import Derived.Below
import Derived.IntWalk
import Derived.Deep.QuietTactic
import Derived.BigQuiet
import Derived.Deep.MidRow
import Derived.Maps.AppendAt
import Derived.Laws.Rows
import Derived.Laws.Tables
import Derived.Deep.WholeRow
import Derived.Deep.Cut
import Derived.Deep.CutRange
import Derived.Lib.SliceRun
import Derived.Laws.MakeOwn
import Derived.Deep.RegionLaw
import Derived.Deep.RegionLawGrows
import Derived.Deep.RegionHeld3
import Derived.RegionCalls
import Derived.Deep.RegionWith
import Derived.Deep.Light
import Derived.Laws.CopyOwn
import Derived.Laws.ResultCell
import Derived.Deep.SlicePairs
import Derived.Deep.Slices
import Derived.Laws.Entries
import Derived.Laws.IdiomArrays
import Derived.OpenShut
import Derived.WideBlind
namespace Go.Proofs.Ytemkppjdfjoipaa.R6
set_option linter.unusedSimpArgs false
set_option linter.unusedVariables false
set_option maxRecDepth 100000
open Go.RowKit
theorem blk_lt {w : World} {b o : Nat} {v : Value} (h : w.cell? ⟨b, o, none⟩ = some v) : b < w.heap.size := World.block_lt_of_cell? w _ h
theorem cell_same {w w' : World} {b : Nat} (h : w'.heap[b]? = w.heap[b]?) (o : Nat) : w'.cell? ⟨b, o, none⟩ = w.cell? ⟨b, o, none⟩ := by
  unfold World.cell?; simp only [h]
def o1 (x : Nat) : Nat := (x / 2 &&& 6148914691236517205) + (x &&& 6148914691236517205)
def o2 (x : Nat) : Nat := (x / 4 &&& 3689348814741910323) + (x &&& 3689348814741910323)
def o3 (x : Nat) : Nat := (x / 16 + x) &&& 1085102592571150095

/-- A pattern's cells. -/
def nodeC (k : Int) (u : Nat → Int) (sl : Value) : Array Value := #[.int .i64 k, .int .u64 (u 0), .int .u64 (u 1), .int .u64 (u 2), .int .u64 (u 3), sl]
/-- A pattern, as the memory has it. -/
inductive RT where
  | mk (k : Int) (u : Nat → Int) (ps : List RT)
def u0 : Nat → Int := fun _ => 0
/-- The pattern t lies in the world as the value v; its parts lie in blocks of D. -/
inductive RV (D : Nat → Prop) (w : World) : RT → Value → Prop where
  | leaf (k : Int) (u : Nat → Int) (p : Option Addr) (c : Nat) : RV D w (.mk k u []) (.agg (nodeC k u (.slice p 0 c)))
  | node (k : Int) (u : Nat → Int) (ps : List RT) (b o c : Nat) (xs : Nat → Array Value) (hD : D b) (hn : ps ≠ []) (hx : ∀ i (h : i < ps.length), RV D w ps[i] (.agg (xs i)))
      (hc : ∀ i, i < ps.length → ∀ j, j < 6 → ∃ y, (xs i)[j]? = some y ∧ w.cell? ⟨b, o + (6 * i + j), none⟩ = some y) : RV D w (.mk k u ps) (.agg (nodeC k u (.slice (some ⟨b, o, none⟩) ps.length c)))
theorem RV.mono {D E : Nat → Prop} {w w' : World} (hE : ∀ b, D b → E b) (hw : ∀ b, D b → b < w.heap.size → w'.heap[b]? = w.heap[b]?) {t : RT} {v : Value} (h : RV D w t v) : RV E w' t v := by
  induction h with
  | leaf k u p c => exact .leaf k u p c
  | node k u ps b o c xs hD hn hx hc ih =>
    refine .node k u ps b o c xs (hE b hD) hn ih (fun i hi j hj => ?_)
    obtain ⟨y, h1, h2⟩ := hc i hi j hj
    refine ⟨y, h1, ?_⟩
    have hb := block_lt_of_cell h2
    rw [← h2]
    unfold World.cell?
    simp only [hw b hD hb]
theorem RV.form {D : Nat → Prop} {w : World} {t : RT} {v : Value} (h : RV D w t v) : ∃ k u p n c, v = .agg (nodeC k u (.slice p n c)) := by
  cases h with
  | leaf k u p c => exact ⟨_, _, _, _, _, rfl⟩
  | node k u ps b o c xs hD hn hx hc => exact ⟨_, _, _, _, _, rfl⟩
/-- What lies in a part. -/
theorem RV.parts {D : Nat → Prop} {w : World} {k : Int} {u : Nat → Int} {ps : List RT} {v : Value} (h : RV D w (.mk k u ps) v) : ∃ p c, v = .agg #[.int .i64 k, .int .u64 (u 0), .int .u64 (u 1), .int .u64 (u 2), .int .u64 (u 3), .slice p ps.length c] ∧
    (ps ≠ [] → ∃ b o, p = some ⟨b, o, none⟩ ∧ D b ∧ ∀ i (hi : i < ps.length), ∃ k' u' p' n' c', RV D w ps[i] (.agg #[.int .i64 k', .int .u64 (u' 0), .int .u64 (u' 1), .int .u64 (u' 2), .int .u64 (u' 3), .slice p' n' c']) ∧
      (∀ j (y : Value), (nodeC k' u' (.slice p' n' c'))[j]? = some y → w.cell? ⟨b, o + (6 * i + j), none⟩ = some y)) := by
  cases h with
  | leaf k u p c => exact ⟨p, c, rfl, fun h => absurd rfl h⟩
  | node k u ps b o c xs hD hn hx hc =>
    refine ⟨_, c, rfl, fun _ => ⟨b, o, rfl, hD, fun i hi => ?_⟩⟩
    obtain ⟨k', u', p', n', c', hf⟩ := (hx i hi).form
    have hxs : xs i = nodeC k' u' (.slice p' n' c') := by injection hf
    refine ⟨k', u', p', n', c', by have h7 := hx i hi; rw [hxs] at h7; exact h7, fun j y hy => ?_⟩
    have hj : j < 6 := (Array.getElem?_eq_some_iff.1 hy).1
    obtain ⟨y', h5, h6⟩ := hc i hi j hj
    rw [hxs, hy] at h5
    cases h5
    exact h6
mutual
def sz : RT → Nat
  | .mk _ _ ps => szL ps + 1
def szL : List RT → Nat
  | [] => 0
  | t :: ts => sz t + szL ts
end
/-- Rules in memory: their kinds, their patterns. -/
def RuV (D : Nat → Prop) (w : World) (ts : List RT) (sl : Value) : Prop := ∃ q f, sl = .slice q ts.length f ∧ (ts ≠ [] → ∃ b o, q = some ⟨b, o, none⟩ ∧ D b ∧ ∀ i (h : i < ts.length), ∃ (kd k : Int) (u : Nat → Int) (p : Option Addr) (n c : Nat), RV D w ts[i] (.agg (nodeC k u (.slice p n c))) ∧
    ∀ j y, (#[.int .i64 kd, .int .i64 k, .int .u64 (u 0), .int .u64 (u 1), .int .u64 (u 2), .int .u64 (u 3), .slice p n c] : Array Value)[j]? = some y → w.cell? ⟨b, o + i * 7 + j, none⟩ = some y)
theorem RuV.mono {D E : Nat → Prop} {w w' : World} (hE : ∀ b, D b → E b) (hw : ∀ b, D b → b < w.heap.size → w'.heap[b]? = w.heap[b]?) {ts : List RT} {sl : Value} (h : RuV D w ts sl) : RuV E w' ts sl := by
  obtain ⟨p, c, rfl, h⟩ := h
  refine ⟨p, c, rfl, fun hn => ?_⟩
  obtain ⟨b, o, hp, hD, hc⟩ := h hn
  refine ⟨b, o, hp, hE b hD, fun i hi => ?_⟩
  obtain ⟨kd, k, u, p', n, c', h1, h2⟩ := hc i hi
  refine ⟨kd, k, u, p', n, c', h1.mono hE hw, fun j y hy => ?_⟩
  have h3 := h2 j y hy
  rw [← h3]
  exact cell_same (hw b hD (blk_lt h3)) _
def flat6 (xs : List (Array Value)) : List Value := xs.flatMap Array.toList
theorem flat6_len : ∀ (xs : List (Array Value)), (∀ x ∈ xs, x.size = 6) → (flat6 xs).length = xs.length * 6
  | [], _ => rfl
  | x :: xs, h => by
    have h1 := flat6_len xs fun y hy => h y (List.mem_cons_of_mem _ hy)
    have h2 := h x (List.mem_cons_self ..)
    show (x.toList ++ flat6 xs).length = _
    rw [List.length_append, h1, Array.length_toList, h2, List.length_cons]; omega
theorem flat6_get : ∀ (xs : List (Array Value)), (∀ x ∈ xs, x.size = 6) → ∀ i (h : i < xs.length) j, j < 6 → (flat6 xs)[6 * i + j]? = (xs[i])[j]?
  | [], _, i, h, j, hj => by simp at h
  | x :: xs, h, 0, hi, j, hj => by
    have h2 := h x (List.mem_cons_self ..)
    show (x.toList ++ flat6 xs)[6 * 0 + j]? = _
    rw [List.getElem?_append_left (by simp [h2]; omega)]
    simp
  | x :: xs, h, i + 1, hi, j, hj => by
    have h1 := flat6_get xs (fun y hy => h y (List.mem_cons_of_mem _ hy)) i (by simpa using hi) j hj
    have h2 := h x (List.mem_cons_self ..)
    show (x.toList ++ flat6 xs)[6 * (i + 1) + j]? = _
    rw [List.getElem?_append_right (by simp [h2]; omega), Array.length_toList, h2, show 6 * (i + 1) + j - 6 = 6 * i + j by omega, h1]
    simp
theorem flat6_app (xs : List (Array Value)) (x : Array Value) : flat6 (xs ++ [x]) = flat6 xs ++ x.toList := by simp [flat6]
/-- The patterns ts, as they lay in w0, in a row of one's own. -/
def TB (w0 : World) (D : Nat → Prop) (ts : List RT) (sl : Value) (w : World) : Prop :=
  ∃ xs : List (Array Value), xs.length = ts.length ∧ (∀ x ∈ xs, ∃ k u p n c, x = nodeC k u (.slice p n c)) ∧ (∀ i (h : i < ts.length) (h' : i < xs.length), RV D w0 ts[i] (.agg xs[i])) ∧ w.ownsRow w0.heap.size 128 6 sl ts.length (flat6 xs)
theorem nodes_six {xs : List (Array Value)} (h : ∀ x ∈ xs, ∃ k u p n c, x = nodeC k u (.slice p n c)) : ∀ x ∈ xs, x.size = 6 := fun x hx => by
  obtain ⟨k, u, p, n, c, rfl⟩ := h x hx; rfl
theorem TB.up {w0 w w' : World} {D : Nat → Prop} {ts : List RT} {sl : Value} (h : TB w0 D ts sl w) (hb : Below w.heap.size w w') : TB w0 D ts sl w' := by
  obtain ⟨xs, h1, h2, h3, h4⟩ := h
  refine ⟨xs, h1, h2, h3, h4.1, ?_⟩
  rcases h4.2 with hn | ⟨g, cap, cur, hv, hg, hh, rest⟩
  · exact .inl hn
  · exact .inr ⟨g, cap, cur, hv, hg, (hb.block g (Array.getElem?_eq_some_iff.1 hh).1).trans hh, rest⟩
theorem TB.sl {w0 w : World} {D : Nat → Prop} {ts : List RT} {sl : Value} (h : TB w0 D ts sl w) : ∃ a c, sl = .slice a ts.length c := by
  obtain ⟨xs, h1, h2, h3, h4⟩ := h
  rcases h4.2 with ⟨hv, hn⟩ | ⟨g, cap, cur, hv, _⟩
  · exact ⟨none, 0, by rw [hv, hn]⟩
  · exact ⟨_, _, hv⟩
theorem flat6_take (xs : List (Array Value)) (h : ∀ x ∈ xs, x.size = 6) (n : Nat) (hn : n ≤ xs.length) : (flat6 xs).take (n * 6) = flat6 (xs.take n) := by
  have e : flat6 xs = flat6 (xs.take n) ++ flat6 (xs.drop n) := by
    unfold flat6
    rw [← List.flatMap_append, List.take_append_drop]
  rw [e]
  exact List.take_left' (by rw [flat6_len _ (fun x hx => h x (List.mem_of_mem_take hx)), List.length_take]; omega)
/-- The last one, and what is left. -/
theorem TB.last {w0 w : World} {D : Nat → Prop} {ts : List RT} {t : RT} {sl : Value} (h : TB w0 D (ts ++ [t]) sl w) : ∃ g cap k u p n c, sl = .slice (some ⟨g, 0, none⟩) (ts.length + 1) cap ∧ w0.heap.size ≤ g ∧ g < w.heap.size ∧ RV D w0 t (.agg (nodeC k u (.slice p n c))) ∧
    (∀ j y, (nodeC k u (.slice p n c))[j]? = some y → w.cell? ⟨g, ts.length * 6 + j, none⟩ = some y) ∧ TB w0 D ts (.slice (some ⟨g, 0, none⟩) ts.length cap) w ∧ ts.length + 1 ≤ cap := by
  obtain ⟨xs, h1, h2, h3, h4⟩ := h
  have hl : (ts ++ [t]).length = ts.length + 1 := by simp
  rw [hl] at h1 h4
  rcases h4.2 with ⟨_, hn⟩ | ⟨g, cap, cur, hv, hg, hh, hc1, hc2, hc3, hc4⟩
  · omega
  · have hx := h2 xs[ts.length] (List.getElem_mem _)
    obtain ⟨k, u, p, n, c, he⟩ := hx
    have h5 := h3 ts.length (by simp) (by omega)
    rw [he] at h5
    have e : (ts ++ [t])[ts.length]'(by simp) = t := by simp
    rw [e] at h5
    have h6 := nodes_six h2
    refine ⟨g, cap, k, u, p, n, c, hv, hg, (Array.getElem?_eq_some_iff.1 hh).1, h5, fun j y hy => ?_, ⟨xs.take ts.length, by simp; omega, fun x hx => h2 x (List.mem_of_mem_take hx), fun i hi hi' => ?_, by rw [flat6_len _ (fun x hx => h6 x (List.mem_of_mem_take hx)), List.length_take]; rw [Nat.min_eq_left (by omega)], .inr ⟨g, cap, cur, rfl, hg, hh, by omega, hc2, hc3, ?_⟩⟩, hc1⟩
    · have hj : j < 6 := (Array.getElem?_eq_some_iff.1 hy).1
      rw [cell_of_row w g _ _ 128 (0, 0) hh]
      have h7 := flat6_get xs h6 ts.length (by omega) j hj
      rw [he, hy, ← hc4, List.getElem?_take_of_lt (by omega), Array.getElem?_toList] at h7
      rw [← h7, show ts.length * 6 + j = 6 * ts.length + j by omega]
    · have := h3 i (by simp; omega) (by omega)
      rw [List.getElem_append_left hi] at this
      simpa using this
    · have : cur.toList.take (ts.length * 6) = (cur.toList.take ((ts.length + 1) * 6)).take (ts.length * 6) := by rw [List.take_take]; congr 1; omega
      rw [this, hc4, flat6_take xs h6 _ (by omega)]
/-- One more. -/
theorem TB.app {w0 w' : World} {D : Nat → Prop} {ts : List RT} {t : RT} {sl' : Value} {k : Int} {u : Nat → Int} {p : Option Addr} {n c : Nat} {xs : List (Array Value)} (h1 : xs.length = ts.length) (h2 : ∀ x ∈ xs, ∃ k u p n c, x = nodeC k u (.slice p n c)) (h3 : ∀ i (h : i < ts.length) (h' : i < xs.length), RV D w0 ts[i] (.agg xs[i]))
    (ht : RV D w0 t (.agg (nodeC k u (.slice p n c)))) (hown : w'.ownsRow w0.heap.size 128 6 sl' (ts.length + 1) (flat6 xs ++ (nodeC k u (.slice p n c)).toList)) : TB w0 D (ts ++ [t]) sl' w' := by
  refine ⟨xs ++ [nodeC k u (.slice p n c)], by simp [h1], fun x hx => ?_, fun i hi hi' => ?_, ?_⟩
  · rcases List.mem_append.1 hx with hx | hx
    · exact h2 x hx
    · simp at hx; exact ⟨k, u, p, n, c, hx⟩
  · by_cases hlt : i < ts.length
    · have := h3 i hlt (by omega)
      simpa [List.getElem_append_left, hlt, h1] using this
    · have hi2 : i = ts.length := by simp at hi; omega
      subst hi2
      have e1 : (ts ++ [t])[ts.length]'hi = t := by simp
      have e2 : (xs ++ [nodeC k u (.slice p n c)])[ts.length]'hi' = nodeC k u (.slice p n c) := by simp [← h1]
      rw [e1, e2]; exact ht
  · rw [flat6_app]
    simpa using hown
theorem TB.one {w0 w : World} {D : Nat → Prop} {t : RT} {k : Int} {u : Nat → Int} {p : Option Addr} {n c : Nat} (ht : RV D w0 t (.agg (nodeC k u (.slice p n c)))) (hw : w0.heap.size ≤ w.heap.size) : TB w0 D [t] (.slice (some ⟨w.heap.size, 0, none⟩) 1 1) (w.alloc (.cells (nodeC k u (.slice p n c)) 128)) :=
  ⟨[nodeC k u (.slice p n c)], rfl, fun x hx => by simp at hx; exact ⟨k, u, p, n, c, hx⟩, fun i hi hi' => by
    have : i = 0 := by simpa using hi
    subst this; exact ht, rfl, .inr ⟨w.heap.size, 1, _, rfl, hw, heap_alloc_last w _, by simp, by decide, rfl, rfl⟩⟩
theorem TB.nil {w0 w : World} {D : Nat → Prop} {sl : Value} (h : w.ownsRow w0.heap.size 128 6 sl 0 []) : TB w0 D [] sl w := ⟨[], rfl, by simp, by simp, h⟩
end Go.Proofs.Ytemkppjdfjoipaa.R6
