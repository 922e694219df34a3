/- Package nfa, plain. -/
import Derived.Test.YtnhfeakndofokaaN1
import Derived.WalkKit
import Derived.Below
import Derived.Laws.AppendOwn
import Derived.Laws.OwnMore
namespace Go.Proofs.Ytnhfeakndofokaa
set_option linter.unusedSimpArgs false
set_option linter.unusedVariables false
set_option maxRecDepth 100000
/- Automata in memory. -/
theorem blk_lt {w : World} {b o : Nat} {v : Value} (h : w.cell? ⟨b, o, none⟩ = some v) : b < w.heap.size := World.block_lt_of_cell? w _ h
theorem cell_same {w w' : World} {b : Nat} (h : w'.heap[b]? = w.heap[b]?) (o : Nat) : w'.cell? ⟨b, o, none⟩ = w.cell? ⟨b, o, none⟩ := by
  unfold World.cell?; simp only [h]
/-- A list of numbers. -/
def IV (D : Nat → Prop) (w : World) (l : List Int) (sl : Value) : Prop := ∃ p c, sl = .slice p l.length c ∧ (l ≠ [] → ∃ b o, p = some ⟨b, o, none⟩ ∧ D b ∧ ∀ i (h : i < l.length), w.cell? ⟨b, o + i, none⟩ = some (.int .i64 l[i]))
theorem IV.mono {D E : Nat → Prop} {w w' : World} (hE : ∀ b, D b → E b) (hw : ∀ b, D b → b < w.heap.size → w'.heap[b]? = w.heap[b]?) {l : List Int} {sl : Value} (h : IV D w l sl) : IV E w' l sl := by
  obtain ⟨p, c, rfl, h⟩ := h
  refine ⟨p, c, rfl, fun hn => ?_⟩
  obtain ⟨b, o, hp, hD, hc⟩ := h hn
  refine ⟨b, o, hp, hE b hD, fun i hi => ?_⟩
  rw [← hc i hi]
  exact cell_same (hw b hD (blk_lt (hc i hi))) _
theorem IV.nil (D : Nat → Prop) (w : World) (p : Option Addr) (c : Nat) : IV D w [] (.slice p 0 c) := ⟨p, c, rfl, fun h => absurd rfl h⟩
/-- A state's cells. -/
def stC (u : Nat → Int) (to : Int) (sl : Value) (rl : Int) : Array Value := #[.int .u64 (u 0), .int .u64 (u 1), .int .u64 (u 2), .int .u64 (u 3), .int .i64 to, sl, .int .i64 rl]
/-- A list of states. -/
def SV (D : Nat → Prop) (w : World) (ss : List Nst) (sl : Value) : Prop := ∃ p c, sl = .slice p ss.length c ∧ (ss ≠ [] → ∃ b o, p = some ⟨b, o, none⟩ ∧ D b ∧ ∀ i (h : i < ss.length), ∃ q f, IV D w ss[i].fr (.slice q ss[i].fr.length f) ∧
    ∀ j y, (stC ss[i].u ss[i].to (.slice q ss[i].fr.length f) ss[i].rl)[j]? = some y → w.cell? ⟨b, o + i * 7 + j, none⟩ = some y)
theorem SV.mono {D E : Nat → Prop} {w w' : World} (hE : ∀ b, D b → E b) (hw : ∀ b, D b → b < w.heap.size → w'.heap[b]? = w.heap[b]?) {ss : List Nst} {sl : Value} (h : SV D w ss sl) : SV E w' ss sl := by
  obtain ⟨p, c, rfl, h⟩ := h
  refine ⟨p, c, rfl, fun hn => ?_⟩
  obtain ⟨b, o, hp, hD, hc⟩ := h hn
  refine ⟨b, o, hp, hE b hD, fun i hi => ?_⟩
  obtain ⟨q, f, h1, h2⟩ := hc i hi
  refine ⟨q, f, h1.mono hE hw, fun j y hy => ?_⟩
  have h3 := h2 j y hy
  rw [← h3]
  exact cell_same (hw b hD (blk_lt h3)) _
theorem SV.lt {D : Nat → Prop} {w : World} {ss : List Nst} {p : Option Addr} {n c : Nat} (h : SV D w ss (.slice p n c)) : n = ss.length := by
  obtain ⟨p', c', he, _⟩ := h
  cases he; rfl
/-- A row of truths. -/
def mkb (n : Nat) (l : List Nat) : Array Value := Array.ofFn (n := n) fun i => .bool (decide (i.val ∈ l))
theorem mkb_size (n : Nat) (l : List Nat) : (mkb n l).size = n := by simp [mkb]
theorem mkb_get {n : Nat} {l : List Nat} {i : Nat} (h : i < n) : (mkb n l)[i]? = some (.bool (decide (i ∈ l))) := by
  simp [mkb, Array.getElem?_ofFn, h]
theorem mkb_set {n : Nat} {l : List Nat} {s : Nat} : (mkb n l).setIfInBounds s (.bool true) = mkb n (l ++ [s]) := by
  apply Array.ext
  · simp [mkb]
  · intro i h1 h2
    have hi : i < n := by simpa [mkb] using h2
    have e : ((mkb n l).setIfInBounds s (.bool true))[i]? = (mkb n (l ++ [s]))[i]? := by
      rw [Array.getElem?_setIfInBounds, mkb_get hi, mkb_get hi]
      by_cases hs : s = i
      · subst hs; simp [mkb_size, hi]
      · rw [if_neg hs]; simp [Ne.symm hs]
    rw [Array.getElem?_eq_getElem h1, Array.getElem?_eq_getElem h2] at e
    exact Option.some.inj e
theorem mkb_nil (n : Nat) : mkb n [] = Array.replicate n (.bool false) := by
  apply Array.ext
  · simp [mkb]
  · intro i h1 h2; simp [mkb]
/-- The states that there are, in a row of one's own with room. -/
def own1 (base g cap : Nat) (l : List Nat) (cs : Array Value) (w : World) : Prop := base ≤ g ∧ w.heap[g]? = some (.cells cs 3 (0, 0)) ∧ l.length ≤ cap ∧ cap ≤ maxLen ∧ cs.size = cap ∧ ∀ i (h : i < l.length), cs[i]? = some (.int .i64 (l[i] : Nat))
theorem own1_row {base g cap : Nat} {l : List Nat} {cs : Array Value} {w : World} (h : own1 base g cap l cs w) : w.ownsRow base 3 1 (.slice (some ⟨g, 0, none⟩) l.length cap) l.length (l.map fun s => .int .i64 (s : Nat)) := by
  obtain ⟨h1, h2, h3, h4, h5, h6⟩ := h
  refine ⟨by simp, .inr ⟨g, cap, cs, rfl, h1, h2, h3, h4, by omega, ?_⟩⟩
  apply List.ext_getElem?
  intro i
  rw [Nat.mul_one, List.getElem?_take]
  by_cases hi : i < l.length
  · rw [if_pos hi, Array.getElem?_toList, h6 i hi]
    simp [hi]
  · rw [if_neg hi, List.getElem?_eq_none (by simp; omega)]
theorem own1_of {base : Nat} {l : List Nat} {sl : Value} {w : World} (h : w.ownsRow base 3 1 sl l.length (l.map fun s => .int .i64 (s : Nat))) (hn : l ≠ []) : ∃ g cap cs, sl = .slice (some ⟨g, 0, none⟩) l.length cap ∧ own1 base g cap l cs w := by
  obtain ⟨h0, ⟨_, h1⟩ | ⟨g, cap, cs, rfl, h1, h2, h3, h4, h5, h6⟩⟩ := h
  · exact absurd (List.length_eq_zero_iff.1 h1) hn
  · refine ⟨g, cap, cs, rfl, h1, h2, h3, h4, by omega, fun i hi => ?_⟩
    have e := congrArg (fun x : List Value => x[i]?) h6
    simp only [Nat.mul_one, List.getElem?_take, if_pos hi, Array.getElem?_toList] at e
    rw [e]; simp [hi]
end Go.Proofs.Ytnhfeakndofokaa
