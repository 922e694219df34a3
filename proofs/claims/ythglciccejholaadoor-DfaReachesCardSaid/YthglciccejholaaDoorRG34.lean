/- Package regs: the reader's small steps: what comes next. -/
import Derived.Test.YthglciccejholaaDoorProg
import Derived.Test.YthglciccejholaaDoorZ13
import Derived.WalkKit
import Derived.WalkLawsBesides
import Derived.WalkSpells
import Derived.Outline
import Derived.Lib.Walk
import Derived.Lib.Hide
import Derived.RegionTactic
import Derived.LoopTactic
import Derived.Below
import Derived.IntWalk
import Derived.Deep.QuietTactic
import Derived.BigQuiet
import Derived.Deep.MidRow
namespace Go.Proofs.YthglciccejholaaDoor.R5
set_option linter.unusedSimpArgs false
set_option linter.unusedVariables false
set_option maxRecDepth 100000
open Go.RowKit

section
variable {P : Program} {ops : Array Oper} {Q : Exit → Act → World → Prop}
/-- What has come up has what it waits for. -/
def Closed (ops : Array Oper) (l : Nat → Bool) : Prop := ∀ i, l i = true → ∀ j, (waitsFor .any ops i).contains j = true → l j = true
theorem Closed.next {l : Nat → Bool} {i : Nat} (h : Closed ops l) (hw : ∀ j, (waitsFor .any ops i).contains j = true → l j = true) : Closed ops (fun j => j == i || l j) := fun k hk j hj => by
  by_cases e : k = i
  · subst e; simp [hw j hj]
  · have : l k = true := by simpa [e] using hk
    simp [h k this j hj]
theorem Closed.none : Closed ops (fun _ => false) := fun _ h => by cases h
theorem wp_region_owed2 {id : Nat} {a : Act} {w : World} (I : (Nat → Bool) → Act → World → Prop) (hm : P.follows .mixedOrders = true) (hr : rising .any ops = true)
    (h0 : I (fun _ => false) a w.drew) (hstep : Owed P ops Q (fun l a w => Closed ops l ∧ I l a w) 0)
    (hfin : ∀ (l : Nat → Bool) a w, (∀ j, decide (j < ops.size) = true → l j = true) → I l a w → Q .normal a w) : (Code.region id ops true).wp P Q a w :=
  wp_region_owed (fun l a w => Closed ops l ∧ I l a w) hm hr ⟨Closed.none, h0⟩ hstep (fun l a w hl h => hfin l a w hl h.2)
end
/-- A row's cells with others put in from o on. -/
def putA : Array Value → Nat → List Value → Array Value
  | cs, _, [] => cs
  | cs, o, v :: r => putA (cs.setIfInBounds o v) (o + 1) r
theorem putA_get : ∀ (vs : List Value) (cs : Array Value) (o i : Nat), o + vs.length ≤ cs.size → (putA cs o vs)[i]? = if o ≤ i ∧ i < o + vs.length then vs[i - o]? else cs[i]?
  | [], cs, o, i, _ => by
    rw [putA, if_neg (by rintro ⟨h1, h2⟩; simp at h2; omega)]
  | v :: r, cs, o, i, h => by
    simp only [List.length_cons] at h
    rw [putA, putA_get r _ (o + 1) i (by simp; omega), Array.getElem?_setIfInBounds]
    simp only [List.length_cons]
    by_cases h1 : o = i
    · subst h1
      rw [if_neg (by omega), if_pos rfl, if_pos (by omega), if_pos (by omega)]
      simp
    · by_cases h2 : o + 1 ≤ i ∧ i < o + 1 + r.length
      · rw [if_pos h2, if_pos (by omega), show i - o = (i - (o + 1)) + 1 by omega]; simp
      · rw [if_neg h2, if_neg h1, if_neg (by omega)]
theorem putA_size : ∀ (vs : List Value) (cs : Array Value) (o : Nat), (putA cs o vs).size = cs.size
  | [], _, _ => rfl
  | v :: r, cs, o => by rw [putA, putA_size]; simp
theorem setCells_heap {b : Nat} {t : TypeId} : ∀ (vs : List Value) (o : Nat) (w : World) (cs : Array Value), w.heap[b]? = some (.cells cs t (0, 0)) → (w.setCells b o vs).heap[b]? = some (.cells (putA cs o vs) t (0, 0))
  | [], _, _, _, h => h
  | v :: r, o, w, cs, h => setCells_heap r (o + 1) _ _ (heap_setCell_same w b o cs t v h)
theorem setCells_other {b z : Nat} (hz : z ≠ b) : ∀ (vs : List Value) (o : Nat) (w : World), (w.setCells b o vs).heap[z]? = w.heap[z]?
  | [], _, _ => rfl
  | v :: r, o, w => by
    rw [World.setCells, setCells_other hz r, heap_setCell_other _ _ _ _ (by simpa using hz)]
theorem setCells_below {B b : Nat} {w0 : World} (hb : B ≤ b) : ∀ (vs : List Value) (o : Nat) (w : World), Below B w0 w → Below B w0 (w.setCells b o vs)
  | [], _, _, h => h
  | v :: r, o, w, h => setCells_below hb r (o + 1) _ (h.setCell (p := ⟨b, o, none⟩) hb v)
theorem setCells_size {b : Nat} : ∀ (vs : List Value) (o : Nat) (w : World), (w.setCells b o vs).heap.size = w.heap.size
  | [], _, _ => rfl
  | v :: r, o, w => by rw [World.setCells, setCells_size r]; simp
/-- The words of some spots, as cells. -/
def spL (f : Nat → Bool) : List Value := [.int .u64 (wf f 0), .int .u64 (wf f 1), .int .u64 (wf f 2), .int .u64 (wf f 3), .int .u64 (wf f 4), .int .u64 (wf f 5), .int .u64 (wf f 6), .int .u64 (wf f 7)]
theorem spL_get (f : Nat → Bool) (j : Nat) (h : j < 8) : (spL f)[j]? = some (.int .u64 (wf f j)) := by
  rcases lt8 h with rfl | rfl | rfl | rfl | rfl | rfl | rfl | rfl <;> rfl
theorem wf_congr {f g : Nat → Bool} (h : ∀ k, k < 512 → f k = g k) (j : Nat) (hj : j < 8) : wf f j = wf g j := by
  unfold wf; rw [W_congr j (fun k hk => h _ (by omega))]
theorem spL_congr {f g : Nat → Bool} (h : ∀ k, k < 512 → f k = g k) : spL f = spL g := by
  unfold spL
  rw [wf_congr h 0 (by omega), wf_congr h 1 (by omega), wf_congr h 2 (by omega), wf_congr h 3 (by omega), wf_congr h 4 (by omega), wf_congr h 5 (by omega), wf_congr h 6 (by omega), wf_congr h 7 (by omega)]
theorem spV_congr {f g : Nat → Bool} (h : ∀ k, k < 512 → f k = g k) : spV (wf f) = spV (wf g) := by
  have := spL_congr h
  show Value.agg (spL f).toArray = Value.agg (spL g).toArray
  rw [this]
def netV (N : Net) (i : Nat) : Value := if i = 0 then .int .i64 (N.n : Nat) else if i < 2049 then .int .u64 (wf (N.has ((i - 1) / 8)) ((i - 1) % 8)) else .int .u64 (wf (N.beh ((i - 2049) / 8)) ((i - 2049) % 8))
/-- A net's cells. -/
def netC (N : Net) : Array Value := Array.ofFn (n := 6145) fun i => netV N i.val
theorem netC_size (N : Net) : (netC N).size = 6145 := by simp [netC]
theorem netC_get (N : Net) (i : Nat) (h : i < 6145) : (netC N)[i]? = some (netV N i) := by
  simp [netC, Array.getElem?_ofFn, h]
theorem netC_n (N : Net) : (netC N)[0]? = some (.int .i64 (N.n : Nat)) := netC_get N 0 (by omega)
theorem netC_has (N : Net) (c j : Nat) (hc : c < 256) (hj : j < 8) : (netC N)[1 + c * 8 + j]? = some (.int .u64 (wf (N.has c) j)) := by
  rw [netC_get N _ (by omega)]
  unfold netV
  rw [if_neg (by omega), if_pos (by omega), show (1 + c * 8 + j - 1) / 8 = c by omega, show (1 + c * 8 + j - 1) % 8 = j by omega]
theorem netC_beh (N : Net) (c j : Nat) (hc : c < 512) (hj : j < 8) : (netC N)[2049 + c * 8 + j]? = some (.int .u64 (wf (N.beh c) j)) := by
  rw [netC_get N _ (by omega)]
  unfold netV
  rw [if_neg (by omega), if_neg (by omega), show (2049 + c * 8 + j - 2049) / 8 = c by omega, show (2049 + c * 8 + j - 2049) % 8 = j by omega]
theorem netV_congr {N M : Net} (hn : N.n = M.n) (hh : ∀ c, c < 256 → ∀ s, s < 512 → N.has c s = M.has c s) (hb : ∀ c, c < 512 → ∀ s, s < 512 → N.beh c s = M.beh c s) (i : Nat) (hi : i < 6145) : netV N i = netV M i := by
  unfold netV
  by_cases h0 : i = 0
  · rw [if_pos h0, if_pos h0, hn]
  · rw [if_neg h0, if_neg h0]
    by_cases h1 : i < 2049
    · rw [if_pos h1, if_pos h1, wf_congr (hh _ (by omega)) _ (by omega)]
    · rw [if_neg h1, if_neg h1, wf_congr (hb _ (by omega)) _ (by omega)]
theorem arr_ext {a b : Array Value} {n : Nat} (ha : a.size = n) (hb : b.size = n) (h : ∀ i, i < n → a[i]? = b[i]?) : a = b := by
  apply Array.ext_getElem?
  intro i
  by_cases hi : i < n
  · exact h i hi
  · rw [Array.getElem?_eq_none (by omega), Array.getElem?_eq_none (by omega)]
theorem netC_congr {N M : Net} (hn : N.n = M.n) (hh : ∀ c, c < 256 → ∀ s, s < 512 → N.has c s = M.has c s) (hb : ∀ c, c < 512 → ∀ s, s < 512 → N.beh c s = M.beh c s) : netC N = netC M :=
  arr_ext (netC_size N) (netC_size M) fun i hi => by rw [netC_get N i hi, netC_get M i hi, netV_congr hn hh hb i hi]
/-- What one more word of a byte's spots makes. -/
theorem putA_has {N M : Net} (c : Nat) (hc : c < 256) (f : Nat → Bool) (hn : N.n = M.n) (h1 : ∀ s, s < 512 → M.has c s = f s) (hh : ∀ k, k < 256 → k ≠ c → ∀ s, s < 512 → N.has k s = M.has k s) (hb : ∀ k, k < 512 → ∀ s, s < 512 → N.beh k s = M.beh k s) :
    putA (netC N) (1 + c * 8) (spL f) = netC M := by
  have hl : (spL f).length = 8 := rfl
  refine arr_ext (n := 6145) (by rw [putA_size, netC_size]) (netC_size M) fun i hi => ?_
  rw [putA_get _ _ _ _ (by rw [netC_size, hl]; omega), netC_get M i hi, netC_get N i hi, hl]
  by_cases h : 1 + c * 8 ≤ i ∧ i < 1 + c * 8 + 8
  · rw [if_pos h, spL_get f _ (by omega)]
    unfold netV
    rw [if_neg (by omega), if_pos (by omega), show (i - 1) / 8 = c by omega, show (i - 1) % 8 = i - (1 + c * 8) by omega, wf_congr (fun s hs => h1 s hs) _ (by omega)]
  · rw [if_neg h]
    unfold netV
    by_cases h0 : i = 0
    · rw [if_pos h0, if_pos h0, hn]
    · rw [if_neg h0, if_neg h0]
      by_cases h2 : i < 2049
      · rw [if_pos h2, if_pos h2, wf_congr (hh _ (by omega) (by omega)) _ (by omega)]
      · rw [if_neg h2, if_neg h2, wf_congr (hb _ (by omega)) _ (by omega)]
theorem putA_beh {N M : Net} (c : Nat) (hc : c < 512) (f : Nat → Bool) (hn : N.n = M.n) (h1 : ∀ s, s < 512 → M.beh c s = f s) (hh : ∀ k, k < 256 → ∀ s, s < 512 → N.has k s = M.has k s) (hb : ∀ k, k < 512 → k ≠ c → ∀ s, s < 512 → N.beh k s = M.beh k s) :
    putA (netC N) (2049 + c * 8) (spL f) = netC M := by
  have hl : (spL f).length = 8 := rfl
  refine arr_ext (n := 6145) (by rw [putA_size, netC_size]) (netC_size M) fun i hi => ?_
  rw [putA_get _ _ _ _ (by rw [netC_size, hl]; omega), netC_get M i hi, netC_get N i hi, hl]
  by_cases h : 2049 + c * 8 ≤ i ∧ i < 2049 + c * 8 + 8
  · rw [if_pos h, spL_get f _ (by omega)]
    unfold netV
    rw [if_neg (by omega), if_neg (by omega), show (i - 2049) / 8 = c by omega, show (i - 2049) % 8 = i - (2049 + c * 8) by omega, wf_congr (fun s hs => h1 s hs) _ (by omega)]
  · rw [if_neg h]
    unfold netV
    by_cases h0 : i = 0
    · rw [if_pos h0, if_pos h0, hn]
    · rw [if_neg h0, if_neg h0]
      by_cases h2 : i < 2049
      · rw [if_pos h2, if_pos h2, wf_congr (hh _ (by omega)) _ (by omega)]
      · rw [if_neg h2, if_neg h2, wf_congr (hb _ (by omega) (by omega)) _ (by omega)]
/-- A net at b; whatever else there was is as it was. -/
def Nk (b : Nat) (N : Net) (w w' : World) : Prop := w'.heap[b]? = some (.cells (netC N) 94 (0, 0)) ∧ Below b w w' ∧ ∀ z, z < w.heap.size → z ≠ b → w'.heap[z]? = w.heap[z]?
theorem Nk.trans {b : Nat} {N M : Net} {w w1 w2 : World} (h : Nk b N w w1) (g : Nk b M w1 w2) : Nk b M w w2 :=
  ⟨g.1, h.2.1.trans g.2.1, fun z hz hne => (g.2.2 z (Nat.lt_of_lt_of_le hz h.2.1.size) hne).trans (h.2.2 z hz hne)⟩
theorem Nk.lt {b : Nat} {N : Net} {w w' : World} (h : Nk b N w w') : b < w'.heap.size := (Array.getElem?_eq_some_iff.1 h.1).1
theorem Nk.up {b : Nat} {N : Net} {w w1 w2 : World} (h : Nk b N w w1) (hb : Below w1.heap.size w1 w2) : Nk b N w w2 :=
  ⟨(hb.block b h.lt).trans h.1, h.2.1.trans (hb.mono (Nat.le_of_lt h.lt)), fun z hz hne => (hb.block z (Nat.lt_of_lt_of_le hz h.2.1.size)).trans (h.2.2 z hz hne)⟩
theorem Nk.start {b : Nat} {N : Net} {w : World} (h : w.heap[b]? = some (.cells (netC N) 94 (0, 0))) : Nk b N w w := ⟨h, Below.refl _ _, fun _ _ _ => rfl⟩
theorem Nk.again {b : Nat} {N : Net} {w w' : World} (h : Nk b N w w') : Nk b N w' w' := Nk.start h.1
theorem Nk.drew {b : Nat} {N : Net} {w w' : World} (h : Nk b N w w') : Nk b N w w'.drew := ⟨h.1, below_drewN h.2.1 1, h.2.2⟩
/-- A block made since is written: the net is as it was. -/
theorem Nk.set {b g o : Nat} {N : Net} {w w' : World} (h : Nk b N w w') (hb : b < w.heap.size) (hg : w.heap.size ≤ g) (vs : List Value) : Nk b N w (w'.setCells g o vs) :=
  ⟨(setCells_other (by omega) vs o w').trans h.1, setCells_below (by omega) vs o w' h.2.1, fun z hz hne => (setCells_other (by omega) vs o w').trans (h.2.2 z hz hne)⟩
theorem Nk.put {b o : Nat} {N M : Net} {w w' : World} (h : Nk b N w w') (vs : List Value) (hM : putA (netC N) o vs = netC M) : Nk b M w (w'.setCells b o vs) :=
  ⟨by rw [← hM]; exact setCells_heap vs o w' _ h.1, setCells_below (Nat.le_refl _) vs o w' h.2.1, fun z hz hne => (setCells_other hne vs o w').trans (h.2.2 z hz hne)⟩
theorem Nk.hasAt {b : Nat} {N : Net} {w w' : World} (h : Nk b N w w') (c : Nat) (hc : c < 256) : w'.rangeAt b (1 + c * 8) (spL (N.has c)) := fun j v hv => by
  have hj : j < 8 := (List.getElem?_eq_some_iff.1 hv).1
  rw [cell_of_row w' b _ _ 94 (0, 0) h.1, netC_has N c j hc hj, ← spL_get _ _ hj]; exact hv
theorem Nk.behAt {b : Nat} {N : Net} {w w' : World} (h : Nk b N w w') (c : Nat) (hc : c < 512) : w'.rangeAt b (2049 + c * 8) (spL (N.beh c)) := fun j v hv => by
  have hj : j < 8 := (List.getElem?_eq_some_iff.1 hv).1
  rw [cell_of_row w' b _ _ 94 (0, 0) h.1, netC_beh N c j hc hj, ← spL_get _ _ hj]; exact hv
theorem Nk.there {b : Nat} {N : Net} {w w' : World} (h : Nk b N w w') (o n : Nat) (ho : o + n ≤ 6145) : w'.there b o n := fun j hj => by
  refine ⟨?_, frozen_of_row w' b _ _ 94 h.1⟩
  rw [cell_of_row w' b _ _ 94 (0, 0) h.1, netC_get N _ (by omega)]; rfl
theorem Nk.count {b : Nat} {N : Net} {w w' : World} (h : Nk b N w w') : w'.cell? ⟨b, 0, none⟩ = some (.int .i64 (N.n : Nat)) := by
  rw [cell_of_row w' b _ _ 94 (0, 0) h.1, netC_n]
theorem netC_one (N : Net) : (netC N).all (·.oneCell') = true := by
  rw [Array.all_eq_true]
  intro i hi
  have hi' : i < 6145 := by rw [netC_size] at hi; exact hi
  have h1 := netC_get N i hi'
  rw [Array.getElem?_eq_getElem hi] at h1
  rw [Option.some.inj h1]
  unfold netV
  split
  · rfl
  · split <;> rfl
/-- A block of eight words. -/
theorem row8_at {w : World} {b : Nat} {f : Nat → Bool} (h : w.heap[b]? = some (.cells (spL f).toArray 90 (0, 0))) (j : Nat) (hj : j < 8) : w.cell? ⟨b, j, none⟩ = some (.int .u64 (wf f j)) := by
  rw [cell_of_row w b j _ 90 (0, 0) h, List.getElem?_toArray, spL_get f j hj]
theorem row8_range {w : World} {b : Nat} {f : Nat → Bool} (h : w.heap[b]? = some (.cells (spL f).toArray 90 (0, 0))) : w.rangeAt b 0 (spL f) := fun j v hv => by
  have hj : j < 8 := (List.getElem?_eq_some_iff.1 hv).1
  rw [Nat.zero_add, row8_at h j hj, ← spL_get _ _ hj]; exact hv
end Go.Proofs.YthglciccejholaaDoor.R5
