/- Packages dfa, mini, munch. -/
import Derived.Test.YtbdbnjbafampaaaDa
import Derived.WalkKit
import Derived.Below
import Derived.Laws.AppendOwn
import Derived.Laws.OwnMore
import Derived.Lib.Hide
import Derived.Lib.Walk
import Derived.Deep.MidRow
import Derived.Deep.WholeRow
namespace Go.Proofs.Ytbdbnjbafampaaa
set_option linter.unusedSimpArgs false
set_option linter.unusedVariables false
set_option maxRecDepth 100000
open Go.RowKit
/- Automata without choice in memory. -/
theorem blk_lt {w : World} {b o : Nat} {v : Value} (h : w.cell? ⟨b, o, none⟩ = some v) : b < w.heap.size := World.block_lt_of_cell? w _ h
theorem cell_same {w w' : World} {b : Nat} (h : w'.heap[b]? = w.heap[b]?) (o : Nat) : w'.cell? ⟨b, o, none⟩ = w.cell? ⟨b, o, none⟩ := by
  unfold World.cell?; simp only [h]
/-- A list of numbers. -/
def IV (D : Nat → Prop) (w : World) (l : List Int) (sl : Value) : Prop := ∃ p c, sl = .slice p l.length c ∧ (l ≠ [] → ∃ b o, p = some ⟨b, o, none⟩ ∧ D b ∧ ∀ i (h : i < l.length), w.cell? ⟨b, o + i, none⟩ = some (.int .i64 l[i]))
theorem IV.mono {D E : Nat → Prop} {w w' : World} (hE : ∀ b, D b → E b) (hw : ∀ b, D b → b < w.heap.size → w'.heap[b]? = w.heap[b]?) {l : List Int} {sl : Value} (h : IV D w l sl) : IV E w' l sl := by
  obtain ⟨p, c, rfl, h⟩ := h
  refine ⟨p, c, rfl, fun hn => ?_⟩
  obtain ⟨b, o, hp, hD, hc⟩ := h hn
  refine ⟨b, o, hp, hE b hD, fun i hi => ?_⟩
  rw [← hc i hi]
  exact cell_same (hw b hD (blk_lt (hc i hi))) _
theorem IV.nil (D : Nat → Prop) (w : World) (p : Option Addr) (c : Nat) : IV D w [] (.slice p 0 c) := ⟨p, c, rfl, fun h => absurd rfl h⟩
/-- A list of lists of numbers. -/
def NV (D : Nat → Prop) (w : World) (ls : List (List Int)) (sl : Value) : Prop := ∃ p c, sl = .slice p ls.length c ∧ (ls ≠ [] → ∃ b o, p = some ⟨b, o, none⟩ ∧ D b ∧ ∀ i (h : i < ls.length), ∃ q f, IV D w ls[i] (.slice q ls[i].length f) ∧ w.cell? ⟨b, o + i, none⟩ = some (.slice q ls[i].length f))
theorem NV.mono {D E : Nat → Prop} {w w' : World} (hE : ∀ b, D b → E b) (hw : ∀ b, D b → b < w.heap.size → w'.heap[b]? = w.heap[b]?) {ls : List (List Int)} {sl : Value} (h : NV D w ls sl) : NV E w' ls sl := by
  obtain ⟨p, c, rfl, h⟩ := h
  refine ⟨p, c, rfl, fun hn => ?_⟩
  obtain ⟨b, o, hp, hD, hc⟩ := h hn
  refine ⟨b, o, hp, hE b hD, fun i hi => ?_⟩
  obtain ⟨q, f, h1, h2⟩ := hc i hi
  refine ⟨q, f, h1.mono hE hw, ?_⟩
  rw [← h2]
  exact cell_same (hw b hD (blk_lt h2)) _
/-- An automaton's cells. -/
structure DC (d : Df) (ds : Array Value) (p q : Option Addr) (c f : Nat) : Prop where
  sz : ds.size = 259
  one : ∀ v ∈ ds, v.oneCell' = true
  st : ds[0]? = some (.int .i64 d.st)
  cl : ∀ i, i < 256 → ds[1 + i]? = some (.int .u8 (d.cl i : Nat)) ∧ d.cl i < 256
  nx : ds[257]? = some (.slice p d.nx.length c)
  rl : ds[258]? = some (.slice q d.rl.length f)
/-- What it leads to. -/
structure DM (D : Nat → Prop) (w : World) (d : Df) (p q : Option Addr) (c f : Nat) : Prop where
  nx : NV D w d.nx (.slice p d.nx.length c)
  rl : IV D w d.rl (.slice q d.rl.length f)
  lt : ∀ b, D b → b < w.heap.size
  l1 : d.nx.length ≤ 9223372036854775806
  l2 : d.rl.length ≤ 9223372036854775806
  l3 : ∀ r ∈ d.nx, r.length ≤ 9223372036854775806
theorem DM.up {D : Nat → Prop} {w w' : World} {d : Df} {p q : Option Addr} {c f : Nat} (h : DM D w d p q c f) (hb : Below w.heap.size w w') : DM D w' d p q c f :=
  ⟨h.nx.mono (fun b h => h) (fun b hd _ => hb.block b (h.lt b hd)), h.rl.mono (fun b h => h) (fun b hd _ => hb.block b (h.lt b hd)), fun b hd => Nat.lt_of_lt_of_le (h.lt b hd) hb.size, h.l1, h.l2, h.l3⟩
/-- In a box. -/
def BX (w : World) (b : Nat) (ds : Array Value) : Prop := w.heap[b]? = some (.cells ds 26 (0, 0))
theorem BX.lt {w : World} {b : Nat} {ds : Array Value} (h : BX w b ds) : b < w.heap.size := (Array.getElem?_eq_some_iff.1 h).1
theorem BX.up {w w' : World} {b : Nat} {ds : Array Value} (h : BX w b ds) (hb : Below w.heap.size w w') : BX w' b ds := (hb.block b h.lt).trans h
theorem BX.cell {w : World} {b : Nat} {ds : Array Value} (h : BX w b ds) (j : Nat) : w.cell? ⟨b, j, none⟩ = ds[j]? := cell_of_row w b j _ 26 (0, 0) h
theorem BX.new (w : World) (ds : Array Value) : BX (w.alloc (.cells ds 26)) w.heap.size ds := heap_alloc_last w _
end Go.Proofs.Ytbdbnjbafampaaa
