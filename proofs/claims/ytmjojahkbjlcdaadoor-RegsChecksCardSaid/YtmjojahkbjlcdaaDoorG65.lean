import Derived.Test.YtmjojahkbjlcdaaDoorProg
import Derived.Test.YtmjojahkbjlcdaaDoorX3
import Derived.Test.YtmjojahkbjlcdaaDoorX4
import Derived.WalkKit
import Derived.WalkLawsBesides
import Derived.WalkSpells
import Derived.Outline
import Derived.Lib.Walk
import Derived.Lib.Hide
import Derived.RegionTactic
import Derived.LoopTactic
import Derived.Below
import Derived.IntWalk
import Derived.Deep.QuietTactic
import Derived.BigQuiet
import Derived.Test.YtmjojahkbjlcdaaDoorG58
import Derived.Test.YtmjojahkbjlcdaaDoorG60
namespace Go.Proofs.YtmjojahkbjlcdaaDoor
set_option linter.unusedSimpArgs false
set_option linter.unusedVariables false
set_option maxRecDepth 100000
open Go.RowKit

/- Patterns made of patterns that lie in memory. -/
theorem rv_alloc {t : RT} {y : World} {v : Value} (o : Obj) (h : RV (fun b => b < y.heap.size) y t v) : RV (fun b => b < (y.alloc o).heap.size) (y.alloc o) t v :=
  RV.mono (fun b hb => by simp; omega) (fun b _ hlt => ((Below.refl y.heap.size y).alloc (Nat.le_refl _) o).block b hlt) h
theorem rv_two (k : Int) {t1 t2 : RT} {y : World} {b : Nat} {k1 k2 : Int} {u1 u2 : Nat → Int} {p1 p2 : Option Addr} {n1 n2 c1 c2 : Nat} (hh : y.heap[b]? = some (.cells #[.int .i64 k1, .int .u64 (u1 0), .int .u64 (u1 1), .int .u64 (u1 2), .int .u64 (u1 3), .slice p1 n1 c1, .int .i64 k2, .int .u64 (u2 0), .int .u64 (u2 1), .int .u64 (u2 2), .int .u64 (u2 3), .slice p2 n2 c2] 27))
    (h1 : RV (fun b => b < y.heap.size) y t1 (.agg (nodeC k1 u1 (.slice p1 n1 c1)))) (h2 : RV (fun b => b < y.heap.size) y t2 (.agg (nodeC k2 u2 (.slice p2 n2 c2)))) :
    RV (fun b => b < y.heap.size) y (.mk k u0 [t1, t2]) (.agg (nodeC k u0 (.slice (some ⟨b, 0, none⟩) 2 2))) := by
  have hb : b < y.heap.size := (Array.getElem?_eq_some_iff.1 hh).1
  refine .node k u0 [t1, t2] b 0 2 (fun i => if i = 0 then nodeC k1 u1 (.slice p1 n1 c1) else nodeC k2 u2 (.slice p2 n2 c2)) hb (by simp) (fun i hi => ?_) (fun i hi => ?_)
  · have : i = 0 ∨ i = 1 := by simp at hi; omega
    rcases this with rfl | rfl
    · exact h1
    · exact h2
  · have : i = 0 ∨ i = 1 := by simp at hi; omega
    rcases this with rfl | rfl
    · refine six_all ?_ ?_ ?_ ?_ ?_ ?_ <;> exact ⟨_, rfl, (cell_of_row y b _ _ 27 (0, 0) hh).trans rfl⟩
    · refine six_all ?_ ?_ ?_ ?_ ?_ ?_ <;> exact ⟨_, rfl, (cell_of_row y b _ _ 27 (0, 0) hh).trans rfl⟩
theorem rv_one (k : Int) {t1 : RT} {y : World} {b : Nat} {k1 : Int} {u1 : Nat → Int} {p1 : Option Addr} {n1 c1 : Nat} (hh : y.heap[b]? = some (.cells #[.int .i64 k1, .int .u64 (u1 0), .int .u64 (u1 1), .int .u64 (u1 2), .int .u64 (u1 3), .slice p1 n1 c1] 27))
    (h1 : RV (fun b => b < y.heap.size) y t1 (.agg (nodeC k1 u1 (.slice p1 n1 c1)))) :
    RV (fun b => b < y.heap.size) y (.mk k u0 [t1]) (.agg (nodeC k u0 (.slice (some ⟨b, 0, none⟩) 1 1))) := by
  have hb : b < y.heap.size := (Array.getElem?_eq_some_iff.1 hh).1
  refine .node k u0 [t1] b 0 1 (fun i => nodeC k1 u1 (.slice p1 n1 c1)) hb (by simp) (fun i hi => ?_) (fun i hi => ?_)
  · have : i = 0 := by simpa using hi
    subst this; exact h1
  · have : i = 0 := by simpa using hi
    subst this
    refine six_all ?_ ?_ ?_ ?_ ?_ ?_ <;> exact ⟨_, rfl, (cell_of_row y b _ _ 27 (0, 0) hh).trans rfl⟩
theorem mat2_hid {t : RT} (hok : okT t) (hw : wid t ≤ 9223372036854775806) {x : List UInt8} {r : Bool} {E : Int} (hm : mtP t x = (r, E)) {D : Nat → Prop} {v : Value} {y : World} (hD : ∀ b, D b → b < y.heap.size) (hw0 : 0 < y.heap.size) (hT : Tb y) (h : RV D y t v) :
    Hid (∀ z, Below y.heap.size y z → Calls Tryd.prog 27 #[v, .string (bs x)] z fun e w' => e = .returned (.tuple #[.bool r, .int .i64 E]) ∧ Below z.heap.size z w') := Lib.hid fun z hb => by
  have := matches_any (w := z) (D := D) x (fun b hd => Nat.lt_of_lt_of_le (hD b hd) hb.size) hw hok (by have := hb.size; omega) (hT.mono (hb.block 0 hw0)) (RV.mono (fun b h => h) (fun b hb' _ => hb.block b (hD b hb')) h)
  rwa [hm] at this
theorem bigd_hid {t : RT} (m : Nat) {d : Bool} (hd : decide (m < sz t) = d) (hm2 : m ≤ 1000000) (hw : wid t ≤ 9223372036854775806) {D : Nat → Prop} {v : Value} {y : World} (hD : ∀ b, D b → b < y.heap.size) (h : RV D y t v) :
    Hid (∀ z, Below y.heap.size y z → Calls Tryd.prog 13 #[v, .int .i64 (m : Nat)] z fun e w' => e = .returned (.bool d) ∧ Below z.heap.size z w') := Lib.hid fun z hb => by
  have := big_any (w := z) m hm2 hw (fun b hd => Nat.lt_of_lt_of_le (hD b hd) hb.size) (RV.mono (fun b h => h) (fun b hb' _ => hb.block b (hD b hb')) h)
  rwa [hd] at this
end Go.Proofs.YtmjojahkbjlcdaaDoor
