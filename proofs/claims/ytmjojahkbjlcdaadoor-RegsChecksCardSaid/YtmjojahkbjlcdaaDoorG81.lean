import Derived.Test.YtmjojahkbjlcdaaDoorProg
import Derived.Test.YtmjojahkbjlcdaaDoorX3
import Derived.Test.YtmjojahkbjlcdaaDoorX4
import Derived.WalkKit
import Derived.WalkLawsBesides
import Derived.WalkSpells
import Derived.Outline
import Derived.Lib.Walk
import Derived.Lib.Hide
import Derived.RegionTactic
import Derived.LoopTactic
import Derived.Below
import Derived.IntWalk
import Derived.Deep.QuietTactic
import Derived.BigQuiet
import Derived.Test.YtmjojahkbjlcdaaDoorG59
namespace Go.Proofs.YtmjojahkbjlcdaaDoor
set_option linter.unusedSimpArgs false
set_option linter.unusedVariables false
set_option maxRecDepth 100000
open Go.RowKit

/- A pattern as an argument. -/
open Go.ChangeShapes Go.WideShapes in
theorem open_reg5 {H : Type} {enc : TypeId × Value → H} {w : World} {r : Reach} {b0 : Nat} {held : Bool} {v : Value} {d : DataW H} {p : List MemPlace} (hv : Value.okWide Tryd.prog w r b0 27 v) (h : DataW.Trod enc Tryd.prog w 0 (fun _ => true) held 27 v d p) (hw : ∀ n ∈ d.weights Tryd.prog 27, n ≤ reachBytes) :
    ∃ (t : RT) (k : Int) (u : Nat → Int) (q : Option Addr) (n c : Nat), v = .agg #[.int .i64 k, .int .u64 (u 0), .int .u64 (u 1), .int .u64 (u 2), .int .u64 (u 3), .slice q n c] ∧ RV (fun b => b < w.heap.size) w t (.agg (nodeC k u (.slice q n c))) ∧ okT t ∧ wid t ≤ 9223372036854775806 := by
  obtain ⟨cs, rfl⟩ : ∃ cs, v = .agg cs := by
    have := hv
    simp [Value.okWide, Tryd.underlying27] at this
    obtain ⟨cs, h1, _⟩ := this
    exact ⟨cs, h1⟩
  obtain ⟨fuel, hf⟩ := h
  obtain ⟨t, ht, h2, h3, h4⟩ := tree_open fuel fuel (Nat.le_refl _) hf hw
  have e : (Value.agg cs).cells.toList.toArray = cs := by simp [Value.cells]
  rw [e] at ht
  obtain ⟨k, u, q, n, c, hk⟩ := ht.form
  have hcs : cs = nodeC k u (.slice q n c) := by injection hk
  subst hcs
  exact ⟨t, k, u, q, n, c, rfl, ht, h3, h2⟩
end Go.Proofs.YtmjojahkbjlcdaaDoor
