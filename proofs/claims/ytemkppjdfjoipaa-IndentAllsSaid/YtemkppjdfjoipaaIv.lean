/- Package indent. -/
import Derived.Test.YtemkppjdfjoipaaProg
import Derived.Test.YtemkppjdfjoipaaInv
import Derived.Test.YtemkppjdfjoipaaIo0
import Derived.Great.BuildSlice
import Derived.WalkKit
import Derived.Maps.OwnSet
import Derived.Maps.OwnOps
import Derived.Maps.Own
import Derived.DeepKeys5
import Derived.BigFrame
import Derived.WalkMore
import Derived.ScopeJumps
import Derived.StillTailTactics
import Derived.Stop.BytesEq
import Derived.WalkLawsBesides
import Derived.WalkSpells
import Derived.Outline
import Derived.Lib.Walk
import Derived.Lib.Hide
import Derived.Lib.Slices
import Derived.Lib.Strings
import Derived.RegionTactic
import Derived.LoopTactic
import Derived.Below
import Derived.IntWalk
import Derived.Deep.QuietTactic
import Derived.BigQuiet
import Derived.Deep.MidRow
import Derived.Maps.AppendAt
import Derived.Laws.Rows
import Derived.Laws.Tables
import Derived.Deep.WholeRow
import Derived.Deep.Cut
import Derived.Deep.CutRange
import Derived.Lib.SliceRun
import Derived.Laws.MakeOwn
import Derived.Deep.RegionLaw
import Derived.Deep.RegionLawGrows
import Derived.Deep.RegionHeld3
import Derived.RegionCalls
import Derived.Deep.RegionWith
import Derived.Deep.Light
import Derived.Laws.CopyOwn
import Derived.Laws.ResultCell
namespace Go.Proofs.Ytemkppjdfjoipaa.I1
set_option linter.unusedSimpArgs false
set_option linter.unusedVariables false
set_option maxRecDepth 100000
open Go.RowKit
/- What lies in memory, apart; regions that draw, closed. -/
section
variable {P : Program} {ops : Array Oper} {Q : Exit → Act → World → Prop}
/-- What has come up has what it waits for. -/
def Closed (ops : Array Oper) (l : Nat → Bool) : Prop := ∀ i, l i = true → ∀ j, (waitsFor .any ops i).contains j = true → l j = true
theorem Closed.next {l : Nat → Bool} {i : Nat} (h : Closed ops l) (hw : ∀ j, (waitsFor .any ops i).contains j = true → l j = true) : Closed ops (fun j => j == i || l j) := fun k hk j hj => by
  by_cases e : k = i
  · subst e; simp [hw j hj]
  · have : l k = true := by simpa [e] using hk
    simp [h k this j hj]
theorem Closed.none : Closed ops (fun _ => false) := fun _ h => by cases h
theorem Closed.not {l : Nat → Bool} (h : Closed ops l) (i j : Nat) (hj : l j = false) (hw : (waitsFor .any ops i).contains j = true) : l i = false := by
  cases hi : l i with
  | false => rfl
  | true => rw [h i hi j hw] at hj; cases hj
theorem wp_region_owed2 {id : Nat} {a : Act} {w : World} (I : (Nat → Bool) → Act → World → Prop) (hm : P.follows .mixedOrders = true) (hr : rising .any ops = true)
    (h0 : I (fun _ => false) a w.drew) (hstep : Owed P ops Q (fun l a w => Closed ops l ∧ I l a w) 0)
    (hfin : ∀ (l : Nat → Bool) a w, (∀ j, decide (j < ops.size) = true → l j = true) → I l a w → Q .normal a w) : (Code.region id ops true).wp P Q a w :=
  wp_region_owed (fun l a w => Closed ops l ∧ I l a w) hm hr ⟨Closed.none, h0⟩ hstep (fun l a w hl h => hfin l a w hl h.2)
end
end Go.Proofs.Ytemkppjdfjoipaa.I1
