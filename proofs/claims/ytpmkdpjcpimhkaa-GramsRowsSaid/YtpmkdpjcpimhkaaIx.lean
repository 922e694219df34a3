/- Package grams. -/
import Derived.Test.YtpmkdpjcpimhkaaProg
import Derived.Test.YtpmkdpjcpimhkaaIq
import Derived.Deep.SlicePairs
import Derived.Deep.Slices
import Derived.Laws.IdiomArrays
import Derived.OpenShut
import Derived.WideBlind
import Derived.Great.BuildSlice
import Derived.WalkKit
import Derived.Maps.OwnSet
import Derived.Maps.OwnOps
import Derived.Maps.Own
import Derived.DeepKeys5
import Derived.BigFrame
import Derived.WalkMore
import Derived.ScopeJumps
import Derived.StillTailTactics
import Derived.Stop.BytesEq
import Derived.WalkLawsBesides
import Derived.WalkSpells
import Derived.Outline
import Derived.Lib.Walk
import Derived.Lib.Hide
import Derived.Lib.Slices
import Derived.Lib.Strings
import Derived.RegionTactic
import Derived.LoopTactic
import Derived.Below
import Derived.IntWalk
import Derived.Deep.QuietTactic
import Derived.BigQuiet
import Derived.Deep.MidRow
import Derived.Maps.AppendAt
import Derived.Laws.Rows
import Derived.Laws.Tables
import Derived.Deep.WholeRow
import Derived.Deep.Cut
import Derived.Deep.CutRange
import Derived.Lib.SliceRun
import Derived.Laws.MakeOwn
import Derived.Deep.RegionLaw
import Derived.Deep.RegionLawGrows
import Derived.Deep.RegionHeld3
import Derived.RegionCalls
import Derived.Deep.RegionWith
import Derived.Deep.Light
import Derived.Laws.CopyOwn
import Derived.Laws.ResultCell
namespace Go.Proofs.Ytpmkdpjcpimhkaa
set_option linter.unusedSimpArgs false
set_option linter.unusedVariables false
set_option maxRecDepth 100000
open Go.RowKit
/- A list of numbers as an argument. -/
open Go.ChangeShapes Go.WideShapes in
theorem open_nums {H : Type} {enc : TypeId × Value → H} {w : World} {held : Bool} {sl : Value} {a : Option Addr} {n c : Nat} {d : DataW H} {p : List MemPlace} (e : sl = .slice a n c) (h : DataW.Trod enc Try.prog w 0 (fun _ => true) held 31 sl d p) (hw : ∀ n ∈ d.weights Try.prog 31, n ≤ reachBytes) :
    ∃ (l : List Int) (q : Option Addr) (c' : Nat), Value.slice a n c = .slice q l.length c' ∧ IV (fun b => b < w.heap.size) w l (.slice q l.length c') ∧ l.length ≤ 9223372036854775806 := by
  subst e
  obtain ⟨fuel, hf⟩ := h
  have e : (Value.slice a n c).cells.toList = [.slice a n c] := rfl
  rw [e] at hf
  obtain ⟨l, q, f, e1, h1, h2, _⟩ := ints_open hf hw
  exact ⟨l, q, f, e1, by rw [← e1]; exact h1, h2⟩
end Go.Proofs.Ytpmkdpjcpimhkaa
