/- Texts of package regs, one behind the other. -/
import Derived.Test.YtemkppjdfjoipaaProg
import Derived.Test.YtemkppjdfjoipaaU42
import Derived.Deep.SlicePairs
import Derived.Deep.Slices
import Derived.Laws.IdiomArrays
import Derived.OpenShut
import Derived.WideBlind
import Derived.Great.BuildSlice
import Derived.WalkKit
import Derived.Maps.OwnSet
import Derived.Maps.OwnOps
import Derived.Maps.Own
import Derived.DeepKeys5
import Derived.BigFrame
import Derived.WalkMore
import Derived.ScopeJumps
import Derived.StillTailTactics
import Derived.Stop.BytesEq
import Derived.WalkLawsBesides
import Derived.WalkSpells
import Derived.Outline
import Derived.Lib.Walk
import Derived.Lib.Hide
import Derived.Lib.Slices
import Derived.Lib.Strings
import Derived.RegionTactic
import Derived.LoopTactic
import Derived.Below
import Derived.IntWalk
import Derived.Deep.QuietTactic
import Derived.BigQuiet
import Derived.Deep.MidRow
import Derived.Maps.AppendAt
import Derived.Laws.Rows
import Derived.Laws.Tables
import Derived.Deep.WholeRow
import Derived.Deep.Cut
import Derived.Deep.CutRange
import Derived.Lib.SliceRun
import Derived.Laws.MakeOwn
import Derived.Deep.RegionLaw
import Derived.Deep.RegionLawGrows
import Derived.Deep.RegionHeld3
import Derived.RegionCalls
import Derived.Deep.RegionWith
import Derived.Deep.Light
import Derived.Laws.CopyOwn
import Derived.Laws.ResultCell
import Derived.Shelf.Strconv.Clone
import Derived.Shelf.Lays
import Derived.Shelf.LaysM
section
/- Package relex. -/
namespace Go.Proofs.Ytemkppjdfjoipaa.I1.X
set_option linter.unusedSimpArgs false
set_option linter.unusedVariables false
set_option maxRecDepth 100000
open Go.RowKit
/- Lexed of a scan. -/
end Go.Proofs.Ytemkppjdfjoipaa.I1.X
end
section
/- Contracts of Go's library that the walks of this seat call, laid at its numbers. -/
namespace Go.Proofs
open Go.Shelf
end Go.Proofs
end
section
/- Package relex. -/
namespace Go.Proofs.Ytemkppjdfjoipaa.I1.X
set_option linter.unusedSimpArgs false
set_option linter.unusedVariables false
set_option maxRecDepth 100000
open Go.RowKit
/- New: rows that are written into. -/
theorem MkS.set {B : Nat} {w0 : World} {L : List It} {vs : List Value} {ms : List Mk} (h : MkS B w0 L vs ms) {j : Nat} {v : Value} (hv : ∀ hj : j < ms.length, (∃ q f, v = .slice q ms[j].cols.length f ∧ IV (Lt B) w0 ms[j].cols (.slice q ms[j].cols.length f)) ∨ rI v ms[j].cols ∈ L) : MkS B w0 L (vs.set j v) ms := by
  refine ⟨by rw [List.length_set]; exact h.1, fun i h1 h2 => ?_⟩
  rw [List.length_set] at h1
  by_cases e : j = i
  · subst e
    rw [List.getElem_set_self]
    exact hv h2
  · rw [List.getElem_set_ne e]
    exact h.2 i h1 h2
end Go.Proofs.Ytemkppjdfjoipaa.I1.X
end
section
/- Package relex. -/
namespace Go.Proofs.Ytemkppjdfjoipaa.I1.X
set_option linter.unusedSimpArgs false
set_option linter.unusedVariables false
set_option maxRecDepth 100000
open Go.RowKit
/- again: what is kept, in memory. -/
theorem MkS.take {B : Nat} {w0 : World} {L : List It} {vs : List Value} {ms : List Mk} (h : MkS B w0 L vs ms) (k : Nat) : MkS B w0 L (vs.take k) (ms.take k) := by
  refine ⟨by rw [List.length_take, List.length_take, h.1], fun i h1 h2 => ?_⟩
  rw [List.length_take] at h1 h2
  rw [List.getElem_take, List.getElem_take]
  exact h.2 i (by omega) (by omega)
end Go.Proofs.Ytemkppjdfjoipaa.I1.X
end
section
/- again: what holds -/
namespace Go.Proofs.Ytemkppjdfjoipaa.I1.X
set_option linter.unusedSimpArgs false
set_option linter.unusedVariables false
set_option maxRecDepth 100000
open Go.RowKit
/- again: what holds while it goes on. -/
structure AgI (B : Nat) (w : World) (b5 b6 b10 b11 b13 : Nat) (vE : Array Value) (tv : Value) (Lo Lt : List P3) (a b : List Nat) (en be k n k2 : Nat) (o1 o2 o3 o4 : Bool) (v1 v2 v3 v4 : Value) (vs : List Value) (q : Option Addr) (f : Nat) (Y : List It) (wr : World) : Prop where
  xs : XS B w o1 o2 o3 o4 v1 v2 v3 v4 (Lt.take n) vs (m0 :: (runM m0 b (Lt.take n)).M) (0 :: (runM m0 b (Lt.take n)).C) (runM m0 b (Lt.take n)).T
  mks : MkS B w Y vs (m0 :: (runM m0 b (Lt.take n)).M)
  mm : IV (fun g => g < B) w (runM m0 b (Lt.take n)).m.cols (.slice q (runM m0 b (Lt.take n)).m.cols.length f) ∨ rI (.slice q (runM m0 b (Lt.take n)).m.cols.length f) (runM m0 b (Lt.take n)).m.cols ∈ Y
  kn : k ≤ n
  nl : n ≤ Lt.length
  kk : k ≤ k2
  kl : k2 ≤ Lo.length
  bef : ∀ j, j < k2 → off Lo j < en + (off Lt n - be)
  nb : ∀ i, k ≤ i → i < n → ∀ j, ¬ Back Lo Lt a b en be i j
  sp : Sep B w wr (xI o1 o2 o3 o4 v1 v2 v3 v4 (Lt.take n) vs (m0 :: (runM m0 b (Lt.take n)).M) (0 :: (runM m0 b (Lt.take n)).C) (runM m0 b (Lt.take n)).T (bxT b13 tv k2 (off Lo k2) :: .box b11 (.cells #[.slice q (runM m0 b (Lt.take n)).m.cols.length f, .int .i64 (runM m0 b (Lt.take n)).m.opn, .int .i64 (runM m0 b (Lt.take n)).m.col, .bool (runM m0 b (Lt.take n)).m.fresh, .int .i64 (runM m0 b (Lt.take n)).m.lead] 36 (0, 0)) :: bxL b10 #[v1, v2, v3, v4] :: bxL b6 zL :: .box b5 (.cells vE 45 (0, 0)) :: Y))
end Go.Proofs.Ytemkppjdfjoipaa.I1.X
end
