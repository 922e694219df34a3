/- Texts of package regs, one behind the other. -/
import Derived.Test.YtemkppjdfjoipaaProg
import Derived.Test.YtemkppjdfjoipaaU43
import Derived.Deep.SlicePairs
import Derived.Deep.Slices
import Derived.Laws.IdiomArrays
import Derived.OpenShut
import Derived.WideBlind
import Derived.Great.BuildSlice
import Derived.WalkKit
import Derived.Maps.OwnSet
import Derived.Maps.OwnOps
import Derived.Maps.Own
import Derived.DeepKeys5
import Derived.BigFrame
import Derived.WalkMore
import Derived.ScopeJumps
import Derived.StillTailTactics
import Derived.Stop.BytesEq
import Derived.WalkLawsBesides
import Derived.WalkSpells
import Derived.Outline
import Derived.Lib.Walk
import Derived.Lib.Hide
import Derived.Lib.Slices
import Derived.Lib.Strings
import Derived.RegionTactic
import Derived.LoopTactic
import Derived.Below
import Derived.IntWalk
import Derived.Deep.QuietTactic
import Derived.BigQuiet
import Derived.Deep.MidRow
import Derived.Maps.AppendAt
import Derived.Laws.Rows
import Derived.Laws.Tables
import Derived.Deep.WholeRow
import Derived.Deep.Cut
import Derived.Deep.CutRange
import Derived.Lib.SliceRun
import Derived.Laws.MakeOwn
import Derived.Deep.RegionLaw
import Derived.Deep.RegionLawGrows
import Derived.Deep.RegionHeld3
import Derived.RegionCalls
import Derived.Deep.RegionWith
import Derived.Deep.Light
import Derived.Laws.CopyOwn
import Derived.Laws.ResultCell
import Derived.Test.YtemkppjdfjoipaaU42
import Derived.Test.YtemkppjdfjoipaaU11
import Derived.Shelf.Strings.Builder1
import Derived.Shelf.Strings.Builder2
import Derived.Shelf.Lays
import Derived.Shelf.LaysM
section
/- again: what it answers -/
namespace Go.Proofs.Ytemkppjdfjoipaa.I1.X
set_option linter.unusedSimpArgs false
set_option linter.unusedVariables false
set_option maxRecDepth 100000
open Go.RowKit
/- again: what it answers. -/
structure Cnt (Lo Lt : List P3) (a b : List Nat) (st en be : Nat) (c : Int) : Prop where
  ex : ∃ k n, Kept Lo st k ∧ k ≤ n ∧ c = (n : Int) - (k : Int) ∧ (∀ i, k ≤ i → i < n → ∀ j, ¬ Back Lo Lt a b en be i j) ∧ (n = Lt.length ∨ ∃ j, Back Lo Lt a b en be n j)
end Go.Proofs.Ytemkppjdfjoipaa.I1.X
end
section
/- again: the mark -/
namespace Go.Proofs.Ytemkppjdfjoipaa.I1.X
set_option linter.unusedSimpArgs false
set_option linter.unusedVariables false
set_option maxRecDepth 100000
open Go.RowKit
/- again: the mark, there. -/
theorem AgI.iv {B : Nat} {w wr : World} {b5 b6 b10 b11 b13 : Nat} {vE : Array Value} {tv : Value} {Lo Lt : List P3} {a b : List Nat} {en be k n k2 : Nat} {o1 o2 o3 o4 : Bool} {v1 v2 v3 v4 : Value} {vs : List Value} {q : Option Addr} {f : Nat} {Y : List It} (h : AgI B w b5 b6 b10 b11 b13 vE tv Lo Lt a b en be k n k2 o1 o2 o3 o4 v1 v2 v3 v4 vs q f Y wr) :
    IV (fun g => g < wr.heap.size) wr (runM m0 b (Lt.take n)).m.cols (.slice q (runM m0 b (Lt.take n)).m.cols.length f) := by
  have hs := h.sp
  rcases h.mm with h | h
  · exact h.mono (fun g (hg : g < B) => Nat.lt_of_lt_of_le hg hs.sz) (fun g (hg : g < B) _ => hs.bel.block g hg)
  · have hr : It.lies B wr (rI (.slice q (runM m0 b (Lt.take n)).m.cols.length f) (runM m0 b (Lt.take n)).m.cols) := hs.li _ (by
      simp only [List.mem_cons]
      exact .inr (.inr (.inr (.inr (.inr (.inr (.inr (.inr (.inr h)))))))))
    exact (own_iv hr).mono (fun g hg => hg.2.1) (fun _ _ _ => rfl)
end Go.Proofs.Ytemkppjdfjoipaa.I1.X
end
section
/- again: one round on -/
namespace Go.Proofs.Ytemkppjdfjoipaa.I1.X
set_option linter.unusedSimpArgs false
set_option linter.unusedVariables false
set_option maxRecDepth 100000
open Go.RowKit
/- again: one round on. -/
end Go.Proofs.Ytemkppjdfjoipaa.I1.X
end
section
/- again: where old pieces come back -/
namespace Go.Proofs.Ytemkppjdfjoipaa.I1.X
set_option linter.unusedSimpArgs false
set_option linter.unusedVariables false
set_option maxRecDepth 100000
open Go.RowKit
/- again: where old pieces may come back. -/
end Go.Proofs.Ytemkppjdfjoipaa.I1.X
end
section
/- again: the round, plain -/
namespace Go.Proofs.Ytemkppjdfjoipaa.I1.X
set_option linter.unusedSimpArgs false
set_option linter.unusedVariables false
set_option maxRecDepth 100000
open Go.RowKit
/- again: the round, plain. -/
/-- What one piece more is. -/
structure RdF (d : Df) (kl : List Int) (t : ByteArray) (Ln : List P3) (n at_ rn : Nat) (rk : Int) (rl : Nat) (m m' : Mk) (T E : List Tk) : Prop where
  hn : n < Ln.length
  get : Ln[n] = (rk, rn, rl)
  lt : at_ < t.size
  pc : rwA (pcF (ksL kl) (ofF d (bl (t.extract at_ t.size)))) = #[.int .i64 rk, .int .i64 (rn : Nat), .int .i64 (rl : Nat)]
  one : 1 ≤ rn
  le : at_ + rn ≤ t.size
  rl : rl ≤ 1000000
  st : I1.stQ m (t.extract at_ (at_ + rn)) rk (rn : Nat) = (m', E)
  stf : stepF m (((bl t).drop at_).take rn) rk (rn : Nat) = (m', E)
  may : May m
  may' : May m'
  tl : T.length + E.length ≤ 270000000
end Go.Proofs.Ytemkppjdfjoipaa.I1.X
end
section
/- Contracts of Go's library that the walks of this seat call, laid at its numbers. -/
namespace Go.Proofs
open Go.Shelf
end Go.Proofs
end
