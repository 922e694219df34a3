/- Texts of package regs, one behind the other. -/
import Derived.Test.YtemkppjdfjoipaaU27
import Derived.Test.YtemkppjdfjoipaaEc
import Derived.Deep.SlicePairs
import Derived.Deep.Slices
import Derived.Laws.IdiomArrays
import Derived.OpenShut
import Derived.WideBlind
import Derived.Great.BuildSlice
import Derived.WalkKit
import Derived.Maps.OwnSet
import Derived.Maps.OwnOps
import Derived.Maps.Own
import Derived.DeepKeys5
import Derived.BigFrame
import Derived.WalkMore
import Derived.ScopeJumps
import Derived.StillTailTactics
import Derived.Stop.BytesEq
import Derived.WalkLawsBesides
import Derived.WalkSpells
import Derived.Outline
import Derived.Lib.Walk
import Derived.Lib.Hide
import Derived.Lib.Slices
import Derived.Lib.Strings
import Derived.RegionTactic
import Derived.LoopTactic
import Derived.Below
import Derived.IntWalk
import Derived.Deep.QuietTactic
import Derived.BigQuiet
import Derived.Deep.MidRow
import Derived.Maps.AppendAt
import Derived.Laws.Rows
import Derived.Laws.Tables
import Derived.Deep.WholeRow
import Derived.Deep.Cut
import Derived.Deep.CutRange
import Derived.Lib.SliceRun
import Derived.Laws.MakeOwn
import Derived.Deep.RegionLaw
import Derived.Deep.RegionLawGrows
import Derived.Deep.RegionHeld3
import Derived.RegionCalls
import Derived.Deep.RegionWith
import Derived.Deep.Light
import Derived.Laws.CopyOwn
import Derived.Laws.ResultCell
import Derived.Test.YtemkppjdfjoipaaProg
import Derived.Test.YtemkppjdfjoipaaIp
import Derived.Test.YtemkppjdfjoipaaU31
section
/- Package relex. -/
namespace Go.Proofs.Ytemkppjdfjoipaa.I1.X
set_option linter.unusedSimpArgs false
set_option linter.unusedVariables false
set_option maxRecDepth 100000
open Go.RowKit
open I1 (Mk Tk Rw Lx May Made m0 stepF endF runF allR allQ areP stepF_may stepF_lead m0_may)
/- Scans: plain. What an edit leaves. -/
def lxM (L : List P3) (s : List Nat) : Lx := ⟨m0 :: (runM m0 s L).M, 0 :: (runM m0 s L).C, (runM m0 s L).T ++ endF (runM m0 s L).m⟩
set_option linter.unusedSectionVars false
section
variable (L : List P3) (s : List Nat) {n : Nat} (hn : n ≤ L.length)
include hn
end
theorem lx_len (L : List P3) (s : List Nat) : (lxM L s).marks.length = L.length + 1 ∧ (lxM L s).counts.length = L.length + 1 := by
  simp [lxM, (runM_len L m0 s).1, (runM_len L m0 s).2]
theorem take_snoc (L : List P3) {n : Nat} (h : n < L.length) : L.take (n + 1) = L.take n ++ [L[n]] := by
  rw [List.take_add_one, List.getElem?_eq_getElem h]; rfl
/-- How many pieces an edit keeps. -/
structure Kept (L : List P3) (st k : Nat) : Prop where
  hk : k ≤ L.length
  all : ∀ j (h : j < k), off L j + (L[j]'(by omega)).2.2 ≤ st
  next : ∀ h : k < L.length, st < off L k + L[k].2.2
/-- What an edit makes of a text. -/
structure Ed1 (a b : List Nat) (st en nw : Nat) : Prop where
  h1 : st ≤ en
  h2 : en ≤ a.length
  len : b.length = a.length - (en - st) + nw
  ahead : a.take st = b.take st
  behind : ∀ j, b.drop (st + nw + j) = a.drop (en + j)
/-- The old pieces come back at piece n. -/
structure Back (La Lb : List P3) (a b : List Nat) (en be n k : Nat) : Prop where
  hn : n < Lb.length
  hk : k < La.length
  le : be ≤ off Lb n
  at_ : off La k = en + (off Lb n - be)
  mks : (runM m0 b (Lb.take n)).m = (runM m0 a (La.take k)).m
end Go.Proofs.Ytemkppjdfjoipaa.I1.X
end
section
/- Package relex. -/
namespace Go.Proofs.Ytemkppjdfjoipaa.I1.X
set_option linter.unusedSimpArgs false
set_option linter.unusedVariables false
set_option maxRecDepth 100000
open Go.RowKit
/- slices.Equal of two lists of numbers. -/
end Go.Proofs.Ytemkppjdfjoipaa.I1.X
end
section
/- Package relex. -/
namespace Go.Proofs.Ytemkppjdfjoipaa.I1.X
set_option linter.unusedSimpArgs false
set_option linter.unusedVariables false
set_option maxRecDepth 100000
open Go.RowKit
/- sameMark, sharing. -/
end Go.Proofs.Ytemkppjdfjoipaa.I1.X
end
section
/- Package relex. -/
namespace Go.Proofs.Ytemkppjdfjoipaa.I1.X
set_option linter.unusedSimpArgs false
set_option linter.unusedVariables false
set_option maxRecDepth 100000
open Go.RowKit
/- alikeAhead, alikeBehind. -/
end Go.Proofs.Ytemkppjdfjoipaa.I1.X
end
section
/- Package relex. -/
namespace Go.Proofs.Ytemkppjdfjoipaa.I1.X
set_option linter.unusedSimpArgs false
set_option linter.unusedVariables false
set_option maxRecDepth 100000
open Go.RowKit
/- alikeBehind. -/
end Go.Proofs.Ytemkppjdfjoipaa.I1.X
end
section
/- Package relex. -/
namespace Go.Proofs.Ytemkppjdfjoipaa.I1.X
set_option linter.unusedSimpArgs false
set_option linter.unusedVariables false
set_option maxRecDepth 100000
open Go.RowKit
/- keptPieces, begins. -/
/-- Bounds. -/
structure Sm (L : List P3) : Prop where
  one : ∀ r ∈ L, 1 ≤ r.2.1
  look : ∀ r ∈ L, r.2.2 ≤ 1000000
  all : lens L ≤ 1000000
theorem Sm.len {L : List P3} (h : Sm L) : L.length ≤ 1000000 := Nat.le_trans (fit_len L h.one) h.all
end Go.Proofs.Ytemkppjdfjoipaa.I1.X
end
section
/- Package relex. -/
namespace Go.Proofs.Ytemkppjdfjoipaa.I1.X
set_option linter.unusedSimpArgs false
set_option linter.unusedVariables false
set_option maxRecDepth 100000
open Go.RowKit
/- begins. -/
abbrev bxT (b : Nat) (v : Value) (n a : Nat) : It := .box b (.cells #[v, .int .i64 (n : Nat), .int .i64 (a : Nat)] 117 (0, 0))
end Go.Proofs.Ytemkppjdfjoipaa.I1.X
end
section
/- Package raws. -/
namespace Go.Proofs.Ytemkppjdfjoipaa
set_option linter.unusedSimpArgs false
set_option linter.unusedVariables false
set_option maxRecDepth 100000
open Go.RowKit
/- raws.namesNone. -/
end Go.Proofs.Ytemkppjdfjoipaa
end
