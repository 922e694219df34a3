/- Texts of package regs, one behind the other. -/
import Derived.Test.YtemkppjdfjoipaaProg
import Derived.Test.YtemkppjdfjoipaaU38
import Derived.Test.YtemkppjdfjoipaaIo0
import Derived.Deep.SlicePairs
import Derived.Deep.Slices
import Derived.Laws.IdiomArrays
import Derived.OpenShut
import Derived.WideBlind
import Derived.Great.BuildSlice
import Derived.WalkKit
import Derived.Maps.OwnSet
import Derived.Maps.OwnOps
import Derived.Maps.Own
import Derived.DeepKeys5
import Derived.BigFrame
import Derived.WalkMore
import Derived.ScopeJumps
import Derived.StillTailTactics
import Derived.Stop.BytesEq
import Derived.WalkLawsBesides
import Derived.WalkSpells
import Derived.Outline
import Derived.Lib.Walk
import Derived.Lib.Hide
import Derived.Lib.Slices
import Derived.Lib.Strings
import Derived.RegionTactic
import Derived.LoopTactic
import Derived.Below
import Derived.IntWalk
import Derived.Deep.QuietTactic
import Derived.BigQuiet
import Derived.Deep.MidRow
import Derived.Maps.AppendAt
import Derived.Laws.Rows
import Derived.Laws.Tables
import Derived.Deep.WholeRow
import Derived.Deep.Cut
import Derived.Deep.CutRange
import Derived.Lib.SliceRun
import Derived.Laws.MakeOwn
import Derived.Deep.RegionLaw
import Derived.Deep.RegionLawGrows
import Derived.Deep.RegionHeld3
import Derived.RegionCalls
import Derived.Deep.RegionWith
import Derived.Deep.Light
import Derived.Laws.CopyOwn
import Derived.Laws.ResultCell
import Derived.Test.YtemkppjdfjoipaaIh
section
/- Package relex. -/
namespace Go.Proofs.Ytemkppjdfjoipaa.I1.X
set_option linter.unusedSimpArgs false
set_option linter.unusedVariables false
set_option maxRecDepth 100000
open Go.RowKit
/- copy into a row that lies. -/
theorem zi_length (l : List Int) : (zi l).length = l.length := by simp [zi]
end Go.Proofs.Ytemkppjdfjoipaa.I1.X
end
section
/- Package relex. -/
namespace Go.Proofs.Ytemkppjdfjoipaa.I1.X
set_option linter.unusedSimpArgs false
set_option linter.unusedVariables false
set_option maxRecDepth 100000
open Go.RowKit
/- copiedMarks. -/
def csT (vs : List Value) (ms : List Mk) : Array Value := (mkL vs ms).toArray
end Go.Proofs.Ytemkppjdfjoipaa.I1.X
end
section
/- Package relex. -/
namespace Go.Proofs.Ytemkppjdfjoipaa.I1.X
set_option linter.unusedSimpArgs false
set_option linter.unusedVariables false
set_option maxRecDepth 100000
open Go.RowKit
/- copied. -/
def CpP (w0 : World) (B : Nat) (X : List It) (L : List P3) (x : Lx) (n1 n2 n3 n4 : Nat) (e : Ending) (w' : World) : Prop :=
  ∃ v1 bT bR v3 v4, e = .returned (.agg #[v1, .slice (some ⟨bT, 0, none⟩) n2 n2, v3, v4]) ∧ Sep B w0 w' (.row v4 40 3 n4 (tkL x.toks) :: .row v3 3 1 n3 (zi x.counts) :: .box bT (.cells (csT (vsR bR 0 x.marks) x.marks) 36 (0, 0)) :: .box bR (.cells (zi (zcols x.marks)).toArray 3 (0, 0)) :: .row v1 38 3 n1 (rwL (L.map tR)) :: X)
end Go.Proofs.Ytemkppjdfjoipaa.I1.X
end
section
/- Package relex. -/
namespace Go.Proofs.Ytemkppjdfjoipaa.I1.X
set_option linter.unusedSimpArgs false
set_option linter.unusedVariables false
set_option maxRecDepth 100000
open Go.RowKit
/- sharing, there. -/
end Go.Proofs.Ytemkppjdfjoipaa.I1.X
end
section
/- Package relex. -/
namespace Go.Proofs.Ytemkppjdfjoipaa.I1.X
set_option linter.unusedSimpArgs false
set_option linter.unusedVariables false
set_option maxRecDepth 100000
open Go.RowKit
open Go.Maps
/- newScanner: cells. -/
/-- The rules' cells. -/
def KR (D : Nat → Prop) (w : World) (kl : List Int) (q : Option Addr) : Prop := kl ≠ [] → ∃ b o, q = some ⟨b, o, none⟩ ∧ D b ∧ ∀ j (h : j < kl.length), ∃ (k u0 u1 u2 u3 : Int) (p : Option Addr) (n c : Nat),
  w.cell? ⟨b, o + j * 7, none⟩ = some (.int .i64 kl[j]) ∧ w.cell? ⟨b, o + j * 7 + 1, none⟩ = some (.int .i64 k) ∧ w.cell? ⟨b, o + j * 7 + 2, none⟩ = some (.int .u64 u0) ∧ w.cell? ⟨b, o + j * 7 + 3, none⟩ = some (.int .u64 u1) ∧ w.cell? ⟨b, o + j * 7 + 4, none⟩ = some (.int .u64 u2) ∧ w.cell? ⟨b, o + j * 7 + 5, none⟩ = some (.int .u64 u3) ∧ w.cell? ⟨b, o + j * 7 + 6, none⟩ = some (.slice p n c)
theorem KR.mono {D E : Nat → Prop} {w w' : World} (hE : ∀ b, D b → E b) (hw : ∀ b, D b → b < w.heap.size → w'.heap[b]? = w.heap[b]?) {kl : List Int} {q : Option Addr} (h : KR D w kl q) : KR E w' kl q := fun hn => by
  obtain ⟨b, o, hp, hD, hc⟩ := h hn
  refine ⟨b, o, hp, hE b hD, fun j hj => ?_⟩
  obtain ⟨k, u0, u1, u2, u3, p, n, c, h0, h1, h2, h3, h4, h5, h6⟩ := hc j hj
  have hk : ∀ o v, w.cell? ⟨b, o, none⟩ = some v → w'.cell? ⟨b, o, none⟩ = some v := fun o v h => by rw [← h]; exact cell_same (hw b hD (blk_lt h)) _
  exact ⟨k, u0, u1, u2, u3, p, n, c, hk _ _ h0, hk _ _ h1, hk _ _ h2, hk _ _ h3, hk _ _ h4, hk _ _ h5, hk _ _ h6⟩
theorem KR.kv {D : Nat → Prop} {w : World} {kl : List Int} {q : Option Addr} (h : KR D w kl q) : KV w (ksL kl) kl.length q := fun i hi => by
  obtain ⟨b, o, hp, _, hc⟩ := h (by intro e; rw [e] at hi; simp at hi)
  obtain ⟨k, u0, u1, u2, u3, p, n, c, h0, _⟩ := hc i hi
  exact ⟨b, o, hp, by rw [h0, ksL, List.getD_eq_getElem?_getD, List.getElem?_eq_getElem hi]; rfl⟩
end Go.Proofs.Ytemkppjdfjoipaa.I1.X
end
section
/- Package relex. -/
namespace Go.Proofs.Ytemkppjdfjoipaa.I1.X
set_option linter.unusedSimpArgs false
set_option linter.unusedVariables false
set_option maxRecDepth 100000
open Go.RowKit
/- newScanner's closure. -/
end Go.Proofs.Ytemkppjdfjoipaa.I1.X
end
