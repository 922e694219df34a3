/- Package relex. -/
import Derived.Test.YtemkppjdfjoipaaProg
import Derived.Test.YtemkppjdfjoipaaW39
import Derived.Test.YtemkppjdfjoipaaW35
import Derived.Deep.SlicePairs
import Derived.Deep.Slices
import Derived.Laws.IdiomArrays
import Derived.OpenShut
import Derived.WideBlind
import Derived.Great.BuildSlice
import Derived.WalkKit
import Derived.Maps.OwnSet
import Derived.Maps.OwnOps
import Derived.Maps.Own
import Derived.DeepKeys5
import Derived.BigFrame
import Derived.WalkMore
import Derived.ScopeJumps
import Derived.StillTailTactics
import Derived.Stop.BytesEq
import Derived.WalkLawsBesides
import Derived.WalkSpells
import Derived.Outline
import Derived.Lib.Walk
import Derived.Lib.Hide
import Derived.Lib.Slices
import Derived.Lib.Strings
import Derived.RegionTactic
import Derived.LoopTactic
import Derived.Below
import Derived.IntWalk
import Derived.Deep.QuietTactic
import Derived.BigQuiet
import Derived.Deep.MidRow
import Derived.Maps.AppendAt
import Derived.Laws.Rows
import Derived.Laws.Tables
import Derived.Deep.WholeRow
import Derived.Deep.Cut
import Derived.Deep.CutRange
import Derived.Lib.SliceRun
import Derived.Laws.MakeOwn
import Derived.Deep.RegionLaw
import Derived.Deep.RegionLawGrows
import Derived.Deep.RegionHeld3
import Derived.RegionCalls
import Derived.Deep.RegionWith
import Derived.Deep.Light
import Derived.Laws.CopyOwn
import Derived.Laws.ResultCell
namespace Go.Proofs.Ytemkppjdfjoipaa.I1.X
set_option linter.unusedSimpArgs false
set_option linter.unusedVariables false
set_option maxRecDepth 100000
open Go.RowKit
/- RelexEnds, plain. -/
theorem csuf_drop (l r : List Tk) : l.drop (l.length - csuf l r) = r.drop (r.length - csuf l r) := by
  obtain ⟨h1, h2⟩ := csuf_le l r
  have hc := cpre_take (l.drop (cpre l r)).reverse (r.drop (cpre l r)).reverse
  rw [← csuf_eq, List.take_reverse, List.take_reverse] at hc
  have hc := List.reverse_inj.1 hc
  rw [List.drop_drop, List.drop_drop, List.length_drop, List.length_drop] at hc
  rw [show cpre l r + (l.length - cpre l r - csuf l r) = l.length - csuf l r by omega, show cpre l r + (r.length - cpre l r - csuf l r) = r.length - csuf l r by omega] at hc
  exact hc
theorem csuf_next (l r : List Tk) (h1 : cpre l r + csuf l r < l.length) (h2 : cpre l r + csuf l r < r.length) : l[l.length - 1 - csuf l r]'(by omega) ≠ r[r.length - 1 - csuf l r]'(by omega) := by
  have hn := cpre_next (l.drop (cpre l r)).reverse (r.drop (cpre l r)).reverse (by rw [← csuf_eq, List.length_reverse, List.length_drop]; omega) (by rw [← csuf_eq, List.length_reverse, List.length_drop]; omega)
  intro e
  apply hn
  rw [List.getElem_reverse, List.getElem_reverse, List.getElem_drop, List.getElem_drop]
  simp only [← csuf_eq, List.length_drop]
  have e1 : cpre l r + (l.length - cpre l r - 1 - csuf l r) = l.length - 1 - csuf l r := by omega
  have e2 : cpre l r + (r.length - cpre l r - 1 - csuf l r) = r.length - 1 - csuf l r := by omega
  rw [getElem_congr_idx e1, getElem_congr_idx e2]
  exact e
structure EndsF (d : Df) (kl : List Int) (x t : ByteArray) (k : Nat) (cnt : Int) (cc : Nat) : Prop where
  ct : (scX d kl x).counts[k]? = some (cc : Int)
  le : cc ≤ cpre (scX d kl x).toks (scX d kl t).toks
  c0 : 0 ≤ cnt
  c1 : cnt ≤ ((scL d kl t).length : Int) - (k : Int)
  kt : k ≤ (scL d kl t).length
  kx : k ≤ (scL d kl x).length
  eq : (scL d kl t).take k = (scL d kl x).take k
theorem ends_math {d : Df} (hd : MayD d) {kl : List Int} {x t : ByteArray} {st en nw be : Nat} (he : Ed1 (bl x) (bl t) st en nw) {cnt : Int} (hc : Cnt (scL d kl x) (scL d kl t) (bl x) (bl t) st en be cnt) {k : Nat} (hk : Kept (scL d kl x) st k) : ∃ cc : Nat, EndsF d kl x t k cnt cc := by
  obtain ⟨g1, g2, g3⟩ := kept_same hd he hk k (Nat.le_refl _)
  have hkx := hk.hk
  have hkt : k ≤ (scL d kl t).length := by
    have h := congrArg List.length g2
    rw [List.length_take, List.length_take] at h
    have e : min k (scL d kl x).length = k := by omega
    have h' : min k (scL d kl t).length = k := h.trans e
    omega
  have hr := kept_run hd he hk
  have t1 := (lx_toks (scL d kl x) (bl x) hkx).1
  have t2 := (lx_toks (scL d kl t) (bl t) hkt).1
  rw [hr] at t2
  obtain ⟨k', n, hk', hkn, rfl, _, hn⟩ := hc.ex
  obtain rfl := kept_uniq hk hk'
  have hnl : n ≤ (scL d kl t).length := by
    rcases hn with e | ⟨j, hj⟩
    · omega
    · exact Nat.le_of_lt hj.hn
  have l1 := congrArg List.length t1
  have l2 := congrArg List.length t2
  rw [List.length_take] at l1 l2
  have m1 : (runM m0 (bl x) ((scL d kl x).take k)).T.length ≤ (scX d kl x).toks.length := by rw [← l1]; exact Nat.min_le_right _ _
  have m2 : (runM m0 (bl x) ((scL d kl x).take k)).T.length ≤ (scX d kl t).toks.length := by rw [← l2]; exact Nat.min_le_right _ _
  exact ⟨(runM m0 (bl x) ((scL d kl x).take k)).T.length, lx_count (scL d kl x) (bl x) hkx, cpre_ge (t1.trans t2.symm) m1 m2, by omega, by omega, hkt, hkx, g2⟩
end Go.Proofs.Ytemkppjdfjoipaa.I1.X
