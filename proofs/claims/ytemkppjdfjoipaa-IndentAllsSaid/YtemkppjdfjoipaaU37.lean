/- Texts of package regs, one behind the other. -/
import Derived.Test.YtemkppjdfjoipaaProg
import Derived.Test.YtemkppjdfjoipaaRe
import Derived.WalkKit
import Derived.BigFrame
import Derived.WalkMore
import Derived.ScopeJumps
import Derived.StillTailTactics
import Derived.Stop.BytesEq
import Derived.WalkLawsBesides
import Derived.WalkSpells
import Derived.Outline
import Derived.Lib.Walk
import Derived.Lib.Hide
import Derived.Lib.Slices
import Derived.Lib.Strings
import Derived.RegionTactic
import Derived.LoopTactic
import Derived.Below
import Derived.IntWalk
import Derived.Deep.QuietTactic
import Derived.BigQuiet
import Derived.Deep.MidRow
import Derived.Maps.AppendAt
import Derived.Laws.Rows
import Derived.Laws.Tables
import Derived.Deep.WholeRow
import Derived.Deep.Cut
import Derived.Deep.CutRange
import Derived.Lib.SliceRun
import Derived.Laws.MakeOwn
import Derived.Deep.RegionLaw
import Derived.Deep.RegionLawGrows
import Derived.Deep.RegionHeld3
import Derived.RegionCalls
import Derived.Deep.RegionWith
import Derived.Deep.Light
import Derived.Laws.CopyOwn
import Derived.Laws.ResultCell
import Derived.Test.YtemkppjdfjoipaaU33
import Derived.Deep.SlicePairs
import Derived.Deep.Slices
import Derived.Laws.IdiomArrays
import Derived.OpenShut
import Derived.WideBlind
import Derived.Great.BuildSlice
import Derived.Maps.OwnSet
import Derived.Maps.OwnOps
import Derived.Maps.Own
import Derived.DeepKeys5
section
/- Package raws. -/
namespace Go.Proofs.Ytemkppjdfjoipaa
set_option linter.unusedSimpArgs false
set_option linter.unusedVariables false
set_option maxRecDepth 100000
open Go.RowKit
/- raws.Of. -/
theorem RwO.nil (B : Nat) (w : World) : RwO B w [] (.slice none 0 0) := ⟨by simp [rwL], .inl ⟨rfl, rfl⟩⟩
end Go.Proofs.Ytemkppjdfjoipaa
end
section
/- Package relex. -/
namespace Go.Proofs.Ytemkppjdfjoipaa.I1.X
set_option linter.unusedSimpArgs false
set_option linter.unusedVariables false
set_option maxRecDepth 100000
open Go.RowKit
/- Scanners and scans in memory. -/
abbrev ksL (kl : List Int) : Nat → Int := fun i => kl.getD i 0
def BV (D : Nat → Prop) (w : World) (l : List Bool) (sl : Value) : Prop := ∃ p c, sl = .slice p l.length c ∧ (l ≠ [] → ∃ b o, p = some ⟨b, o, none⟩ ∧ D b ∧ ∀ i (h : i < l.length), w.cell? ⟨b, o + i, none⟩ = some (.bool l[i]))
theorem BV.mono {D E : Nat → Prop} {w w' : World} (hE : ∀ b, D b → E b) (hw : ∀ b, D b → b < w.heap.size → w'.heap[b]? = w.heap[b]?) {l : List Bool} {sl : Value} (h : BV D w l sl) : BV E w' l sl := by
  obtain ⟨p, c, rfl, h⟩ := h
  refine ⟨p, c, rfl, fun hn => ?_⟩
  obtain ⟨b, o, hp, hD, hc⟩ := h hn
  exact ⟨b, o, hp, hE b hD, fun i hi => (cell_same (hw b hD (blk_lt (hc i hi))) _).trans (hc i hi)⟩
abbrev Lt (N : Nat) : Nat → Prop := fun b => b < N
structure SN0 (N : Nat) (w : World) (bs : Nat) (d : Df) (kl : List Int) (ds : Array Value) (p q qk po : Option Addr) (c f fk fo : Nat) : Prop where
  bn : bs < N
  nw : N ≤ w.heap.size
  dc : DC d ds p q c f
  dm : DM (Lt N) w d p q c f
  cs : ∀ j v, ds[j]? = some v → w.cell? ⟨bs, 1 + j, none⟩ = some v
  k0 : w.cell? ⟨bs, 0, none⟩ = some (.slice qk kl.length fk)
  kv : IV (Lt N) w kl (.slice qk kl.length fk)
  o0 : w.cell? ⟨bs, 260, none⟩ = some (.slice po d.nx.length fo)
  ov : BV (Lt N) w (d.nx.map onRow) (.slice po d.nx.length fo)
/-- A scanner's block. -/
def SN (N : Nat) (w : World) (bs : Nat) (d : Df) (kl : List Int) : Prop := ∃ ds p q qk po c f fk fo, SN0 N w bs d kl ds p q qk po c f fk fo
theorem SN.up {N M : Nat} {w w' : World} {bs : Nat} {d : Df} {kl : List Int} (h : SN N w bs d kl) (hN : N ≤ M) (hM : M ≤ w'.heap.size) (hb : Below N w w') : SN M w' bs d kl := by
  obtain ⟨ds, p, q, qk, po, c, f, fk, fo, h⟩ := h
  have hc : ∀ b o v, b < N → w.cell? ⟨b, o, none⟩ = some v → w'.cell? ⟨b, o, none⟩ = some v := fun b o v hb' h => (cell_same (hb.block b hb') _).trans h
  refine ⟨ds, p, q, qk, po, c, f, fk, fo, ⟨Nat.lt_of_lt_of_le h.bn hN, hM, h.dc, ?_, fun j v hj => hc _ _ _ h.bn (h.cs j v hj), hc _ _ _ h.bn h.k0, h.kv.mono (fun b hb => Nat.lt_of_lt_of_le hb hN) (fun b hb' _ => hb.block b hb'), hc _ _ _ h.bn h.o0, h.ov.mono (fun b hb => Nat.lt_of_lt_of_le hb hN) (fun b hb' _ => hb.block b hb')⟩⟩
  exact ⟨h.dm.nx.mono (fun b hb => Nat.lt_of_lt_of_le hb hN) (fun b hb' _ => hb.block b hb'), h.dm.rl.mono (fun b hb => Nat.lt_of_lt_of_le hb hN) (fun b hb' _ => hb.block b hb'), fun b hb' => Nat.lt_of_lt_of_le hb' hM, h.dm.l1, h.dm.l2, h.dm.l3⟩
theorem MLI.step {d : Df} {l : List Nat} {s : Int} {k : Nat} {r : Int} {n b : Nat} {t : List Nat} (h : MLI d l s k r n) (ht : l.drop k = b :: t) (hc : 0 ≤ cellAt d s.toNat (d.cl b)) :
    MLI d l (cellAt d s.toNat (d.cl b)) (k + 1) (if 0 ≤ d.rl.getD (cellAt d s.toNat (d.cl b)).toNat (-1) then d.rl.getD (cellAt d s.toNat (d.cl b)).toNat (-1) else r) (if 0 ≤ d.rl.getD (cellAt d s.toNat (d.cl b)).toNat (-1) then k + 1 else n) := by
  obtain ⟨h1, h2, h3⟩ := Go.Proofs.Ytemkppjdfjoipaa.take_snoc ht
  have hw : walkD d d.st (l.take (k + 1)) = cellAt d s.toNat (d.cl b) := by rw [h1, walkD_snoc, h.hs, goD_cell h.h0 hc]
  have hgo : ∀ i, 1 ≤ i → i < k + 1 → stopAt d l i = false := fun i hi1 hi2 => by
    by_cases hik : i < k
    · exact h.go i hi1 hik
    · obtain rfl : i = k := by omega
      obtain ⟨r', hr1, hr2⟩ := cell_on hc
      have : onD d s = true := by unfold onD; rw [hr1]; exact hr2
      unfold stopAt; rw [h.hs, this]; simp; exact h.h0
  have hrl : rlAt d (cellAt d s.toNat (d.cl b)) = if d.rl.getD (cellAt d s.toNat (d.cl b)).toNat (-1) < 0 then -1 else d.rl.getD (cellAt d s.toNat (d.cl b)).toNat (-1) := by
    unfold rlAt; rw [if_neg (by omega)]
  refine ⟨hw, hc, ?_, by omega, hgo⟩
  by_cases hr : 0 ≤ d.rl.getD (cellAt d s.toNat (d.cl b)).toNat (-1)
  · have e2 : rlAt d (cellAt d s.toNat (d.cl b)) = d.rl.getD (cellAt d s.toNat (d.cl b)).toNat (-1) := by rw [hrl, if_neg (by omega)]
    rw [if_pos hr, if_pos hr, longR, hw, e2, if_pos hr]
  · have e2 : rlAt d (cellAt d s.toNat (d.cl b)) = -1 := by rw [hrl, if_pos (by omega)]
    rw [if_neg hr, if_neg hr, longR, hw, e2, if_neg (by omega), ← h.hl]
end Go.Proofs.Ytemkppjdfjoipaa.I1.X
end
