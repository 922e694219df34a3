/- Packages dfa, mini, munch. -/
import Derived.Test.YtbdbnjbafampaaaProg
import Derived.Test.YtbdbnjbafampaaaDl
import Derived.WalkKit
import Derived.BigFrame
import Derived.Stop.BytesEq
import Derived.WalkLawsBesides
import Derived.WalkSpells
import Derived.Outline
import Derived.Lib.Walk
import Derived.Lib.Hide
import Derived.Lib.Slices
import Derived.Lib.Strings
import Derived.RegionTactic
import Derived.LoopTactic
import Derived.Below
import Derived.IntWalk
import Derived.Deep.QuietTactic
import Derived.BigQuiet
import Derived.Deep.MidRow
import Derived.Maps.AppendAt
import Derived.Laws.Rows
import Derived.Laws.Tables
import Derived.Deep.WholeRow
import Derived.Deep.Cut
import Derived.Deep.CutRange
import Derived.Lib.SliceRun
import Derived.Laws.MakeOwn
import Derived.Deep.RegionLaw
import Derived.Deep.RegionLawGrows
import Derived.Deep.RegionHeld3
import Derived.RegionCalls
import Derived.Deep.RegionWith
import Derived.Deep.Light
import Derived.Laws.CopyOwn
import Derived.Laws.ResultCell
namespace Go.Proofs.Ytbdbnjbafampaaa
set_option linter.unusedSimpArgs false
set_option linter.unusedVariables false
set_option maxRecDepth 100000
open Go.RowKit
/- LeftDfa. -/
theorem sameD_refl (d : Df) : sameD d d = true := by simp [sameD, clsEq]
theorem TR.cells {B : Nat} {w : World} {z : Ni} (h : TR B w z) : ∀ i (hi : i < z.1.length), w.cell? ⟨z.2.2.1, i, none⟩ = some (.int .i64 z.1[i]) := fun i hi => by
  have := World.ownsRow.cells h (g := z.2.2.1) rfl i (.int .i64 z.1[i]) (by
    rw [zi, List.getElem?_map, List.getElem?_append_left hi, List.getElem?_eq_getElem hi]; rfl)
  rwa [Addr.add_mid, Nat.zero_add] at this
theorem TR.iv {B : Nat} {w : World} {z : Ni} (h : TR B w z) : IV (fun b => b < w.heap.size) w z.1 (nV z) :=
  ⟨_, _, rfl, fun _ => ⟨z.2.2.1, 0, rfl, h.lt.2, fun i hi => by rw [Nat.zero_add]; exact h.cells i hi⟩⟩
theorem tn_cell {B g n cap : Nat} {zs : List Ni} {w : World} (h : TN B zs (.slice (some ⟨g, 0, none⟩) n cap) w) (i : Nat) (hi : i < zs.length) : w.cell? ⟨g, i, none⟩ = some (nV zs[i]) := by
  have := World.ownsRow.cells h.2 (g := g) rfl i (nV zs[i]) (by rw [List.getElem?_map, List.getElem?_eq_getElem hi]; rfl)
  rwa [Addr.add_mid, Nat.zero_add] at this
theorem tn_nv {B g n cap : Nat} {zs ms : List Ni} {w : World} {ls : List (List Int)} (h : TN B (zs ++ ms) (.slice (some ⟨g, 0, none⟩) n cap) w) (hz : zs.map (fun z : Ni => z.1) = ls) : NV (fun b => b < w.heap.size) w ls (.slice (some ⟨g, 0, none⟩) ls.length cap) := by
  refine ⟨_, _, rfl, fun _ => ⟨g, 0, rfl, (World.ownsRow.lt h.2 g rfl).2, fun i hi => ?_⟩⟩
  subst hz
  have hi2 : i < zs.length := by simpa using hi
  have e : (zs.map (fun z : Ni => z.1))[i] = (zs[i]).1 := by simp
  have h1 := tn_cell h i (by simp; omega)
  rw [List.getElem_append_left hi2] at h1
  rw [e, Nat.zero_add]
  exact ⟨_, _, (h.1 zs[i] (List.mem_append_left _ (List.getElem_mem hi2))).1.iv, h1⟩
theorem tn_ti {B g n cap : Nat} {zs ms : List Ni} {w : World} (h : TN B (zs ++ ms) (.slice (some ⟨g, 0, none⟩) n cap) w) (i : Nat) (hi : i < zs.length) (h7 : ∀ z ∈ zs, z.2.1 = mk7 3) : TI B w (zs[i]).1 (nV zs[i]) := by
  have h1 := (h.1 zs[i] (List.mem_append_left _ (List.getElem_mem hi))).1
  have h2 := h7 zs[i] (List.getElem_mem hi)
  unfold TR at h1
  rw [h2, List.length_append, mk7_len] at h1
  exact ⟨_, _, rfl, h1⟩
/-- A twin of an automaton. -/
structure TD (B : Nat) (w : World) (d : Df) (g cap : Nat) (q : Option Addr) (f : Nat) : Prop where
  tn : ∃ zs ms, zs.map (fun z : Ni => z.1) = d.nx ∧ (∀ z ∈ zs, z.2.1 = mk7 3) ∧ ms.map (fun z : Ni => z.1) = mks 3 ∧ TN B (zs ++ ms) (.slice (some ⟨g, 0, none⟩) (d.nx.length + 3) cap) w
  ti : TI B w d.rl (.slice q d.rl.length f)
theorem TD.up {B : Nat} {w w' : World} {d : Df} {g cap f : Nat} {q : Option Addr} (h : TD B w d g cap q f) (hb : Below w.heap.size w w') : TD B w' d g cap q f := by
  obtain ⟨⟨zs, ms, h1, h2, h3, h4⟩, g', cp, e, h5⟩ := h
  exact ⟨⟨zs, ms, h1, h2, h3, h4.up hb⟩, g', cp, e, World.ownsRow.kept (row := none) h5 ⟨hb.os, hb.tape, hb.output, hb.size, fun k hk _ => hb.block k hk⟩ (.inr (by simp [Value.ownBlock]))⟩
theorem TD.dm {B : Nat} {w : World} {d : Df} {g cap f : Nat} {q : Option Addr} (h : TD B w d g cap q f) (l1 : d.nx.length ≤ 1000000) (l2 : d.rl.length ≤ 1000000) (l3 : ∀ r ∈ d.nx, r.length ≤ 1000000) : DM (fun b => b < w.heap.size) w d (some ⟨g, 0, none⟩) q cap f := by
  obtain ⟨⟨zs, ms, h1, h2, h3, h4⟩, g', cp, e, h5⟩ := h
  refine ⟨tn_nv h4 h1, ?_, fun b h => h, by omega, by omega, fun r hr => by have := l3 r hr; omega⟩
  have h6 := ti_iv h5
  rw [← e] at h6
  exact h6.mono (fun b hb => by rw [hb]; exact (World.ownsRow.lt h5 _ rfl).2) (fun _ _ _ => rfl)
end Go.Proofs.Ytbdbnjbafampaaa
