/- Package nfa. -/
import Derived.Test.YtnhfeakndofokaaProg
import Derived.Test.YtnhfeakndofokaaN34
import Derived.WalkKit
import Derived.WalkLawsBesides
import Derived.WalkSpells
import Derived.Outline
import Derived.Lib.Walk
import Derived.Lib.Hide
import Derived.Lib.Slices
import Derived.Lib.Strings
import Derived.RegionTactic
import Derived.LoopTactic
import Derived.Below
import Derived.IntWalk
import Derived.Deep.QuietTactic
import Derived.BigQuiet
import Derived.Deep.MidRow
import Derived.Maps.AppendAt
import Derived.Laws.Rows
import Derived.Laws.Tables
import Derived.Deep.WholeRow
import Derived.Deep.Cut
import Derived.Deep.CutRange
import Derived.Lib.SliceRun
import Derived.Laws.MakeOwn
import Derived.Deep.RegionLaw
import Derived.Deep.RegionLawGrows
import Derived.Deep.RegionHeld3
import Derived.RegionCalls
import Derived.Deep.RegionWith
namespace Go.Proofs.Ytnhfeakndofokaa
set_option linter.unusedSimpArgs false
set_option linter.unusedVariables false
set_option maxRecDepth 100000
open Go.RowKit
/- LeftNfa. -/
theorem tn_cells {B : Nat} {zs ms : List Nq} {g cap n : Nat} {w : World} (h : TN B zs ms (.slice (some ⟨g, 0, none⟩) n cap) w) (i : Nat) (hi : i < (zs ++ ms).length) (j : Nat) (y : Value) (hy : (zC (zs ++ ms)[i])[j]? = some y) : w.cell? ⟨g, i * 7 + j, none⟩ = some y := by
  have hj : j < 7 := by have := (Array.getElem?_eq_some_iff.1 hy).1; simpa [zC_size] using this
  have := h.2.cells (g := g) rfl (i * 7 + j) y (by rw [flatz_get _ i hi j hj]; exact hy)
  rwa [Addr.add_mid, Nat.zero_add] at this
theorem tn_sv {B : Nat} {zs ms : List Nq} {g cap n : Nat} {w : World} {ss : List Nst} (h : TN B zs ms (.slice (some ⟨g, 0, none⟩) n cap) w) (hz : zs.map (fun z : Nq => z.1) = ss) (c : Nat) : SV (fun b => B ≤ b ∧ b < w.heap.size) w ss (.slice (some ⟨g, 0, none⟩) ss.length c) := by
  refine ⟨_, _, rfl, fun hne => ⟨g, 0, rfl, h.2.lt g rfl, fun i hi => ?_⟩⟩
  subst hz
  have hi' : i < zs.length := by simpa using hi
  have e : (zs.map (fun z : Nq => z.1))[i] = zs[i].1 := by simp
  rw [e]
  obtain ⟨g', e1, hrow⟩ := (h.1 zs[i] (List.getElem_mem hi')).1
  refine ⟨zs[i].2.1, zs[i].2.2, ?_, fun j y hy => ?_⟩
  · rw [e1]
    have h1 := ti_iv hrow
    have h2 := World.ownsRow.lt hrow g' rfl
    obtain ⟨p, cc, he, hh⟩ := h1
    injection he with e2 e3 e4
    exact ⟨_, _, rfl, fun hn => by
      obtain ⟨b, o, hp, hb, hc⟩ := hh hn
      refine ⟨b, o, by rw [e2]; exact hp, ?_, hc⟩
      have hb' : b = g' := hb
      rw [hb']; exact h2⟩
  · have := tn_cells h i (by simp; omega) j y (by rw [List.getElem_append_left hi']; exact hy)
    rw [Nat.zero_add]; exact this
theorem tn_ti {B : Nat} {zs ms : List Nq} {sl : Value} {w : World} (h : TN B zs ms sl w) (i : Nat) (hi : i < zs.length) : TI B w zs[i].1.fr (.slice zs[i].2.1 zs[i].1.fr.length zs[i].2.2) := by
  obtain ⟨g, h1, h2⟩ := (h.1 zs[i] (List.getElem_mem hi)).1
  exact ⟨g, zs[i].2.2, by rw [h1], h2⟩
theorem tn_mark {B : Nat} {zs : List Nq} {g cap n : Nat} {w : World} (h : TN B zs (mkqs 3) (.slice (some ⟨g, 0, none⟩) n cap) w) (k : Nat) (hk : k < 3) : w.cell? ⟨g, (zs.length + k) * 7 + 4, none⟩ = some (.int .i64 (-7000 - (k : Int))) := by
  refine tn_cells h (zs.length + k) (by simp [mkqs_len]; omega) 4 _ ?_
  rw [List.getElem_append_right (by omega)]
  simp only [show zs.length + k - zs.length = k by omega]
  simp [mkqs, mkq, zC, stC]
end Go.Proofs.Ytnhfeakndofokaa
