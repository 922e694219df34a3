/- Package indent. -/
import Derived.Test.YthbfpnbfiliknaaProg
import Derived.Test.YthbfpnbfiliknaaIc
import Derived.Great.BuildSlice
import Derived.WalkKit
import Derived.Maps.OwnSet
import Derived.Maps.OwnOps
import Derived.Maps.Own
import Derived.DeepKeys5
import Derived.BigFrame
import Derived.WalkMore
import Derived.ScopeJumps
import Derived.StillTailTactics
import Derived.Stop.BytesEq
import Derived.WalkLawsBesides
import Derived.WalkSpells
import Derived.Outline
import Derived.Lib.Walk
import Derived.Lib.Hide
import Derived.Lib.Slices
import Derived.Lib.Strings
import Derived.RegionTactic
import Derived.LoopTactic
import Derived.Below
import Derived.IntWalk
import Derived.Deep.QuietTactic
import Derived.BigQuiet
import Derived.Deep.MidRow
import Derived.Maps.AppendAt
import Derived.Laws.Rows
import Derived.Laws.Tables
import Derived.Deep.WholeRow
import Derived.Deep.Cut
import Derived.Deep.CutRange
import Derived.Lib.SliceRun
import Derived.Laws.MakeOwn
import Derived.Deep.RegionLaw
import Derived.Deep.RegionLawGrows
import Derived.Deep.RegionHeld3
import Derived.RegionCalls
import Derived.Deep.RegionWith
import Derived.Deep.Light
import Derived.Laws.CopyOwn
import Derived.Laws.ResultCell
namespace Go.Proofs.Ythbfpnbfiliknaa
set_option linter.unusedSimpArgs false
set_option linter.unusedVariables false
set_option maxRecDepth 100000
open Go.RowKit
/- MarkInts. -/
structure Only (g : Option Nat) (w w' : World) : Prop where
  os : w'.os = w.os
  tape : w'.tape = w.tape
  output : w'.output = w.output
  size : w'.heap.size = w.heap.size
  block : ∀ k, some k ≠ g → w'.heap[k]? = w.heap[k]?
theorem Only.refl (g : Option Nat) (w : World) : Only g w w := ⟨rfl, rfl, rfl, rfl, fun _ _ => rfl⟩
theorem Only.set {w w' : World} {g : Nat} (h : Only (some g) w w') (i : Nat) (v : Value) : Only (some g) w (w'.setCell ⟨g, i, none⟩ v) :=
  ⟨h.os, h.tape, h.output, by simpa using h.size, fun k hk => (heap_setCell_other w' _ k v (fun e => hk (by rw [e]))).trans (h.block k hk)⟩
theorem Only.below {B : Nat} {g : Option Nat} {w0 w w' : World} (h : Only g w w') (hb : Below B w0 w) (hg : ∀ k, g = some k → B ≤ k) : Below B w0 w' :=
  ⟨h.os.trans hb.os, h.tape.trans hb.tape, h.output.trans hb.output, by rw [h.size]; exact hb.size, fun k hk => (h.block k (fun e => by have := hg k e.symm; omega)).trans (hb.block k hk)⟩
def mkn (n k : Nat) : List Int := (List.range k).map fun i : Nat => (-(n : Int) - (i : Int) - 1)
theorem mkn_len (n k : Nat) : (mkn n k).length = k := by simp [mkn]
set_option maxHeartbeats 8000000 in
theorem mark_any {B n : Nat} {w : World} {l : List Int} {v : Value} (hn : n ≤ 1000000) (hl : l.length ≤ 1000000) (h : w.ownsRow B 3 1 v l.length (zi l)) :
    Calls Try.prog 14 #[v, .int .i64 (n : Nat)] w fun e w' => e = .returned (.int .i64 ((n + l.length : Nat) : Int)) ∧ Only v.ownBlock w w' ∧ w'.ownsRow B 3 1 v l.length (zi (mkn n l.length)) := by
  by_cases h0 : l.length = 0
  · obtain ⟨p, c, rfl⟩ := row_form h
    have hl0 : l = [] := List.length_eq_zero_iff.1 h0
    subst hl0
    have H := Lib.hid h
    clear h h0 hl
    have hI : ¬ ((([] : List Int).length : Nat) : Int) < ((([] : List Int).length : Nat) : Int) := by simp
    go_enter Try.func14, Try.ntmps14
    go_wp2_with fail
    go_loopw [5] (fun i wr => i = .int .i64 0 ∧ wr = w) (fun _ _ => 0)
    case atStart => exact ⟨rfl, rfl⟩
    case round =>
    obtain ⟨rfl, rfl⟩ := hrel
    go_wp2_with fail
    go_ret
    exact ⟨by simp, Only.refl _ _, H.out⟩
  · obtain ⟨g, cap, cs, rfl, h1, h2, h3, h4, h5, h6⟩ : ∃ g cap cs, v = .slice (some ⟨g, 0, none⟩) l.length cap ∧ B ≤ g ∧ w.heap[g]? = some (.cells cs 3 (0, 0)) ∧ l.length ≤ cap ∧ cap ≤ maxLen ∧ cs.size = cap ∧ True := by
      rcases h.2 with ⟨_, e⟩ | ⟨g, cap, cur, hv, h1, h2, h3, h4, h5, _⟩
      · exact absurd e h0
      · exact ⟨g, cap, cur, hv, h1, h2, h3, h4, by omega, trivial⟩
    have H0 : Hid (∃ cs : Array Value, w.heap[g]? = some (.cells cs 3 (0, 0)) ∧ cs.size = cap ∧ ∀ k, k < 0 → cs[k]? = some (.int .i64 (-(n : Int) - (k : Int) - 1))) := Lib.hid ⟨cs, h2, h5, fun k hk => by omega⟩
    have HO := Lib.hid (Only.refl (some g) w)
    have HF := Lib.hid (And.intro h1 (And.intro h3 h4))
    clear h h0 h1 h2 h3 h4 h5 h6
    obtain ⟨m, hm⟩ : ∃ m, l.length = m := ⟨_, rfl⟩
    rw [hm] at hl HF ⊢
    clear hm
    go_enter Try.func14, Try.ntmps14
    go_wp2_with fail
    go_loopw [5] (fun i wr => ∃ j : Nat, i = .int .i64 (j : Nat) ∧ j ≤ m ∧ Hid (∃ cs : Array Value, wr.heap[g]? = some (.cells cs 3 (0, 0)) ∧ cs.size = cap ∧ ∀ k, k < j → cs[k]? = some (.int .i64 (-(n : Int) - (k : Int) - 1))) ∧ Hid (Only (some g) w wr)) (fun i _ => m - (intOf i).toNat)
    case atStart => exact ⟨0, rfl, by omega, H0, HO⟩
    case round =>
    clear H0 HO
    obtain ⟨j, rfl, hj, HC, HO⟩ := hrel
    obtain ⟨wo, rfl⟩ : ∃ wo : World, wo = wr := ⟨_, rfl⟩
    by_cases hlt : j < m
    · have hltI : (j : Int) < (m : Int) := by omega
      have hjI : ¬ (j : Int) < 0 := by omega
      obtain ⟨cs, k1, k2, k3⟩ := HC.out
      have hcap := HF.out.2.1
      obtain ⟨old, hold⟩ : ∃ old, cs[j]? = some old := ⟨cs[j]'(by omega), Array.getElem?_eq_getElem (by omega)⟩
      have cj : wo.cell? ⟨g, j, none⟩ = some old := by rw [cell_of_row wo g j _ 3 (0, 0) k1]; exact hold
      have cf : wo.frozen? ⟨g, j, none⟩ = false := frozen_of_row wo g j _ 3 k1
      have HC2 : Hid (∃ cs : Array Value, (wo.setCell ⟨g, j, none⟩ (.int .i64 (-(n : Int) - (j : Int) - 1))).heap[g]? = some (.cells cs 3 (0, 0)) ∧ cs.size = cap ∧ ∀ k, k < j + 1 → cs[k]? = some (.int .i64 (-(n : Int) - (k : Int) - 1))) := Lib.hid ⟨cs.setIfInBounds j (.int .i64 (-(n : Int) - (j : Int) - 1)), heap_setCell_same wo g j cs 3 _ k1, by simpa using k2, fun k hk => by
        rw [Array.getElem?_setIfInBounds]
        by_cases e : j = k
        · subst e; rw [if_pos rfl, if_pos (by omega)]
        · rw [if_neg e]; exact k3 k (by omega)⟩
      have HO2 := Lib.hid (HO.out.set j (.int .i64 (-(n : Int) - (j : Int) - 1)))
      clear HC HO k1 k2 k3 hold hcap
      go_wp2_with fail
      go_roundw
      case rel => exact ⟨j + 1, by go_num, by omega, HC2, HO2⟩
      case measure => simp [intOf]; omega
    · obtain rfl : j = m := by omega
      have hltI : ¬ (j : Int) < (j : Int) := by omega
      obtain ⟨cs, k1, k2, k3⟩ := HC.out
      have hf := HF.out
      have HW : Hid (wo.ownsRow B 3 1 (.slice (some ⟨g, 0, none⟩) j cap) j (zi (mkn n j))) := Lib.hid ⟨by simp [zi, mkn], .inr ⟨g, cap, cs, rfl, hf.1, k1, hf.2.1, hf.2.2, by omega, by
        apply List.ext_getElem?
        intro i
        rw [Nat.mul_one, List.getElem?_take]
        by_cases hi : i < j
        · rw [if_pos hi, Array.getElem?_toList, k3 i hi]
          simp [zi, mkn, hi]
        · rw [if_neg hi, List.getElem?_eq_none (by simp [zi, mkn]; omega)]⟩⟩
      clear HC k1 k2 k3 hf
      go_wp2_with fail
      go_ret
      exact ⟨by first | rfl | (congr 2; omega), HO.out, HW.out⟩
theorem own_iv {B : Nat} {w : World} {l : List Int} {v : Value} (h : w.ownsRow B 3 1 v l.length (zi l)) : IV (fun b => B ≤ b ∧ b < w.heap.size ∧ some b = v.ownBlock) w l v := by
  rcases h.2 with ⟨rfl, h0⟩ | ⟨g, cap, cur, rfl, h1, h2, h3, h4, h5, h6⟩
  · have : l = [] := List.length_eq_zero_iff.1 h0
    subst this
    exact IV.nil _ _ _ _
  · refine ⟨_, _, rfl, fun _ => ⟨g, 0, rfl, ⟨h1, (Array.getElem?_eq_some_iff.1 h2).1, rfl⟩, fun i hi => ?_⟩⟩
    have := h.cells (g := g) rfl i (.int .i64 l[i]) (by simp [zi, hi])
    rwa [Addr.add_mid] at this
end Go.Proofs.Ythbfpnbfiliknaa
