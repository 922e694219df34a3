/- Package grams. -/
import Derived.Test.YtpmkdpjcpimhkaaProg
import Derived.Test.YtpmkdpjcpimhkaaIg
import Derived.Deep.SlicePairs
import Derived.Deep.Slices
import Derived.Laws.IdiomArrays
import Derived.OpenShut
import Derived.WideBlind
import Derived.Great.BuildSlice
import Derived.WalkKit
import Derived.Maps.OwnSet
import Derived.Maps.OwnOps
import Derived.Maps.Own
import Derived.DeepKeys5
import Derived.BigFrame
import Derived.WalkMore
import Derived.ScopeJumps
import Derived.StillTailTactics
import Derived.Stop.BytesEq
import Derived.WalkLawsBesides
import Derived.WalkSpells
import Derived.Outline
import Derived.Lib.Walk
import Derived.Lib.Hide
import Derived.Lib.Slices
import Derived.Lib.Strings
import Derived.RegionTactic
import Derived.LoopTactic
import Derived.Below
import Derived.IntWalk
import Derived.Deep.QuietTactic
import Derived.BigQuiet
import Derived.Deep.MidRow
import Derived.Maps.AppendAt
import Derived.Laws.Rows
import Derived.Laws.Tables
import Derived.Deep.WholeRow
import Derived.Deep.Cut
import Derived.Deep.CutRange
import Derived.Lib.SliceRun
import Derived.Laws.MakeOwn
import Derived.Deep.RegionLaw
import Derived.Deep.RegionLawGrows
import Derived.Deep.RegionHeld3
import Derived.RegionCalls
import Derived.Deep.RegionWith
import Derived.Deep.Light
import Derived.Laws.CopyOwn
import Derived.Laws.ResultCell
namespace Go.Proofs.Ytpmkdpjcpimhkaa
set_option linter.unusedSimpArgs false
set_option linter.unusedVariables false
set_option maxRecDepth 100000
open Go.RowKit
/- known. -/
open Go.Maps
def gK : Gr := ⟨4, 6, 4, [⟨4, [4, 0, 5], false⟩, ⟨4, [5], false⟩, ⟨5, [1], false⟩, ⟨5, [2, 4, 3], false⟩]⟩
theorem zero24 : ∀ w, (zeroValue 24).run Try.prog w = .ok (.agg #[.int .i64 0, .int .i64 0, .int .i64 0, .slice none 0 0]) w := (zero_of_info (show (Try.prog.info? 24).map (fun i => (i.zero, i.size)) = some (some (.agg #[.int .i64 0, .int .i64 0, .int .i64 0, .slice none 0 0]), 4) by kernel_rfl)).1
theorem info24 : (Try.prog.info? 24).map (·.size) = some 4 := by kernel_rfl
def kRow (b : Nat) : Array Value := #[.int .i64 4, .slice (some ⟨b + 1, 0, none⟩) 3 3, .bool false, .int .i64 4, .slice (some ⟨b + 1 + 1, 0, none⟩) 1 1, .bool false, .int .i64 5, .slice (some ⟨b + 1 + 1 + 1, 0, none⟩) 1 1, .bool false, .int .i64 5, .slice (some ⟨b + 1 + 1 + 1 + 1, 0, none⟩) 3 3, .bool false]
theorem iv_box {D : Nat → Prop} {w : World} {b : Nat} {l : List Int} {cs : Array Value} (h : w.heap[b]? = some (.cells cs 3 (0, 0))) (hD : D b) (hc : ∀ i (h : i < l.length), cs[i]? = some (.int .i64 l[i])) (c : Nat) : IV D w l (.slice (some ⟨b, 0, none⟩) l.length c) :=
  ⟨_, _, rfl, fun _ => ⟨b, 0, rfl, hD, fun i hi => by rw [Nat.zero_add]; exact (cell_of_row w b i _ 3 (0, 0) h).trans (hc i hi)⟩⟩
theorem known_gm {D : Nat → Prop} {w : World} {b : Nat} (hD : ∀ x, D x → x < w.heap.size) (hb : ∀ k, k ≤ 5 → D (b + k)) (h1 : w.heap[b + 1]? = some (.cells #[.int .i64 4, .int .i64 0, .int .i64 5] 3 (0, 0))) (h2 : w.heap[b + 1 + 1]? = some (.cells #[.int .i64 5] 3 (0, 0))) (h3 : w.heap[b + 1 + 1 + 1]? = some (.cells #[.int .i64 1] 3 (0, 0)))
    (h4 : w.heap[b + 1 + 1 + 1 + 1]? = some (.cells #[.int .i64 2, .int .i64 4, .int .i64 3] 3 (0, 0))) (h5 : w.heap[b + 1 + 1 + 1 + 1 + 1]? = some (.cells (kRow b) 38 (0, 0))) : GM D w gK.ps (some ⟨b + 1 + 1 + 1 + 1 + 1, 0, none⟩) := by
  refine ⟨fun _ => ⟨_, _, rfl, hb 5 (by omega), fun i hi => ?_⟩, hD, by decide, by decide⟩
  have hr : ∀ j, w.cell? ⟨b + 1 + 1 + 1 + 1 + 1, j, none⟩ = (kRow b)[j]? := fun j => cell_of_row w _ j _ 38 (0, 0) h5
  have hi : i < 4 := hi
  rcases (by omega : i = 0 ∨ i = 1 ∨ i = 2 ∨ i = 3) with rfl | rfl | rfl | rfl
  · exact ⟨_, 3, hr _, hr _, hr _, iv_box h1 (hb 1 (by omega)) (fun i hi => by have hi : i < 3 := hi; rcases (by omega : i = 0 ∨ i = 1 ∨ i = 2) with rfl | rfl | rfl <;> rfl) _, Nat.le_refl _⟩
  · exact ⟨_, 1, hr _, hr _, hr _, iv_box h2 (hb 2 (by omega)) (fun i hi => by have hi : i < 1 := hi; rcases (by omega : i = 0) with rfl; rfl) _, Nat.le_refl _⟩
  · exact ⟨_, 1, hr _, hr _, hr _, iv_box h3 (hb 3 (by omega)) (fun i hi => by have hi : i < 1 := hi; rcases (by omega : i = 0) with rfl; rfl) _, Nat.le_refl _⟩
  · exact ⟨_, 3, hr _, hr _, hr _, iv_box h4 (hb 4 (by omega)) (fun i hi => by have hi : i < 3 := hi; rcases (by omega : i = 0 ∨ i = 1 ∨ i = 2) with rfl | rfl | rfl <;> rfl) _, Nat.le_refl _⟩
set_option maxHeartbeats 4000000 in
theorem known_any (w : World) : Calls Try.prog 37 #[] w fun e w' => ∃ p, e = .returned (.agg #[.int .i64 gK.t, .int .i64 gK.s, .int .i64 gK.st, .slice p gK.ps.length 4]) ∧ GM (fun b => w.heap.size ≤ b ∧ b < w'.heap.size) w' gK.ps p ∧ Below w.heap.size w w' := by
  have hz := zero24
  have hz3 := zero38
  have S0 := Lib.hid ((Sep.start w).alloc (.cells #[.int .i64 4, .int .i64 6, .int .i64 4, .slice (some ⟨w.heap.size + 1 + 1 + 1 + 1 + 1, 0, none⟩) 4 4] 24))
  have S1 := Lib.hid (S0.out.allocAt (b := w.heap.size + 1) (by simp) (.cells #[.int .i64 4, .int .i64 0, .int .i64 5] 3))
  have S2 := Lib.hid (S1.out.allocAt (b := w.heap.size + 1 + 1) (by simp) (.cells #[.int .i64 5] 3))
  have S3 := Lib.hid (S2.out.allocAt (b := w.heap.size + 1 + 1 + 1) (by simp) (.cells #[.int .i64 1] 3))
  have S4 := Lib.hid (S3.out.allocAt (b := w.heap.size + 1 + 1 + 1 + 1) (by simp) (.cells #[.int .i64 2, .int .i64 4, .int .i64 3] 3))
  have S5 := Lib.hid (S4.out.allocAt (b := w.heap.size + 1 + 1 + 1 + 1 + 1) (by simp) (.cells (kRow w.heap.size) 38))
  clear S0 S1 S2 S3 S4
  go_enter Try.func37, Try.ntmps37
  go_wp2_with fail
  refine bodyPost_ret (v := .agg #[.int .i64 4, .int .i64 6, .int .i64 4, .slice (some ⟨w.heap.size + 1 + 1 + 1 + 1 + 1, 0, none⟩) 4 4]) (results_cell_row rfl _ _ w.heap.size 24 _ (0, 0) _ rfl S5.out.tl.tl.tl.tl.tl.at.2 Try.underlying24 rfl (by rw [info24]; rfl)) rfl ?_
  refine ⟨_, rfl, known_gm (b := w.heap.size) (fun x hx => hx.2) (fun k hk => ⟨by omega, by simp; omega⟩) S5.out.tl.tl.tl.tl.at.2 S5.out.tl.tl.tl.at.2 S5.out.tl.tl.at.2 S5.out.tl.at.2 S5.out.at.2, S5.out.bel⟩
end Go.Proofs.Ytpmkdpjcpimhkaa
