/- Package grams. -/
import Derived.Test.YtpmkdpjcpimhkaaProg
import Derived.Test.YtpmkdpjcpimhkaaIk
import Derived.Deep.SlicePairs
import Derived.Deep.Slices
import Derived.Laws.IdiomArrays
import Derived.OpenShut
import Derived.WideBlind
import Derived.Great.BuildSlice
import Derived.WalkKit
import Derived.Maps.OwnSet
import Derived.Maps.OwnOps
import Derived.Maps.Own
import Derived.DeepKeys5
import Derived.BigFrame
import Derived.WalkMore
import Derived.ScopeJumps
import Derived.StillTailTactics
import Derived.Stop.BytesEq
import Derived.WalkLawsBesides
import Derived.WalkSpells
import Derived.Outline
import Derived.Lib.Walk
import Derived.Lib.Hide
import Derived.Lib.Slices
import Derived.Lib.Strings
import Derived.RegionTactic
import Derived.LoopTactic
import Derived.Below
import Derived.IntWalk
import Derived.Deep.QuietTactic
import Derived.BigQuiet
import Derived.Deep.MidRow
import Derived.Maps.AppendAt
import Derived.Laws.Rows
import Derived.Laws.Tables
import Derived.Deep.WholeRow
import Derived.Deep.Cut
import Derived.Deep.CutRange
import Derived.Lib.SliceRun
import Derived.Laws.MakeOwn
import Derived.Deep.RegionLaw
import Derived.Deep.RegionLawGrows
import Derived.Deep.RegionHeld3
import Derived.RegionCalls
import Derived.Deep.RegionWith
import Derived.Deep.Light
import Derived.Laws.CopyOwn
import Derived.Laws.ResultCell
namespace Go.Proofs.Ytpmkdpjcpimhkaa
set_option linter.unusedSimpArgs false
set_option linter.unusedVariables false
set_option maxRecDepth 100000
open Go.RowKit
/- alive. -/
open Go.Maps
theorem own_iv {B : Nat} {w : World} {l : List Int} {v : Value} (h : w.ownsRow B 3 1 v l.length (zi l)) : ∃ p c, v = .slice p l.length c ∧ IV (fun b => b < w.heap.size) w l (.slice p l.length c) := by
  have h2 := own_ivD h
  obtain ⟨p, c, rfl, _⟩ := h2
  exact ⟨p, c, rfl, own_ivD h⟩
set_option maxHeartbeats 8000000 in
theorem alive_any (w : World) : Calls Try.prog 14 #[] w fun e w' => e = .returned (.bool true) ∧ Below w.heap.size w w' := by
  have HK := Lib.hid known_any
  have HF := Lib.hid (fun (z : World) (p : Option Addr) (h : GM (fun b => b < z.heap.size) z gK.ps p) => follow_any (c := 4) 5 h (by decide))
  have HI := Lib.hid (fun (z : World) (p : Option Addr) (h : GM (fun b => b < z.heap.size) z gK.ps p) => first_any (c := 4) 4 h (by decide))
  have HC := Lib.hid (fun (z : World) (p : Option Addr) (h : GM (fun b => b < z.heap.size) z gK.ps p) => check_any (c := 4) h (by decide))
  have HE := Lib.hid (fun (z : World) => check_any (D := fun b => b < z.heap.size) (w := z) (g := g0) (p := none) (c := 0) ⟨fun h => absurd rfl h, fun b h => h, by decide, fun q hq => by cases hq⟩ (by decide))
  rw [show askV gK 5 0 = 0 from askK 5 (by decide) (by decide), folK] at HF
  rw [show askV gK 4 0 = 0 from askK 4 (by decide) (by decide), firK] at HI
  rw [chkK] at HC
  rw [chk0] at HE
  have HG : Hid (∀ (w z : World) (p : Option Addr), GM (fun b => w.heap.size ≤ b ∧ b < z.heap.size) z gK.ps p → GM (fun b => b < z.heap.size) z gK.ps p) := Lib.hid (fun w z p h => ⟨h.pv.mono (fun b hb => hb.2) (fun _ _ _ => rfl), fun b hb => hb, h.nl, h.bl⟩)
  have hz := zero24
  have HB0 := Lib.hid (Below.refl w.heap.size w)
  unfold gK at HF HI HC HK
  go_enter Try.func14, Try.ntmps14
  go_wp2_with fail
  refine (HK.out w).mono ?_
  rintro _ w1 ⟨p1, rfl, hg1, hb1⟩
  have HG1 := Lib.hid (HG.out w w1 p1 hg1)
  have HB1 := Lib.hid hb1
  clear hg1 hb1
  go_wp2_with fail
  refine (HF.out w1 p1 HG1.out).mono ?_
  rintro _ w2 ⟨v2, rfl, hown2, hb2⟩
  obtain ⟨q2, c2, rfl, hiv2⟩ := own_iv hown2
  have HV2 := Lib.hid hiv2
  have HB2 := Lib.hid (HB1.out.trans (hb2.mono HB1.out.size))
  clear hown2 hiv2 hb2 HG1
  go_wp2_with fail
  refine (HK.out w2).mono ?_
  rintro _ w3 ⟨p3, rfl, hg3, hb3⟩
  have HG3 := Lib.hid (HG.out w2 w3 p3 hg3)
  have HX3 := Lib.hid hb3
  clear hg3 hb3
  go_wp2_with fail
  refine (HI.out w3 p3 HG3.out).mono ?_
  rintro _ w4 ⟨v4, rfl, hown4, hb4⟩
  obtain ⟨q4, c4, rfl, hiv4⟩ := own_iv hown4
  have HV4 := Lib.hid hiv4
  have HX4 := Lib.hid (HX3.out.trans (hb4.mono HX3.out.size))
  clear hown4 hiv4 hb4 HG3
  go_wp2_with fail
  refine (HK.out w4).mono ?_
  rintro _ w5 ⟨p5, rfl, hg5, hb5⟩
  have HG5 := Lib.hid (HG.out w4 w5 p5 hg5)
  have HX5 := Lib.hid hb5
  clear hg5 hb5
  go_wp2_with fail
  refine (HC.out w5 p5 HG5.out).mono ?_
  rintro _ w6 ⟨rfl, hb6⟩
  have HX6 := Lib.hid (HX5.out.trans (hb6.mono HX5.out.size))
  have HY6 := Lib.hid (HX4.out.trans (HX6.out.mono HX4.out.size))
  clear hb6 HG5
  have HV2b := Lib.hid ((HV2.out).mono (fun _ h => h) (fun b hb _ => HY6.out.block b hb))
  have HV4b := Lib.hid ((HV4.out).mono (fun _ h => h) (fun b hb _ => HX6.out.block b hb))
  have hA6 := (Below.refl w6.heap.size w6).alloc (Nat.le_refl _) (.cells #[.int .i64 0, .int .i64 3, .int .i64 4] 3)
  have HA6 := Lib.hid hA6
  have HS := Lib.hid (same_any (D := fun b => b < w2.heap.size) (E := fun b => b = w6.heap.size) (w := w6.alloc (.cells #[.int .i64 0, .int .i64 3, .int .i64 4] 3)) (a := [0, 3, 4]) (b := [0, 3, 4]) (pa := q2) (ca := c2) (pb := some ⟨w6.heap.size, 0, none⟩) (cb := 3) (by decide) (fun b hb => by have := HY6.out.size; have := HA6.out.size; omega) (fun b hb => by rw [hb]; simp) (HV2b.out.mono (fun _ h => h) (fun b hb h => hA6.block b h)) (iv_box (D := fun b => b = w6.heap.size) (cs := #[.int .i64 0, .int .i64 3, .int .i64 4]) (l := [0, 3, 4]) (heap_alloc_last w6 _) rfl (fun i hi => by have hi : i < 3 := hi; rcases (by omega : i = 0 ∨ i = 1 ∨ i = 2) with rfl | rfl | rfl <;> rfl) 3))
  rw [show decide (([0, 3, 4] : List Int) = [0, 3, 4]) = true from by decide] at HS
  simp only [List.length_cons, List.length_nil, Nat.zero_add, Nat.reduceAdd] at HS
  clear hA6
  go_wp2_with fail
  refine HS.out.mono ?_
  rintro _ w7 ⟨rfl, hb7⟩
  have HX7 := Lib.hid (HA6.out.trans (hb7.mono HA6.out.size))
  clear hb7 HS HA6
  have HV4c := Lib.hid ((HV4b.out).mono (fun _ h => h) (fun b hb h => HX7.out.block b h))
  have hA7 := (Below.refl w7.heap.size w7).alloc (Nat.le_refl _) (.cells #[.int .i64 1, .int .i64 2] 3)
  have HA7 := Lib.hid hA7
  have HS := Lib.hid (same_any (D := fun b => b < w4.heap.size) (E := fun b => b = w7.heap.size) (w := w7.alloc (.cells #[.int .i64 1, .int .i64 2] 3)) (a := [1, 2]) (b := [1, 2]) (pa := q4) (ca := c4) (pb := some ⟨w7.heap.size, 0, none⟩) (cb := 2) (by decide) (fun b hb => by have := HX6.out.size; have := HX7.out.size; have := HA7.out.size; omega) (fun b hb => by rw [hb]; simp) (HV4c.out.mono (fun _ h => h) (fun b hb h => hA7.block b h)) (iv_box (D := fun b => b = w7.heap.size) (cs := #[.int .i64 1, .int .i64 2]) (l := [1, 2]) (heap_alloc_last w7 _) rfl (fun i hi => by have hi : i < 2 := hi; rcases (by omega : i = 0 ∨ i = 1) with rfl | rfl <;> rfl) 2))
  rw [show decide (([1, 2] : List Int) = [1, 2]) = true from by decide] at HS
  simp only [List.length_cons, List.length_nil, Nat.zero_add, Nat.reduceAdd] at HS
  clear hA7
  go_wp2_with fail
  refine HS.out.mono ?_
  rintro _ w8 ⟨rfl, hb8⟩
  have HX8 := Lib.hid (HA7.out.trans (hb8.mono HA7.out.size))
  clear hb8 HS HA7
  go_wp2_with fail
  refine (HE.out w8).mono ?_
  rintro _ w9 ⟨rfl, hb9⟩
  have h8 := HY6.out.trans (HX7.out.mono HY6.out.size)
  have h9 := h8.trans (HX8.out.mono h8.size)
  have HF := Lib.hid (h9.trans (hb9.mono h9.size))
  clear hb9 h8 h9
  go_wp2_with fail
  go_ret
  exact ⟨rfl, HB2.out.trans (HF.out.mono HB2.out.size)⟩
end Go.Proofs.Ytpmkdpjcpimhkaa
