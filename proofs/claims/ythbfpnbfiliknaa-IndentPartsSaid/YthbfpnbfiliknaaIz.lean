/- Package indent. -/
import Derived.Test.YthbfpnbfiliknaaProg
import Derived.Test.YthbfpnbfiliknaaIy
import Derived.Great.BuildSlice
import Derived.WalkKit
import Derived.Maps.OwnSet
import Derived.Maps.OwnOps
import Derived.Maps.Own
import Derived.DeepKeys5
import Derived.BigFrame
import Derived.WalkMore
import Derived.ScopeJumps
import Derived.StillTailTactics
import Derived.Stop.BytesEq
import Derived.WalkLawsBesides
import Derived.WalkSpells
import Derived.Outline
import Derived.Lib.Walk
import Derived.Lib.Hide
import Derived.Lib.Slices
import Derived.Lib.Strings
import Derived.RegionTactic
import Derived.LoopTactic
import Derived.Below
import Derived.IntWalk
import Derived.Deep.QuietTactic
import Derived.BigQuiet
import Derived.Deep.MidRow
import Derived.Maps.AppendAt
import Derived.Laws.Rows
import Derived.Laws.Tables
import Derived.Deep.WholeRow
import Derived.Deep.Cut
import Derived.Deep.CutRange
import Derived.Lib.SliceRun
import Derived.Laws.MakeOwn
import Derived.Deep.RegionLaw
import Derived.Deep.RegionLawGrows
import Derived.Deep.RegionHeld3
import Derived.RegionCalls
import Derived.Deep.RegionWith
import Derived.Deep.Light
import Derived.Laws.CopyOwn
import Derived.Laws.ResultCell
namespace Go.Proofs.Ythbfpnbfiliknaa
set_option linter.unusedSimpArgs false
set_option linter.unusedVariables false
set_option maxRecDepth 100000
open Go.RowKit
/- TwinMark, LeftMark. -/
abbrev rTw (g cap : Nat) (l : List Int) : It := .row (.slice (some ⟨g, 0, none⟩) (l.length + 3) cap) 3 1 (l.length + 3) (zi (l ++ mk7 3))
def TwMP (B : Nat) (w0 : World) (X : List It) (m : Mk) (e : Ending) (w' : World) : Prop := ∃ g cap, e = .returned (.agg (mkA (.slice (some ⟨g, 0, none⟩) m.cols.length cap) m)) ∧ Sep B w0 w' (rTw g cap m.cols :: X)
set_option maxHeartbeats 8000000 in
theorem twinmark_any {B : Nat} {D : Nat → Prop} {w0 w : World} {m : Mk} {p : Option Addr} {c : Nat} {X : List It} (hl : m.cols.length ≤ 1000000) (hD : ∀ b, D b → b < w.heap.size) (hiv : IV D w m.cols (.slice p m.cols.length c)) (hs : Sep B w0 w X) :
    Calls Try.prog 9 #[.agg (mkA (.slice p m.cols.length c) m)] w (TwMP B w0 X m) := by
  obtain ⟨cols, o, kk, fr, ld⟩ := m
  unfold mkA
  simp only [] at hiv hl ⊢
  have hz := zero24
  obtain ⟨bm, hbm⟩ : ∃ b, w.heap.size = b := ⟨_, rfl⟩
  have S3 := Lib.hid ((hs.allocAt hbm (.cells #[.slice p cols.length c, .int .i64 o, .int .i64 kk, .bool fr, .int .i64 ld] 24)).allocAt (b := bm + 1) (by simp [hbm]) (.cells zA 24))
  have hb3 : Below w.heap.size w ((w.alloc (.cells #[.slice p cols.length c, .int .i64 o, .int .i64 kk, .bool fr, .int .i64 ld] 24)).alloc (.cells zA 24)) := ((Below.refl w.heap.size w).alloc (Nat.le_refl _) _).alloc (by simp) _
  have hiv3 := Lib.hid (hiv.mono (D := D) (E := D) (fun b h => h) (fun b hb _ => hb3.block b (hD b hb)))
  have hD3 : Hid (∀ b, D b → b < ((w.alloc (.cells #[.slice p cols.length c, .int .i64 o, .int .i64 kk, .bool fr, .int .i64 ld] 24)).alloc (.cells zA 24)).heap.size) := Lib.hid fun b hb => by have := hD b hb; have := hb3.size; omega
  clear hs hb3 hiv hD
  go_enter Try.func9, Try.ntmps9
  go_upto_region 1 with fail
  refine at_world (fun y => Sep B w0 y (bxM (bm + 1) zA :: bxM bm #[.slice p cols.length c, .int .i64 o, .int .i64 kk, .bool fr, .int .i64 ld] :: X) ∧ IV D y cols (.slice p cols.length c) ∧ ∀ b, D b → b < y.heap.size) ⟨S3.out, hiv3.out, hD3.out⟩ fun y hy => ?_
  have S4 := Lib.hid hy.1
  have HTW := Lib.hid (twin_ints hl hy.2.2 hy.2.1)
  clear S3 hiv3 hD3 hy
  have c0 : y.cell? ⟨bm, 0, none⟩ = some (.slice p cols.length c) := S4.out.tl.boxAt 0
  go_wp2_with fail
  refine HTW.out.mono ?_
  rintro _ w1 ⟨v, rfl, ⟨g, cap, rfl, hrow⟩, hb⟩
  have S5 := Lib.hid (S4.out.add hb hrow)
  clear HTW S4 hb hrow c0
  have c0 : w1.cell? ⟨bm, 0, none⟩ = some (.slice p cols.length c) := S5.out.tl.tl.boxAt 0
  have cf0 : w1.frozen? ⟨bm, 0, none⟩ = false := S5.out.tl.tl.fz 0
  go_upto_region 2 with fail
  refine at_world (fun y => Sep B w0 y (rTw g cap cols :: bxM (bm + 1) zA :: bxM bm #[.slice (some ⟨g, 0, none⟩) cols.length cap, .int .i64 o, .int .i64 kk, .bool fr, .int .i64 ld] :: X)) (S5.out.setAt [_, _] 0 (.slice (some ⟨g, 0, none⟩) cols.length cap)) fun y2 hy2 => ?_
  have S6 := Lib.hid hy2
  clear S5 hy2 c0 cf0
  have c0 : y2.cell? ⟨bm, 0, none⟩ = some (.slice (some ⟨g, 0, none⟩) cols.length cap) := S6.out.tl.tl.boxAt 0
  have c1 : y2.cell? ⟨bm, 1, none⟩ = some (.int .i64 o) := S6.out.tl.tl.boxAt 1
  have c2 : y2.cell? ⟨bm, 2, none⟩ = some (.int .i64 kk) := S6.out.tl.tl.boxAt 2
  have c3 : y2.cell? ⟨bm, 3, none⟩ = some (.bool fr) := S6.out.tl.tl.boxAt 3
  have c4 : y2.cell? ⟨bm, 4, none⟩ = some (.int .i64 ld) := S6.out.tl.tl.boxAt 4
  have z0 : y2.cell? ⟨bm + 1, 0, none⟩ = some (.slice none 0 0) := S6.out.tl.boxAt 0
  have z1 : y2.cell? ⟨bm + 1, 1, none⟩ = some (.int .i64 0) := S6.out.tl.boxAt 1
  have z2 : y2.cell? ⟨bm + 1, 2, none⟩ = some (.int .i64 0) := S6.out.tl.boxAt 2
  have z3 : y2.cell? ⟨bm + 1, 3, none⟩ = some (.bool false) := S6.out.tl.boxAt 3
  have z4 : y2.cell? ⟨bm + 1, 4, none⟩ = some (.int .i64 0) := S6.out.tl.boxAt 4
  have zf0 : y2.frozen? ⟨bm + 1, 0, none⟩ = false := S6.out.tl.fz 0
  have zf1 : y2.frozen? ⟨bm + 1, 1, none⟩ = false := S6.out.tl.fz 1
  have zf2 : y2.frozen? ⟨bm + 1, 2, none⟩ = false := S6.out.tl.fz 2
  have zf3 : y2.frozen? ⟨bm + 1, 3, none⟩ = false := S6.out.tl.fz 3
  have zf4 : y2.frozen? ⟨bm + 1, 4, none⟩ = false := S6.out.tl.fz 4
  have SZ := Lib.hid ((((((S6.out.setAt [_] 0 (.slice (some ⟨g, 0, none⟩) cols.length cap)).setAt [_] 1 (.int .i64 o)).setAt [_] 2 (.int .i64 kk)).setAt [_] 3 (.bool fr)).setAt [_] 4 (.int .i64 ld)))
  clear S6
  go_wp2_with fail
  refine bodyPost_ret (results_cell_row rfl _ _ (bm + 1) 24 _ (0, 0) _ rfl SZ.out.tl.at.2 Try.underlying24 rfl info24) rfl ?_
  exact ⟨g, cap, rfl, SZ.out.sub (List.Sublist.cons_cons _ (.cons _ (.cons _ (.refl _))))⟩
set_option maxHeartbeats 8000000 in
theorem leftmark_any {B : Nat} {E : Nat → Prop} {w : World} {m : Mk} {g cap : Nat} {p : Option Addr} {c : Nat} (hl : m.cols.length ≤ 1000000) (hE : ∀ b, E b → b < w.heap.size) (ht : w.ownsRow B 3 1 (.slice (some ⟨g, 0, none⟩) (m.cols.length + 3) cap) (m.cols.length + 3) (zi (m.cols ++ mk7 3))) (h : IV E w m.cols (.slice p m.cols.length c)) :
    Calls Try.prog 15 #[.agg (mkA (.slice (some ⟨g, 0, none⟩) m.cols.length cap) m), .agg (mkA (.slice p m.cols.length c) m)] w fun e w' => e = .returned (.bool true) ∧ Below w.heap.size w w' := by
  have hgl := (ti_row ht).2.2.2.2
  obtain ⟨bm, hbm⟩ : ∃ b, w.heap.size = b := ⟨_, rfl⟩
  have HSM := Lib.hid (fun (z : World) (hz : Below w.heap.size w z) => samemark_any (w := z) (m := m) (D := fun b => b = g) (E := E) (by omega) (fun b hb => by rw [hb]; exact Nat.lt_of_lt_of_le hgl hz.size) (fun b hb => Nat.lt_of_lt_of_le (hE b hb) hz.size) ((ti_iv ht).mono (D := fun b => b = g) (E := fun b => b = g) (fun b h => h) (fun b hb _ => by rw [hb]; exact hz.block g hgl)) (h.mono (D := E) (E := E) (fun b h => h) (fun b hb _ => hz.block b (hE b hb))))
  have HLI := Lib.hid (fun (z : World) (hz : Below w.heap.size w z) => left_ints (w := z) (E := E) (B := B) (v := .slice (some ⟨g, 0, none⟩) m.cols.length cap) hl (fun b hb => Nat.lt_of_lt_of_le (hE b hb) hz.size) ⟨g, cap, rfl, World.ownsRow.kept ht (row := none) ⟨hz.os, hz.tape, hz.output, hz.size, fun k hk _ => hz.block k hk⟩ (.inr (by simp [Value.ownBlock]))⟩ (h.mono (D := E) (E := E) (fun b h => h) (fun b hb _ => hz.block b (hE b hb))))
  obtain ⟨cols, o, kk, fr, ld⟩ := m
  unfold mkA at HSM ⊢
  simp only [] at HSM HLI ⊢
  have S3 := Lib.hid (((Sep.start w).allocAt hbm (.cells #[.slice (some ⟨g, 0, none⟩) cols.length cap, .int .i64 o, .int .i64 kk, .bool fr, .int .i64 ld] 24)).allocAt (b := bm + 1) (by simp [hbm]) (.cells #[.slice p cols.length c, .int .i64 o, .int .i64 kk, .bool fr, .int .i64 ld] 24))
  clear ht h hE hgl hl
  go_enter Try.func15, Try.ntmps15
  go_upto_region 1 with fail
  refine at_world (fun y => Sep w.heap.size w y [bxM (bm + 1) #[.slice p cols.length c, .int .i64 o, .int .i64 kk, .bool fr, .int .i64 ld], bxM bm #[.slice (some ⟨g, 0, none⟩) cols.length cap, .int .i64 o, .int .i64 kk, .bool fr, .int .i64 ld]]) S3.out fun y hy => ?_
  have S4 := Lib.hid hy
  have hbmk := hbm
  clear S3 hy hbm
  have c0 : y.cell? ⟨bm, 0, none⟩ = some (.slice (some ⟨g, 0, none⟩) cols.length cap) := S4.out.tl.boxAt 0
  have c1 : y.cell? ⟨bm, 1, none⟩ = some (.int .i64 o) := S4.out.tl.boxAt 1
  have c2 : y.cell? ⟨bm, 2, none⟩ = some (.int .i64 kk) := S4.out.tl.boxAt 2
  have c3 : y.cell? ⟨bm, 3, none⟩ = some (.bool fr) := S4.out.tl.boxAt 3
  have c4 : y.cell? ⟨bm, 4, none⟩ = some (.int .i64 ld) := S4.out.tl.boxAt 4
  have d0 : y.cell? ⟨bm + 1, 0, none⟩ = some (.slice p cols.length c) := S4.out.boxAt 0
  have d1 : y.cell? ⟨bm + 1, 1, none⟩ = some (.int .i64 o) := S4.out.boxAt 1
  have d2 : y.cell? ⟨bm + 1, 2, none⟩ = some (.int .i64 kk) := S4.out.boxAt 2
  have d3 : y.cell? ⟨bm + 1, 3, none⟩ = some (.bool fr) := S4.out.boxAt 3
  have d4 : y.cell? ⟨bm + 1, 4, none⟩ = some (.int .i64 ld) := S4.out.boxAt 4
  go_wp2_with fail
  refine (HSM.out _ S4.out.bel).mono ?_
  rintro _ w1 ⟨rfl, hb⟩
  have S5 := Lib.hid (S4.out.up hb)
  clear hb S4 HSM c0 c1 c2 c3 c4 d0 d1 d2 d3 d4
  have c0 : w1.cell? ⟨bm, 0, none⟩ = some (.slice (some ⟨g, 0, none⟩) cols.length cap) := S5.out.tl.boxAt 0
  have d0 : w1.cell? ⟨bm + 1, 0, none⟩ = some (.slice p cols.length c) := S5.out.boxAt 0
  go_wp2_with fail
  refine (HLI.out _ S5.out.bel).mono ?_
  rintro _ w2 ⟨rfl, hb⟩
  have S6 := Lib.hid (S5.out.up hb)
  clear hb S5 HLI c0 d0
  go_wp2_with fail
  go_ret
  exact ⟨rfl, S6.out.bel⟩
end Go.Proofs.Ythbfpnbfiliknaa
