/- Package indent. -/
import Derived.Test.YthbfpnbfiliknaaProg
import Derived.Test.YthbfpnbfiliknaaJd
import Derived.Test.YthbfpnbfiliknaaJa
import Derived.Great.BuildSlice
import Derived.WalkKit
import Derived.Maps.OwnSet
import Derived.Maps.OwnOps
import Derived.Maps.Own
import Derived.DeepKeys5
import Derived.BigFrame
import Derived.WalkMore
import Derived.ScopeJumps
import Derived.StillTailTactics
import Derived.Stop.BytesEq
import Derived.WalkLawsBesides
import Derived.WalkSpells
import Derived.Outline
import Derived.Lib.Walk
import Derived.Lib.Hide
import Derived.Lib.Slices
import Derived.Lib.Strings
import Derived.RegionTactic
import Derived.LoopTactic
import Derived.Below
import Derived.IntWalk
import Derived.Deep.QuietTactic
import Derived.BigQuiet
import Derived.Deep.MidRow
import Derived.Maps.AppendAt
import Derived.Laws.Rows
import Derived.Laws.Tables
import Derived.Deep.WholeRow
import Derived.Deep.Cut
import Derived.Deep.CutRange
import Derived.Lib.SliceRun
import Derived.Laws.MakeOwn
import Derived.Deep.RegionLaw
import Derived.Deep.RegionLawGrows
import Derived.Deep.RegionHeld3
import Derived.RegionCalls
import Derived.Deep.RegionWith
import Derived.Deep.Light
import Derived.Laws.CopyOwn
import Derived.Laws.ResultCell
namespace Go.Proofs.Ythbfpnbfiliknaa
set_option linter.unusedSimpArgs false
set_option linter.unusedVariables false
set_option maxRecDepth 100000
open Go.RowKit
/- IndentSteps. -/
theorem Sep.wr {B g n cap : Nat} {w0 w : World} {xs : List Value} {L : List It} (h : Sep B w0 w (.row (.slice (some ⟨g, 0, none⟩) n cap) 35 3 n xs :: L)) {j : Nat} (hj : j < n * 3) (v : Value) : (∃ u, w.cell? ⟨g, j, none⟩ = some u) ∧ w.frozen? ⟨g, j, none⟩ = false ∧ ∃ xs', Sep B w0 (w.setCell ⟨g, j, none⟩ v) (.row (.slice (some ⟨g, 0, none⟩) n cap) 35 3 n xs' :: L) := by
  obtain ⟨hlen, hor⟩ := (h.at : World.ownsRow _ _ _ _ _ _ _)
  rcases hor with ⟨e, _⟩ | ⟨g', cap', cur, hv, h1, h2, h3, h4, h5, h6⟩
  · cases e
  · injection hv with e1 e2 e3
    injection e1 with e1
    injection e1 with e1 e4 e5
    subst e1 e3
    have hjc : j < cur.size := by rw [h5]; have := Nat.mul_le_mul_right 3 h3; omega
    refine ⟨⟨cur[j], by rw [cell_of_row w g j _ 35 (0, 0) h2]; exact Array.getElem?_eq_getElem hjc⟩, frozen_of_row w g j _ 35 h2, (cur.setIfInBounds j v).toList.take (n * 3), ?_⟩
    refine h.rep (x' := .row (.slice (some ⟨g, 0, none⟩) n cap) 35 3 n ((cur.setIfInBounds j v).toList.take (n * 3))) ⟨rfl, rfl, rfl, by simp, fun k hk hne => heap_setCell_other w _ k _ (fun e => hne (by rw [e]; rfl))⟩ ?_ (fun b hb => .inl hb)
    refine ⟨?_, .inr ⟨g, cap, cur.setIfInBounds j v, rfl, h1, heap_setCell_same w g j cur 35 v h2, h3, h4, by simpa using h5, rfl⟩⟩
    rw [List.length_take]; simp only [Array.toList_setIfInBounds, List.length_set, Array.length_toList]; rw [h5]; have := Nat.mul_le_mul_right 3 h3; omega
set_option maxHeartbeats 8000000 in
theorem has_any {B n : Nat} {w : World} {l : List Int} {m : Nat} {v : Value} (hn : n ≤ 1000000) (hl : m ≤ 1000000) (h : w.ownsRow B 3 1 v m (zi (mkn n m))) :
    Calls Try.prog 16 #[v, .int .i64 (n : Nat)] w fun e w' => e = .returned (.bool true) ∧ w' = w := by
  obtain ⟨p, c, rfl⟩ := row_form h
  have HC : Hid (∀ j, j < m → ∃ g, p = some ⟨g, 0, none⟩ ∧ w.cell? ⟨g, j, none⟩ = some (.int .i64 (-(n : Int) - (j : Int) - 1))) := Lib.hid fun j hj => by
    obtain ⟨g, cap, hv, -⟩ := row_own h (by omega)
    injection hv with e1 e2 e3
    subst e1
    have h1 := h.cells (g := g) rfl j (.int .i64 (-(n : Int) - (j : Int) - 1)) (by simp [zi, mkn, hj])
    rw [Addr.add_mid, Nat.zero_add] at h1
    exact ⟨g, rfl, h1⟩
  clear h
  go_enter Try.func16, Try.ntmps16
  go_wp2_with fail
  go_loopw [5] (fun i wr => ∃ j : Nat, i = .int .i64 (j : Nat) ∧ j ≤ m ∧ wr = w) (fun i _ => m - (intOf i).toNat)
  case atStart => exact ⟨0, rfl, by omega, rfl⟩
  case round =>
  obtain ⟨j, rfl, hj, rfl⟩ := hrel
  by_cases hlt : j < m
  · have hltI : (j : Int) < (m : Int) := by omega
    have hjI : ¬ (j : Int) < 0 := by omega
    obtain ⟨g, rfl, hc⟩ := HC.out j hlt
    have hne : ((-(n : Int) - (j : Int) - 1) != (-(n : Int) - (j : Int) - 1)) = false := by simp
    go_wp2_with fail
    go_roundw
    case rel => exact ⟨j + 1, by go_num, by omega, by first | rfl | trivial⟩
    case measure => simp [intOf]; omega
  · obtain rfl : j = m := by omega
    have hltI : ¬ (j : Int) < (j : Int) := by omega
    go_wp2_with fail
    go_ret
    exact ⟨rfl, rfl⟩
theorem stQ_len (m : Mk) (s : ByteArray) (k n : Int) : (stQ m s k n).1.cols.length ≤ 4097 ∧ (stQ m s k n).2.length ≤ 4099 := by
  unfold stQ
  split
  · rename_i h
    have hm := mayB_may h.1
    have h1 := (stepF_may hm (madeB_iff.1 h.2) (k := k)).len
    have h2 := stepF_len m (bl s) k n
    have := hm.len
    exact ⟨h1, by omega⟩
  · simp
set_option maxHeartbeats 64000000 in
theorem steps_any {D : Nat → Prop} {w : World} {m : Mk} {k n lk : Int} {s : ByteArray} {p : Option Addr} {c : Nat} (hl : m.cols.length ≤ 9223372036854775806) (hss : s.size ≤ 9223372036854775806) (hD : ∀ b, D b → b < w.heap.size) (hiv : IV D w m.cols (.slice p m.cols.length c)) :
    Calls Try.prog 3 #[.agg (mkA (.slice p m.cols.length c) m), .string s, .agg (rwV k n lk)] w fun e w' => e = .returned (.bool true) ∧ Below w.heap.size w w' := by
  have HIV := Lib.hid (fun (z : World) (hz : Below w.heap.size w z) => And.intro (hiv.mono (D := D) (E := D) (w' := z) (fun b h => h) (fun b hb _ => hz.block b (hD b hb))) (fun b hb => Nat.lt_of_lt_of_le (hD b hb) hz.size : ∀ b, D b → b < z.heap.size))
  have HTM := Lib.hid (fun (z : World) (Y : List It) (hz : Sep w.heap.size w z Y) (h10 : m.cols.length ≤ 1000000) => twinmark_any h10 (HIV.out z hz.bel).2 (HIV.out z hz.bel).1 hz)
  have HST := Lib.hid (fun (z : World) (Y : List It) (g cap : Nat) (hin : rTw g cap m.cols ∈ Y) (hz : Sep w.heap.size w z Y) => step_any (w := z) (m := m) (s := s) (k := k) (n := n) (lk := lk) (D := fun b => b = g) hl hss (fun b hb => by rw [hb]; exact (ti_row (hz.li _ hin)).2.2.2.2) (ti_iv (hz.li _ hin)) hz)
  have HRS := Lib.hid (fun (z : World) (Y : List It) (hz : Sep w.heap.size w z Y) => rstep_any (w := z) (m := m) (s := s) (k := k) (n := n) (lk := lk) hl hss (HIV.out z hz.bel).2 (HIV.out z hz.bel).1 hz)
  have HLM := Lib.hid (fun (z : World) (Y : List It) (g cap : Nat) (h10 : m.cols.length ≤ 1000000) (hin : rTw g cap m.cols ∈ Y) (hz : Sep w.heap.size w z Y) => leftmark_any (w := z) (m := m) h10 (HIV.out z hz.bel).2 (hz.li _ hin) (HIV.out z hz.bel).1)
  have hql := stQ_len m s k n
  obtain ⟨⟨⟨c5, o5, k5, f5, l5⟩, tk⟩, hQ⟩ : ∃ q, stQ m s k n = q := ⟨_, rfl⟩
  rw [hQ] at HST HRS hql
  simp only [] at hql
  obtain ⟨hq1, hq2⟩ := hql
  clear hQ hiv hD
  obtain ⟨cols, o, kk, fr, ld⟩ := m
  unfold StepP mkA rwV at HST HRS
  unfold TwMP mkA at HTM
  unfold mkA at HLM
  unfold mkA rwV
  simp only [] at HTM HST HRS HLM HIV hl ⊢
  have hz := zero24
  obtain ⟨bm, hbm⟩ : ∃ b, w.heap.size = b := ⟨_, rfl⟩
  have S1 := Lib.hid (((Sep.start w).allocAt hbm (.cells #[.slice p cols.length c, .int .i64 o, .int .i64 kk, .bool fr, .int .i64 ld] 24)).allocAt (b := bm + 1) (by simp [hbm]) (.cells #[.int .i64 k, .int .i64 n, .int .i64 lk] 26))
  by_cases hbig : 10000 < cols.length
  · have hI : (10000 : Int) < (cols.length : Int) := by omega
    go_enter Try.func3, Try.ntmps3
    go_wp2_with fail
    go_ret
    exact ⟨rfl, S1.out.bel⟩
  have hI : ¬ (10000 : Int) < (cols.length : Int) := by omega
  have h10 : cols.length ≤ 1000000 := by omega
  go_enter Try.func3, Try.ntmps3
  go_upto_region 3 with fail
  refine at_world (fun y => Sep w.heap.size w y [bxR (bm + 1) #[.int .i64 k, .int .i64 n, .int .i64 lk], bxM bm #[.slice p cols.length c, .int .i64 o, .int .i64 kk, .bool fr, .int .i64 ld]]) S1.out fun y hy => ?_
  have S2 := Lib.hid hy
  clear S1 hy hbm
  have c0 : y.cell? ⟨bm, 0, none⟩ = some (.slice p cols.length c) := S2.out.tl.boxAt 0
  have c1 : y.cell? ⟨bm, 1, none⟩ = some (.int .i64 o) := S2.out.tl.boxAt 1
  have c2 : y.cell? ⟨bm, 2, none⟩ = some (.int .i64 kk) := S2.out.tl.boxAt 2
  have c3 : y.cell? ⟨bm, 3, none⟩ = some (.bool fr) := S2.out.tl.boxAt 3
  have c4 : y.cell? ⟨bm, 4, none⟩ = some (.int .i64 ld) := S2.out.tl.boxAt 4
  go_wp2_with fail
  refine (HTM.out y _ S2.out h10).mono ?_
  rintro _ w2 ⟨g, cap, rfl, hs⟩
  obtain ⟨b7, hb7⟩ : ∃ b, w2.heap.size = b := ⟨_, rfl⟩
  have S3 := Lib.hid (hs.allocAt hb7 (.cells #[.slice (some ⟨g, 0, none⟩) cols.length cap, .int .i64 o, .int .i64 kk, .bool fr, .int .i64 ld] 24))
  clear hs HTM S2 c0 c1 c2 c3 c4
  go_upto_region 4 with fail
  refine at_world (fun y => Sep w.heap.size w y [bxM b7 #[.slice (some ⟨g, 0, none⟩) cols.length cap, .int .i64 o, .int .i64 kk, .bool fr, .int .i64 ld], rTw g cap cols, bxR (bm + 1) #[.int .i64 k, .int .i64 n, .int .i64 lk], bxM bm #[.slice p cols.length c, .int .i64 o, .int .i64 kk, .bool fr, .int .i64 ld]]) S3.out fun y4 hy4 => ?_
  have S4 := Lib.hid hy4
  clear S3 hy4 hb7
  have c0 : y4.cell? ⟨b7, 0, none⟩ = some (.slice (some ⟨g, 0, none⟩) cols.length cap) := S4.out.boxAt 0
  have c1 : y4.cell? ⟨b7, 1, none⟩ = some (.int .i64 o) := S4.out.boxAt 1
  have c2 : y4.cell? ⟨b7, 2, none⟩ = some (.int .i64 kk) := S4.out.boxAt 2
  have c3 : y4.cell? ⟨b7, 3, none⟩ = some (.bool fr) := S4.out.boxAt 3
  have c4 : y4.cell? ⟨b7, 4, none⟩ = some (.int .i64 ld) := S4.out.boxAt 4
  have r0 : y4.cell? ⟨bm + 1, 0, none⟩ = some (.int .i64 k) := S4.out.tl.tl.boxAt 0
  have r1 : y4.cell? ⟨bm + 1, 1, none⟩ = some (.int .i64 n) := S4.out.tl.tl.boxAt 1
  have r2 : y4.cell? ⟨bm + 1, 2, none⟩ = some (.int .i64 lk) := S4.out.tl.tl.boxAt 2
  go_wp2_with fail
  refine (HST.out y4 _ g cap (by simp) S4.out).mono ?_
  rintro _ w5 ⟨v5, t5, rfl, hs⟩
  obtain ⟨p5, cp5, rfl⟩ := row_form hs.tl.at
  obtain ⟨q5, cq5, rfl⟩ := row_form hs.at
  obtain ⟨b8, hb8⟩ : ∃ b, w5.heap.size = b := ⟨_, rfl⟩
  have S5 := Lib.hid (hs.allocAt hb8 (.cells #[.slice p5 c5.length cp5, .int .i64 o5, .int .i64 k5, .bool f5, .int .i64 l5] 24))
  clear hs S4 c0 c1 c2 c3 c4 r0 r1 r2
  go_upto_region 5 with fail
  refine at_world (fun y => Sep w.heap.size w y [bxM b8 #[.slice p5 c5.length cp5, .int .i64 o5, .int .i64 k5, .bool f5, .int .i64 l5], rT (.slice q5 tk.length cq5) tk, rI (.slice p5 c5.length cp5) c5, bxM b7 #[.slice (some ⟨g, 0, none⟩) cols.length cap, .int .i64 o, .int .i64 kk, .bool fr, .int .i64 ld], rTw g cap cols, bxR (bm + 1) #[.int .i64 k, .int .i64 n, .int .i64 lk], bxM bm #[.slice p cols.length c, .int .i64 o, .int .i64 kk, .bool fr, .int .i64 ld]]) S5.out fun y5 hy5 => ?_
  have S6 := Lib.hid hy5
  clear S5 hy5 hb8
  have c0 : y5.cell? ⟨bm, 0, none⟩ = some (.slice p cols.length c) := S6.out.tl.tl.tl.tl.tl.tl.boxAt 0
  have c1 : y5.cell? ⟨bm, 1, none⟩ = some (.int .i64 o) := S6.out.tl.tl.tl.tl.tl.tl.boxAt 1
  have c2 : y5.cell? ⟨bm, 2, none⟩ = some (.int .i64 kk) := S6.out.tl.tl.tl.tl.tl.tl.boxAt 2
  have c3 : y5.cell? ⟨bm, 3, none⟩ = some (.bool fr) := S6.out.tl.tl.tl.tl.tl.tl.boxAt 3
  have c4 : y5.cell? ⟨bm, 4, none⟩ = some (.int .i64 ld) := S6.out.tl.tl.tl.tl.tl.tl.boxAt 4
  have r0 : y5.cell? ⟨bm + 1, 0, none⟩ = some (.int .i64 k) := S6.out.tl.tl.tl.tl.tl.boxAt 0
  have r1 : y5.cell? ⟨bm + 1, 1, none⟩ = some (.int .i64 n) := S6.out.tl.tl.tl.tl.tl.boxAt 1
  have r2 : y5.cell? ⟨bm + 1, 2, none⟩ = some (.int .i64 lk) := S6.out.tl.tl.tl.tl.tl.boxAt 2
  go_wp2_with fail
  refine (HRS.out y5 _ S6.out).mono ?_
  rintro _ w6 ⟨v6, t6, rfl, hs⟩
  obtain ⟨p6, cp6, rfl⟩ := row_form hs.tl.at
  obtain ⟨q6, cq6, rfl⟩ := row_form hs.at
  obtain ⟨b10, hb10⟩ : ∃ b, w6.heap.size = b := ⟨_, rfl⟩
  have S7 := Lib.hid (hs.allocAt hb10 (.cells #[.slice p6 c5.length cp6, .int .i64 o5, .int .i64 k5, .bool f5, .int .i64 l5] 24))
  clear hs S6 HRS c0 c1 c2 c3 c4 r0 r1 r2
  go_upto_region 6 with fail
  refine at_world (fun y => Sep w.heap.size w y [bxM b10 #[.slice p6 c5.length cp6, .int .i64 o5, .int .i64 k5, .bool f5, .int .i64 l5], rT (.slice q6 tk.length cq6) tk, rI (.slice p6 c5.length cp6) c5, bxM b8 #[.slice p5 c5.length cp5, .int .i64 o5, .int .i64 k5, .bool f5, .int .i64 l5], rT (.slice q5 tk.length cq5) tk, rI (.slice p5 c5.length cp5) c5, bxM b7 #[.slice (some ⟨g, 0, none⟩) cols.length cap, .int .i64 o, .int .i64 kk, .bool fr, .int .i64 ld], rTw g cap cols, bxR (bm + 1) #[.int .i64 k, .int .i64 n, .int .i64 lk], bxM bm #[.slice p cols.length c, .int .i64 o, .int .i64 kk, .bool fr, .int .i64 ld]]) S7.out fun y6 hy6 => ?_
  have S8 := Lib.hid hy6
  clear S7 hy6 hb10
  have c0 : y6.cell? ⟨b8, 0, none⟩ = some (.slice p5 c5.length cp5) := S8.out.tl.tl.tl.boxAt 0
  have c1 : y6.cell? ⟨b8, 1, none⟩ = some (.int .i64 o5) := S8.out.tl.tl.tl.boxAt 1
  have c2 : y6.cell? ⟨b8, 2, none⟩ = some (.int .i64 k5) := S8.out.tl.tl.tl.boxAt 2
  have c3 : y6.cell? ⟨b8, 3, none⟩ = some (.bool f5) := S8.out.tl.tl.tl.boxAt 3
  have c4 : y6.cell? ⟨b8, 4, none⟩ = some (.int .i64 l5) := S8.out.tl.tl.tl.boxAt 4
  have d0 : y6.cell? ⟨b10, 0, none⟩ = some (.slice p6 c5.length cp6) := S8.out.boxAt 0
  have d1 : y6.cell? ⟨b10, 1, none⟩ = some (.int .i64 o5) := S8.out.boxAt 1
  have d2 : y6.cell? ⟨b10, 2, none⟩ = some (.int .i64 k5) := S8.out.boxAt 2
  have d3 : y6.cell? ⟨b10, 3, none⟩ = some (.bool f5) := S8.out.boxAt 3
  have d4 : y6.cell? ⟨b10, 4, none⟩ = some (.int .i64 l5) := S8.out.boxAt 4
  have HSM := Lib.hid (samemark_any (w := y6) (m := ⟨c5, o5, k5, f5, l5⟩) (by simp only []; omega) (fun b hb => hb.2.1) (fun b hb => hb.2.1) (own_iv (S8.out.li (rI (.slice p5 c5.length cp5) c5) (by simp))) (own_iv (S8.out.li (rI (.slice p6 c5.length cp6) c5) (by simp))))
  unfold mkA at HSM
  simp only [] at HSM
  go_wp2_with fail
  refine HSM.out.mono ?_
  rintro _ w7 ⟨rfl, hb⟩
  have S9 := Lib.hid (S8.out.up hb)
  clear hb S8 HSM c0 c1 c2 c3 c4 d0 d1 d2 d3 d4
  have HTT := Lib.hid (sametok_any (w := w7) (l := tk) (fun b hb => hb.2.1) (fun b hb => hb.2.1) (row_wv (S9.out.li (rT (.slice q5 tk.length cq5) tk) (by simp))) (row_wv (S9.out.li (rT (.slice q6 tk.length cq6) tk) (by simp))) (by omega))
  go_wp2_with fail
  refine HTT.out.mono ?_
  rintro _ w8 ⟨rfl, hb⟩
  have SA := Lib.hid (S9.out.up hb)
  clear hb S9 HTT
  have HMI := Lib.hid (mark_any (n := 0) (l := c5) (v := .slice p5 c5.length cp5) (by omega) (by omega) (SA.out.li (rI (.slice p5 c5.length cp5) c5) (by simp)))
  have c0 : w8.cell? ⟨b8, 0, none⟩ = some (.slice p5 c5.length cp5) := SA.out.tl.tl.tl.boxAt 0
  go_wp2_with fail
  refine HMI.out.mono ?_
  rintro _ w9 ⟨rfl, ho, hr⟩
  have SB : Hid (Sep w.heap.size w w9 [.row (.slice p5 c5.length cp5) 3 1 c5.length (zi (mkn 0 c5.length)), bxM b10 #[.slice p6 c5.length cp6, .int .i64 o5, .int .i64 k5, .bool f5, .int .i64 l5], rT (.slice q6 tk.length cq6) tk, rI (.slice p6 c5.length cp6) c5, bxM b8 #[.slice p5 c5.length cp5, .int .i64 o5, .int .i64 k5, .bool f5, .int .i64 l5], rT (.slice q5 tk.length cq5) tk, bxM b7 #[.slice (some ⟨g, 0, none⟩) cols.length cap, .int .i64 o, .int .i64 kk, .bool fr, .int .i64 ld], rTw g cap cols, bxR (bm + 1) #[.int .i64 k, .int .i64 n, .int .i64 lk], bxM bm #[.slice p cols.length c, .int .i64 o, .int .i64 kk, .bool fr, .int .i64 ld]]) := Lib.hid (Sep.rep (x := rI (.slice p5 c5.length cp5) c5) (x' := .row (.slice p5 c5.length cp5) 3 1 c5.length (zi (mkn 0 c5.length))) (((((((((((SA.out.to 9 (by simp)).to 9 (by simp)).to 9 (by simp)).to 9 (by simp)).to 8 (by simp)).to 8 (by simp)).to 8 (by simp)).to 8 (by simp)).to 8 (by simp)).to 9 (by simp))) ho.grown hr (fun b hb => .inl hb))
  clear SA HMI ho hr c0
  have SC : Hid (∃ xs, Sep w.heap.size w w9 [.row (.slice q5 tk.length cq5) 35 3 tk.length xs, .row (.slice p5 c5.length cp5) 3 1 c5.length (zi (mkn 0 c5.length)), bxM b10 #[.slice p6 c5.length cp6, .int .i64 o5, .int .i64 k5, .bool f5, .int .i64 l5], rT (.slice q6 tk.length cq6) tk, rI (.slice p6 c5.length cp6) c5, bxM b8 #[.slice p5 c5.length cp5, .int .i64 o5, .int .i64 k5, .bool f5, .int .i64 l5], bxM b7 #[.slice (some ⟨g, 0, none⟩) cols.length cap, .int .i64 o, .int .i64 kk, .bool fr, .int .i64 ld], rTw g cap cols, bxR (bm + 1) #[.int .i64 k, .int .i64 n, .int .i64 lk], bxM bm #[.slice p cols.length c, .int .i64 o, .int .i64 kk, .bool fr, .int .i64 ld]]) := Lib.hid ⟨tkL tk, ((((((((((SB.out.to 9 (by simp)).to 9 (by simp)).to 9 (by simp)).to 9 (by simp)).to 8 (by simp)).to 8 (by simp)).to 8 (by simp)).to 8 (by simp)).to 8 (by simp)).to 9 (by simp))⟩
  clear SB
  obtain ⟨N, hN⟩ : ∃ N, tk.length = N := ⟨_, rfl⟩
  have HNN := Lib.hid hN
  have hN4 : N ≤ 4099 := by omega
  have SC2 : Hid (∃ xs, Sep w.heap.size w w9 [.row (.slice q5 N cq5) 35 3 N xs, .row (.slice p5 c5.length cp5) 3 1 c5.length (zi (mkn 0 c5.length)), bxM b10 #[.slice p6 c5.length cp6, .int .i64 o5, .int .i64 k5, .bool f5, .int .i64 l5], rT (.slice q6 tk.length cq6) tk, rI (.slice p6 c5.length cp6) c5, bxM b8 #[.slice p5 c5.length cp5, .int .i64 o5, .int .i64 k5, .bool f5, .int .i64 l5], bxM b7 #[.slice (some ⟨g, 0, none⟩) cols.length cap, .int .i64 o, .int .i64 kk, .bool fr, .int .i64 ld], rTw g cap cols, bxR (bm + 1) #[.int .i64 k, .int .i64 n, .int .i64 lk], bxM bm #[.slice p cols.length c, .int .i64 o, .int .i64 kk, .bool fr, .int .i64 ld]]) := Lib.hid (by rw [← hN]; exact SC.out)
  clear SC
  rw [hN]
  go_upto_region 10 with fail
  go_loopw [12] (fun i wr => ∃ j : Nat, i = .int .i64 (j : Nat) ∧ j ≤ N ∧ Hid (∃ xs, Sep w.heap.size w wr [.row (.slice q5 N cq5) 35 3 N xs, .row (.slice p5 c5.length cp5) 3 1 c5.length (zi (mkn 0 c5.length)), bxM b10 #[.slice p6 c5.length cp6, .int .i64 o5, .int .i64 k5, .bool f5, .int .i64 l5], rT (.slice q6 tk.length cq6) tk, rI (.slice p6 c5.length cp6) c5, bxM b8 #[.slice p5 c5.length cp5, .int .i64 o5, .int .i64 k5, .bool f5, .int .i64 l5], bxM b7 #[.slice (some ⟨g, 0, none⟩) cols.length cap, .int .i64 o, .int .i64 kk, .bool fr, .int .i64 ld], rTw g cap cols, bxR (bm + 1) #[.int .i64 k, .int .i64 n, .int .i64 lk], bxM bm #[.slice p cols.length c, .int .i64 o, .int .i64 kk, .bool fr, .int .i64 ld]])) (fun i _ => N - (intOf i).toNat)
  case atStart => exact ⟨0, rfl, by omega, SC2⟩
  case round =>
  clear SC2
  obtain ⟨j, rfl, hj, HS⟩ := hrel
  obtain ⟨Z, rfl⟩ : ∃ W : World, W = wr := ⟨_, rfl⟩
  by_cases hlt : j < N
  · have hltI : (j : Int) < (N : Int) := by omega
    have hjI : ¬ (j : Int) < 0 := by omega
    obtain ⟨xs, hxs⟩ := HS.out
    obtain ⟨g5, k5', hv5, -⟩ := row_own hxs.at (by omega)
    injection hv5 with e1 e2 e3
    subst e1
    obtain ⟨⟨u0, hu0⟩, hf0, xs1, h1⟩ := Sep.wr hxs (j := j * 3) (by omega) (.int .i64 (-1))
    obtain ⟨⟨u1, hu1⟩, hf1, -⟩ := Sep.wr hxs (j := j * 3 + 1) (by omega) (.int .i64 0)
    obtain ⟨⟨u2, hu2⟩, hf2, -⟩ := Sep.wr hxs (j := j * 3 + 2) (by omega) (.int .i64 0)
    obtain ⟨-, -, xs2, h2⟩ := Sep.wr h1 (j := j * 3 + 1) (by omega) (.int .i64 0)
    obtain ⟨-, -, xs3, h3⟩ := Sep.wr h2 (j := j * 3 + 2) (by omega) (.int .i64 0)
    have HS3 : Hid (∃ xs, Sep w.heap.size w (((Z.setCell ⟨g5, j * 3, none⟩ (.int .i64 (-1))).setCell ⟨g5, j * 3 + 1, none⟩ (.int .i64 0)).setCell ⟨g5, j * 3 + 2, none⟩ (.int .i64 0)) [.row (.slice (some ⟨g5, 0, none⟩) N cq5) 35 3 N xs, .row (.slice p5 c5.length cp5) 3 1 c5.length (zi (mkn 0 c5.length)), bxM b10 #[.slice p6 c5.length cp6, .int .i64 o5, .int .i64 k5, .bool f5, .int .i64 l5], rT (.slice q6 tk.length cq6) tk, rI (.slice p6 c5.length cp6) c5, bxM b8 #[.slice p5 c5.length cp5, .int .i64 o5, .int .i64 k5, .bool f5, .int .i64 l5], bxM b7 #[.slice (some ⟨g, 0, none⟩) cols.length cap, .int .i64 o, .int .i64 kk, .bool fr, .int .i64 ld], rTw g cap cols, bxR (bm + 1) #[.int .i64 k, .int .i64 n, .int .i64 lk], bxM bm #[.slice p cols.length c, .int .i64 o, .int .i64 kk, .bool fr, .int .i64 ld]]) := Lib.hid ⟨xs3, h3⟩
    clear hxs h1 h2 h3 HS e2 e3
    go_wp2_with fail
    go_roundw
    case rel => exact ⟨j + 1, by go_num, by omega, HS3⟩
    case measure => simp [intOf]; omega
  · obtain rfl : j = N := by omega
    have hltI : ¬ (j : Int) < (j : Int) := by omega
    obtain ⟨xs, hxs⟩ := HS.out
    have SD : Hid (Sep w.heap.size w Z [.row (.slice p5 c5.length cp5) 3 1 c5.length (zi (mkn 0 c5.length)), bxM b10 #[.slice p6 c5.length cp6, .int .i64 o5, .int .i64 k5, .bool f5, .int .i64 l5], rT (.slice q6 tk.length cq6) tk, rI (.slice p6 c5.length cp6) c5, bxM b8 #[.slice p5 c5.length cp5, .int .i64 o5, .int .i64 k5, .bool f5, .int .i64 l5], bxM b7 #[.slice (some ⟨g, 0, none⟩) cols.length cap, .int .i64 o, .int .i64 kk, .bool fr, .int .i64 ld], rTw g cap cols, bxR (bm + 1) #[.int .i64 k, .int .i64 n, .int .i64 lk], bxM bm #[.slice p cols.length c, .int .i64 o, .int .i64 kk, .bool fr, .int .i64 ld]]) := Lib.hid hxs.tl
    clear HS hxs
    have c0 : Z.cell? ⟨b7, 0, none⟩ = some (.slice (some ⟨g, 0, none⟩) cols.length cap) := SD.out.tl.tl.tl.tl.tl.boxAt 0
    have c1 : Z.cell? ⟨b7, 1, none⟩ = some (.int .i64 o) := SD.out.tl.tl.tl.tl.tl.boxAt 1
    have c2 : Z.cell? ⟨b7, 2, none⟩ = some (.int .i64 kk) := SD.out.tl.tl.tl.tl.tl.boxAt 2
    have c3 : Z.cell? ⟨b7, 3, none⟩ = some (.bool fr) := SD.out.tl.tl.tl.tl.tl.boxAt 3
    have c4 : Z.cell? ⟨b7, 4, none⟩ = some (.int .i64 ld) := SD.out.tl.tl.tl.tl.tl.boxAt 4
    have r0 : Z.cell? ⟨bm + 1, 0, none⟩ = some (.int .i64 k) := SD.out.tl.tl.tl.tl.tl.tl.tl.boxAt 0
    have r1 : Z.cell? ⟨bm + 1, 1, none⟩ = some (.int .i64 n) := SD.out.tl.tl.tl.tl.tl.tl.tl.boxAt 1
    have r2 : Z.cell? ⟨bm + 1, 2, none⟩ = some (.int .i64 lk) := SD.out.tl.tl.tl.tl.tl.tl.tl.boxAt 2
    go_upto_region 13 with fail
    go_wp2_with fail
    refine (HST.out Z _ g cap (by simp) SD.out).mono ?_
    rintro _ wa ⟨v9, t9, rfl, hs⟩
    obtain ⟨p9, cp9, rfl⟩ := row_form hs.tl.at
    obtain ⟨q9, cq9, rfl⟩ := row_form hs.at
    obtain ⟨b13, hb13⟩ : ∃ b, wa.heap.size = b := ⟨_, rfl⟩
    have SE := Lib.hid (hs.allocAt hb13 (.cells #[.slice p9 c5.length cp9, .int .i64 o5, .int .i64 k5, .bool f5, .int .i64 l5] 24))
    clear hs SD HST c0 c1 c2 c3 c4 r0 r1 r2
    go_upto_region 14 with fail
    refine at_world (fun y => Sep w.heap.size w y [bxM b13 #[.slice p9 c5.length cp9, .int .i64 o5, .int .i64 k5, .bool f5, .int .i64 l5], rT (.slice q9 tk.length cq9) tk, rI (.slice p9 c5.length cp9) c5, .row (.slice p5 c5.length cp5) 3 1 c5.length (zi (mkn 0 c5.length)), bxM b10 #[.slice p6 c5.length cp6, .int .i64 o5, .int .i64 k5, .bool f5, .int .i64 l5], rT (.slice q6 tk.length cq6) tk, rI (.slice p6 c5.length cp6) c5, bxM b8 #[.slice p5 c5.length cp5, .int .i64 o5, .int .i64 k5, .bool f5, .int .i64 l5], bxM b7 #[.slice (some ⟨g, 0, none⟩) cols.length cap, .int .i64 o, .int .i64 kk, .bool fr, .int .i64 ld], rTw g cap cols, bxR (bm + 1) #[.int .i64 k, .int .i64 n, .int .i64 lk], bxM bm #[.slice p cols.length c, .int .i64 o, .int .i64 kk, .bool fr, .int .i64 ld]]) SE.out fun ye hye => ?_
    have SF := Lib.hid hye
    clear SE hye hb13
    have c0 : ye.cell? ⟨b7, 0, none⟩ = some (.slice (some ⟨g, 0, none⟩) cols.length cap) := SF.out.tl.tl.tl.tl.tl.tl.tl.tl.boxAt 0
    have c1 : ye.cell? ⟨b7, 1, none⟩ = some (.int .i64 o) := SF.out.tl.tl.tl.tl.tl.tl.tl.tl.boxAt 1
    have c2 : ye.cell? ⟨b7, 2, none⟩ = some (.int .i64 kk) := SF.out.tl.tl.tl.tl.tl.tl.tl.tl.boxAt 2
    have c3 : ye.cell? ⟨b7, 3, none⟩ = some (.bool fr) := SF.out.tl.tl.tl.tl.tl.tl.tl.tl.boxAt 3
    have c4 : ye.cell? ⟨b7, 4, none⟩ = some (.int .i64 ld) := SF.out.tl.tl.tl.tl.tl.tl.tl.tl.boxAt 4
    have d0 : ye.cell? ⟨bm, 0, none⟩ = some (.slice p cols.length c) := SF.out.tl.tl.tl.tl.tl.tl.tl.tl.tl.tl.tl.boxAt 0
    have d1 : ye.cell? ⟨bm, 1, none⟩ = some (.int .i64 o) := SF.out.tl.tl.tl.tl.tl.tl.tl.tl.tl.tl.tl.boxAt 1
    have d2 : ye.cell? ⟨bm, 2, none⟩ = some (.int .i64 kk) := SF.out.tl.tl.tl.tl.tl.tl.tl.tl.tl.tl.tl.boxAt 2
    have d3 : ye.cell? ⟨bm, 3, none⟩ = some (.bool fr) := SF.out.tl.tl.tl.tl.tl.tl.tl.tl.tl.tl.tl.boxAt 3
    have d4 : ye.cell? ⟨bm, 4, none⟩ = some (.int .i64 ld) := SF.out.tl.tl.tl.tl.tl.tl.tl.tl.tl.tl.tl.boxAt 4
    go_wp2_with fail
    refine (HLM.out ye _ g cap h10 (by simp) SF.out).mono ?_
    rintro _ wb ⟨rfl, hb⟩
    have SG := Lib.hid (SF.out.up hb)
    clear hb SF HLM c0 c1 c2 c3 c4 d0 d1 d2 d3 d4
    have c0 : wb.cell? ⟨b13, 0, none⟩ = some (.slice p9 c5.length cp9) := SG.out.boxAt 0
    have c1 : wb.cell? ⟨b13, 1, none⟩ = some (.int .i64 o5) := SG.out.boxAt 1
    have c2 : wb.cell? ⟨b13, 2, none⟩ = some (.int .i64 k5) := SG.out.boxAt 2
    have c3 : wb.cell? ⟨b13, 3, none⟩ = some (.bool f5) := SG.out.boxAt 3
    have c4 : wb.cell? ⟨b13, 4, none⟩ = some (.int .i64 l5) := SG.out.boxAt 4
    have d0 : wb.cell? ⟨b10, 0, none⟩ = some (.slice p6 c5.length cp6) := SG.out.tl.tl.tl.tl.boxAt 0
    have d1 : wb.cell? ⟨b10, 1, none⟩ = some (.int .i64 o5) := SG.out.tl.tl.tl.tl.boxAt 1
    have d2 : wb.cell? ⟨b10, 2, none⟩ = some (.int .i64 k5) := SG.out.tl.tl.tl.tl.boxAt 2
    have d3 : wb.cell? ⟨b10, 3, none⟩ = some (.bool f5) := SG.out.tl.tl.tl.tl.boxAt 3
    have d4 : wb.cell? ⟨b10, 4, none⟩ = some (.int .i64 l5) := SG.out.tl.tl.tl.tl.boxAt 4
    have HSM := Lib.hid (samemark_any (w := wb) (m := ⟨c5, o5, k5, f5, l5⟩) (by simp only []; omega) (fun b hb => hb.2.1) (fun b hb => hb.2.1) (own_iv (SG.out.li (rI (.slice p9 c5.length cp9) c5) (by simp))) (own_iv (SG.out.li (rI (.slice p6 c5.length cp6) c5) (by simp))))
    unfold mkA at HSM
    simp only [] at HSM
    go_wp2_with fail
    refine HSM.out.mono ?_
    rintro _ wc ⟨rfl, hb⟩
    have SH := Lib.hid (SG.out.up hb)
    clear hb SG HSM c0 c1 c2 c3 c4 d0 d1 d2 d3 d4
    have HTT := Lib.hid (sametok_any (w := wc) (l := tk) (fun b hb => hb.2.1) (fun b hb => hb.2.1) (row_wv (SH.out.li (rT (.slice q9 tk.length cq9) tk) (by simp))) (row_wv (SH.out.li (rT (.slice q6 tk.length cq6) tk) (by simp))) (by have := HNN.out; omega))
    rw [HNN.out] at HTT
    go_wp2_with fail
    refine HTT.out.mono ?_
    rintro _ wd ⟨rfl, hb⟩
    have SI := Lib.hid (SH.out.up hb)
    clear hb SH HTT
    have HHI := Lib.hid (has_any (n := 0) (l := c5) (by omega) (by omega) (SI.out.li (.row (.slice p5 c5.length cp5) 3 1 c5.length (zi (mkn 0 c5.length))) (by simp)))
    have c0 : wd.cell? ⟨b8, 0, none⟩ = some (.slice p5 c5.length cp5) := SI.out.tl.tl.tl.tl.tl.tl.tl.boxAt 0
    go_wp2_with fail
    refine HHI.out.mono ?_
    rintro _ wx ⟨rfl, hwx⟩
    rw [hwx]
    clear HHI c0 hwx
    go_wp2_with fail
    refine alive_any.mono ?_
    rintro _ wz ⟨rfl, hb⟩
    have SJ := Lib.hid (SI.out.up hb)
    clear hb SI
    go_wp2_with fail
    go_ret
    exact ⟨rfl, SJ.out.bel⟩
end Go.Proofs.Ythbfpnbfiliknaa
