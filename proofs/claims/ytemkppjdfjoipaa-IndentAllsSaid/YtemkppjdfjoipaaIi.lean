/- Package indent. -/
import Derived.Test.YtemkppjdfjoipaaProg
import Derived.Test.YtemkppjdfjoipaaIh
import Derived.Great.BuildSlice
import Derived.WalkKit
import Derived.Maps.OwnSet
import Derived.Maps.OwnOps
import Derived.Maps.Own
import Derived.DeepKeys5
import Derived.BigFrame
import Derived.WalkMore
import Derived.ScopeJumps
import Derived.StillTailTactics
import Derived.Stop.BytesEq
import Derived.WalkLawsBesides
import Derived.WalkSpells
import Derived.Outline
import Derived.Lib.Walk
import Derived.Lib.Hide
import Derived.Lib.Slices
import Derived.Lib.Strings
import Derived.RegionTactic
import Derived.LoopTactic
import Derived.Below
import Derived.IntWalk
import Derived.Deep.QuietTactic
import Derived.BigQuiet
import Derived.Deep.MidRow
import Derived.Maps.AppendAt
import Derived.Laws.Rows
import Derived.Laws.Tables
import Derived.Deep.WholeRow
import Derived.Deep.Cut
import Derived.Deep.CutRange
import Derived.Lib.SliceRun
import Derived.Laws.MakeOwn
import Derived.Deep.RegionLaw
import Derived.Deep.RegionLawGrows
import Derived.Deep.RegionHeld3
import Derived.RegionCalls
import Derived.Deep.RegionWith
import Derived.Deep.Light
import Derived.Laws.CopyOwn
import Derived.Laws.ResultCell
namespace Go.Proofs.Ytemkppjdfjoipaa.I1
set_option linter.unusedSimpArgs false
set_option linter.unusedVariables false
set_option maxRecDepth 100000
open Go.RowKit
/- takeToken. -/
theorem Sep.lead {B g N cap : Nat} {w0 w : World} {L : List It} {x : Tk} {r : List Tk} (ld : Int) (h : Sep B w0 w (rT (.slice (some ⟨g, 0, none⟩) N cap) (x :: r) :: L)) :
    w.cell? ⟨g, 1, none⟩ = some (.int .i64 x.2.1) ∧ w.frozen? ⟨g, 1, none⟩ = false ∧ Sep B w0 (w.setCell ⟨g, 1, none⟩ (.int .i64 ld)) (rT (.slice (some ⟨g, 0, none⟩) N cap) (leadF ld (x :: r)) :: L) := by
  obtain ⟨a, b, c⟩ := x
  have hat := h.at
  obtain ⟨hlen, hor⟩ := (hat : World.ownsRow _ _ _ _ _ _ _)
  rcases hor with ⟨e, _⟩ | ⟨g', cap', cur, hv, h1, h2, h3, h4, h5, h6⟩
  · cases e
  · injection hv with e1 e2 e3
    injection e1 with e1
    injection e1 with e1 e4 e5
    subst e1 e2 e3
    have hc1 : cur.toList[1]? = some (.int .i64 b) := by
      have : (cur.toList.take (((a, b, c) :: r).length * 3))[1]? = some (.int .i64 b) := by rw [h6]; rfl
      rwa [List.getElem?_take_of_lt (by simp only [List.length_cons]; omega)] at this
    refine ⟨?_, frozen_of_row w g 1 _ 40 h2, ?_⟩
    · rw [cell_of_row w g 1 _ 40 (0, 0) h2]; simpa using hc1
    · refine h.rep (x' := rT (.slice (some ⟨g, 0, none⟩) ((a, b, c) :: r).length cap) (leadF ld ((a, b, c) :: r))) ⟨rfl, rfl, rfl, by simp, fun k hk hne => heap_setCell_other w _ k _ (fun e => hne (by rw [e]; rfl))⟩ ?_ (fun b hb => .inl hb)
      refine ⟨tkL_len _, .inr ⟨g, cap, cur.setIfInBounds 1 (.int .i64 ld), rfl, h1, heap_setCell_same w g 1 cur 40 _ h2, h3, h4, by simpa using h5, ?_⟩⟩
      rw [Array.toList_setIfInBounds, List.take_set, show (leadF ld ((a, b, c) :: r)).length = ((a, b, c) :: r).length by rfl, h6]
      rfl
set_option maxHeartbeats 32000000 in
theorem token_any {B : Nat} {w0 w : World} {v : Value} {m : Mk} {k n lk : Int} {X : List It} (hm : May m) (hs : Sep B w0 w (rI v m.cols :: X)) :
    Calls Try.prog 55 #[.agg (mkA v m), .agg (rwV k n lk)] w (StepP B w0 X (tokF m k n)) := by
  have HM := Lib.hid hm
  have ho0 := hm.o0
  have ho1 := hm.o1
  have hc0 := hm.c0
  have hln := hm.len
  obtain ⟨R, hR⟩ : ∃ R, tokF m k n = R := ⟨_, rfl⟩
  rw [hR]
  obtain ⟨bg, hbg⟩ : ∃ b, begF m = b := ⟨_, rfl⟩
  have HBG := Lib.hid (fun w => begins_any (w := w) (m := m) (sl := v))
  rw [hbg] at HBG
  have HR := Lib.hid hR
  have HBGE := Lib.hid hbg
  have HRI : Hid (Rise m.cols) := Lib.hid ⟨hm.ne, hm.h0, hm.up, hm.top⟩
  clear hm hR hbg
  obtain ⟨cols, o, kk, fr, ld⟩ := m
  unfold mkA at HBG
  unfold mkA rwV
  simp only [] at hs ho0 ho1 hc0 hln HBG HRI ⊢
  obtain ⟨p, c, rfl⟩ := row_form hs.at
  have hz := zero24
  obtain ⟨bm, hbm⟩ : ∃ b, w.heap.size = b := ⟨_, rfl⟩
  have S3 := Lib.hid (hs.boxes3 (.cells #[.slice p cols.length c, .int .i64 o, .int .i64 kk, .bool fr, .int .i64 ld] 36) (.cells #[.int .i64 k, .int .i64 n, .int .i64 lk] 38) (.cells zA 36))
  rw [hbm] at S3
  clear hs
  go_enter Try.func55, Try.ntmps55
  go_upto_region 2 with fail
  refine at_world (fun y => Sep B w0 y (bxM (bm + 1 + 1) zA :: bxR (bm + 1) #[.int .i64 k, .int .i64 n, .int .i64 lk] :: bxM bm #[.slice p cols.length c, .int .i64 o, .int .i64 kk, .bool fr, .int .i64 ld] :: rI (.slice p cols.length c) cols :: X)) S3.out fun y hy => ?_
  have S4 := Lib.hid hy
  clear S3
  have c0 : y.cell? ⟨bm, 0, none⟩ = some (.slice p cols.length c) := hy.tl.tl.boxAt 0
  have c1 : y.cell? ⟨bm, 1, none⟩ = some (.int .i64 o) := hy.tl.tl.boxAt 1
  have c2 : y.cell? ⟨bm, 2, none⟩ = some (.int .i64 kk) := hy.tl.tl.boxAt 2
  have c3 : y.cell? ⟨bm, 3, none⟩ = some (.bool fr) := hy.tl.tl.boxAt 3
  have c4 : y.cell? ⟨bm, 4, none⟩ = some (.int .i64 ld) := hy.tl.tl.boxAt 4
  clear hy
  go_wp2_with fail
  refine (HBG.out _).mono ?_
  rintro _ w1 ⟨rfl, hb⟩
  have S5 := Lib.hid (S4.out.up hb)
  clear hb S4 HBG c0 c1 c2 c3 c4
  cases bg with
  | true =>
    obtain ⟨⟨c1, l1⟩, hbl⟩ : ∃ z, blkF cols kk = z := ⟨_, rfl⟩
    have hl1 := (blkF_len cols kk).2
    have HBL := Lib.hid (blocks_any (B := B) (w0 := w0) (w := w1) (v := .slice p cols.length c) (col := kk) (X := bxM (bm + 1 + 1) zA :: bxR (bm + 1) #[.int .i64 k, .int .i64 n, .int .i64 lk] :: bxM bm #[.slice p cols.length c, .int .i64 o, .int .i64 kk, .bool fr, .int .i64 ld] :: X) HRI.out hc0 hln (S5.out.perm (List.perm_middle (l₁ := [_, _, _]))))
    rw [hbl] at HBL hl1
    have HRES : Hid (R = (⟨c1, opnF k o, 0, false, 0⟩, leadF ld (l1 ++ [(k, 0, n)]))) := Lib.hid (by rw [← HR.out]; unfold tokF; rw [if_pos HBGE.out]; simp only []; rw [hbl])
    simp only [] at hl1
    clear hbl HR
    have c0 : w1.cell? ⟨bm, 0, none⟩ = some (.slice p cols.length c) := S5.out.tl.tl.boxAt 0
    have c2 : w1.cell? ⟨bm, 2, none⟩ = some (.int .i64 kk) := S5.out.tl.tl.boxAt 2
    go_wp2_with fail
    refine HBL.out.mono ?_
    rintro _ w2 ⟨v1, t1, rfl, hs2⟩
    obtain ⟨p1, cp1, rfl⟩ := row_form hs2.tl.at
    have S6 := Lib.hid hs2
    clear HBL S5 c0 c2 hs2
    have c0 : w2.cell? ⟨bm, 0, none⟩ = some (.slice p cols.length c) := S6.out.tl.tl.tl.tl.boxAt 0
    have cf0 : w2.frozen? ⟨bm, 0, none⟩ = false := S6.out.tl.tl.tl.tl.fz 0
    go_upto_region 4 with fail
    refine at_world (fun y => Sep B w0 y (rT t1 l1 :: rI (.slice p1 c1.length cp1) c1 :: bxM (bm + 1 + 1) zA :: bxR (bm + 1) #[.int .i64 k, .int .i64 n, .int .i64 lk] :: bxM bm #[.slice p1 c1.length cp1, .int .i64 o, .int .i64 kk, .bool fr, .int .i64 ld] :: X)) (S6.out.setAt [_, _, _, _] 0 (.slice p1 c1.length cp1)) fun y4 hy4 => ?_
    have S7 := Lib.hid hy4
    clear hy4 S6 c0 cf0
    have S5 := Lib.hid (S7.out.alloc (.cells #[.int .i64 k, .int .i64 0, .int .i64 n] 40))
    obtain ⟨b4, hb4⟩ : ∃ b, y4.heap.size = b := ⟨_, rfl⟩
    rw [hb4] at S5
    have r0 : y4.cell? ⟨bm + 1, 0, none⟩ = some (.int .i64 k) := S7.out.tl.tl.tl.boxAt 0
    have r1 : y4.cell? ⟨bm + 1, 1, none⟩ = some (.int .i64 n) := S7.out.tl.tl.tl.boxAt 1
    clear S7
    go_upto_region 4 with fail
    go_wp2_with (at_builtin; refine wp_appT (B := B) (w0 := w0) (L := .box b4 (.cells #[.int .i64 k, .int .i64 0, .int .i64 n] 40) :: _) _ rfl (.tmp 18) (.tmp 24) rfl rfl S5.out.swap ⟨b4, 0, none⟩ 1 [(k, 0, n)] rfl (newsT S5.out) (by simp only [List.length_singleton]; omega) ?_)
    intro t2 w3 hs3
    have S6 := Lib.hid hs3.swap.tl
    clear S5 hs3 r0 r1 hb4
    obtain ⟨x, r, hxr⟩ : ∃ x r, l1 ++ [(k, 0, n)] = x :: r := by cases h : l1 with
      | nil => exact ⟨_, _, rfl⟩
      | cons a b => exact ⟨_, _, rfl⟩
    have HXR : Hid (R = (⟨c1, opnF k o, 0, false, 0⟩, leadF ld (x :: r))) := Lib.hid (by rw [← hxr]; exact HRES.out)
    rw [hxr] at S6
    obtain ⟨g2, cap2, rfl, hcap2⟩ := row_own S6.out.at (by simp)
    obtain ⟨hg1, hgf, hgs⟩ := Sep.lead ld S6.out
    have m4 : w3.cell? ⟨bm, 4, none⟩ = some (.int .i64 ld) := S6.out.tl.tl.tl.tl.boxAt 4
    have HLX : Hid ((x :: r).length = r.length + 1) := Lib.hid rfl
    have S7 := Lib.hid hgs
    rw [HLX.out] at S7 hcap2 ⊢
    clear hgs S6 hxr
    have hl0 : (0 : Int) < ((r.length + 1 : Nat) : Int) := by omega
    have hl1 : ¬ ((0 : Int) < 0) := by omega
    go_upto_region 6 with fail
    refine at_world (fun y => Sep B w0 y (rT (.slice (some ⟨g2, 0, none⟩) (r.length + 1) cap2) (leadF ld (x :: r)) :: rI (.slice p1 c1.length cp1) c1 :: bxM (bm + 1 + 1) zA :: bxR (bm + 1) #[.int .i64 k, .int .i64 n, .int .i64 lk] :: bxM bm #[.slice p1 c1.length cp1, .int .i64 o, .int .i64 kk, .bool fr, .int .i64 ld] :: X)) S7.out fun y6 hy6 => ?_
    have S8 := Lib.hid hy6
    have q2 : y6.cell? ⟨bm, 2, none⟩ = some (.int .i64 kk) := hy6.tl.tl.tl.tl.boxAt 2
    have q3 : y6.cell? ⟨bm, 3, none⟩ = some (.bool fr) := hy6.tl.tl.tl.tl.boxAt 3
    have q4 : y6.cell? ⟨bm, 4, none⟩ = some (.int .i64 ld) := hy6.tl.tl.tl.tl.boxAt 4
    have qf2 : y6.frozen? ⟨bm, 2, none⟩ = false := hy6.tl.tl.tl.tl.fz 2
    have qf3 : y6.frozen? ⟨bm, 3, none⟩ = false := hy6.tl.tl.tl.tl.fz 3
    have qf4 : y6.frozen? ⟨bm, 4, none⟩ = false := hy6.tl.tl.tl.tl.fz 4
    clear hy6 S7 hg1 hgf m4
    go_upto_region 7 with fail
    refine at_world (fun y => Sep B w0 y (rT (.slice (some ⟨g2, 0, none⟩) (r.length + 1) cap2) (leadF ld (x :: r)) :: rI (.slice p1 c1.length cp1) c1 :: bxM (bm + 1 + 1) zA :: bxR (bm + 1) #[.int .i64 k, .int .i64 n, .int .i64 lk] :: bxM bm #[.slice p1 c1.length cp1, .int .i64 o, .int .i64 0, .bool false, .int .i64 0] :: X)) (((S8.out.setAt [_, _, _, _] 4 (.int .i64 0)).setAt [_, _, _, _] 2 (.int .i64 0)).setAt [_, _, _, _] 3 (.bool false)) fun y7 hy7 => ?_
    clear S8 q2 q3 q4 qf2 qf3 qf4
    have S9 := Lib.hid hy7
    clear hy7
    by_cases h9 : k = 9
    · subst h9
      have r0 : y7.cell? ⟨bm + 1, 0, none⟩ = some (.int .i64 9) := S9.out.tl.tl.tl.boxAt 0
      have q1 : y7.cell? ⟨bm, 1, none⟩ = some (.int .i64 o) := S9.out.tl.tl.tl.tl.boxAt 1
      have qf1 : y7.frozen? ⟨bm, 1, none⟩ = false := S9.out.tl.tl.tl.tl.fz 1
      have ho1 : IntKind.i64.wrap (o + 1) = o + 1 := IntWalk.i64_in (o + 1) (by omega)
      go_upto_region 12 with fail
      refine at_world (fun y => Sep B w0 y (rT (.slice (some ⟨g2, 0, none⟩) (r.length + 1) cap2) (leadF ld (x :: r)) :: rI (.slice p1 c1.length cp1) c1 :: bxM (bm + 1 + 1) zA :: bxR (bm + 1) #[.int .i64 9, .int .i64 n, .int .i64 lk] :: bxM bm #[.slice p1 c1.length cp1, .int .i64 (min (o + 1) 65536), .int .i64 0, .bool false, .int .i64 0] :: X)) (S9.out.setAt [_, _, _, _] 1 (.int .i64 (min (o + 1) 65536))) fun y8 hy8 => ?_
      have SA := Lib.hid hy8
      clear hy8 S9 r0 q1 qf1
      have a0 : y8.cell? ⟨bm, 0, none⟩ = some (.slice p1 c1.length cp1) := SA.out.tl.tl.tl.tl.boxAt 0
      have a1 : y8.cell? ⟨bm, 1, none⟩ = some (.int .i64 (min (o + 1) 65536)) := SA.out.tl.tl.tl.tl.boxAt 1
      have a2 : y8.cell? ⟨bm, 2, none⟩ = some (.int .i64 0) := SA.out.tl.tl.tl.tl.boxAt 2
      have a3 : y8.cell? ⟨bm, 3, none⟩ = some (.bool false) := SA.out.tl.tl.tl.tl.boxAt 3
      have a4 : y8.cell? ⟨bm, 4, none⟩ = some (.int .i64 0) := SA.out.tl.tl.tl.tl.boxAt 4
      have z0 : y8.cell? ⟨bm + 1 + 1, 0, none⟩ = some (.slice none 0 0) := SA.out.tl.tl.boxAt 0
      have z1 : y8.cell? ⟨bm + 1 + 1, 1, none⟩ = some (.int .i64 0) := SA.out.tl.tl.boxAt 1
      have z2 : y8.cell? ⟨bm + 1 + 1, 2, none⟩ = some (.int .i64 0) := SA.out.tl.tl.boxAt 2
      have z3 : y8.cell? ⟨bm + 1 + 1, 3, none⟩ = some (.bool false) := SA.out.tl.tl.boxAt 3
      have z4 : y8.cell? ⟨bm + 1 + 1, 4, none⟩ = some (.int .i64 0) := SA.out.tl.tl.boxAt 4
      have zf0 : y8.frozen? ⟨bm + 1 + 1, 0, none⟩ = false := SA.out.tl.tl.fz 0
      have zf1 : y8.frozen? ⟨bm + 1 + 1, 1, none⟩ = false := SA.out.tl.tl.fz 1
      have zf2 : y8.frozen? ⟨bm + 1 + 1, 2, none⟩ = false := SA.out.tl.tl.fz 2
      have zf3 : y8.frozen? ⟨bm + 1 + 1, 3, none⟩ = false := SA.out.tl.tl.fz 3
      have zf4 : y8.frozen? ⟨bm + 1 + 1, 4, none⟩ = false := SA.out.tl.tl.fz 4
      have SZ := Lib.hid ((((((SA.out.setAt [_, _] 0 (.slice p1 c1.length cp1)).setAt [_, _] 1 (.int .i64 (min (o + 1) 65536))).setAt [_, _] 2 (.int .i64 0)).setAt [_, _] 3 (.bool false)).setAt [_, _] 4 (.int .i64 0)))
      clear SA
      go_wp2_with fail
      have hR := HXR.out
      subst hR
      refine bodyPost_ret (results_mt rfl _ _ (bm + 1 + 1) _ rfl SZ.out.tl.tl.at.2 rfl) rfl ?_
      exact ⟨_, _, rfl, SZ.out.sub (List.Sublist.cons_cons _ (List.Sublist.cons_cons _ (.cons _ (.cons _ (.cons _ (.refl _))))))⟩
    · by_cases h10 : k = 10
      · subst h10
        have r0 : y7.cell? ⟨bm + 1, 0, none⟩ = some (.int .i64 10) := S9.out.tl.tl.tl.boxAt 0
        have q1 : y7.cell? ⟨bm, 1, none⟩ = some (.int .i64 o) := S9.out.tl.tl.tl.tl.boxAt 1
        have qf1 : y7.frozen? ⟨bm, 1, none⟩ = false := S9.out.tl.tl.tl.tl.fz 1
        have ho1 : IntKind.i64.wrap (o - 1) = o - 1 := IntWalk.i64_in (o - 1) (by omega)
        go_upto_region 12 with fail
        refine at_world (fun y => Sep B w0 y (rT (.slice (some ⟨g2, 0, none⟩) (r.length + 1) cap2) (leadF ld (x :: r)) :: rI (.slice p1 c1.length cp1) c1 :: bxM (bm + 1 + 1) zA :: bxR (bm + 1) #[.int .i64 10, .int .i64 n, .int .i64 lk] :: bxM bm #[.slice p1 c1.length cp1, .int .i64 (max (o - 1) 0), .int .i64 0, .bool false, .int .i64 0] :: X)) (S9.out.setAt [_, _, _, _] 1 (.int .i64 (max (o - 1) 0))) fun y8 hy8 => ?_
        have SA := Lib.hid hy8
        clear hy8 S9 r0 q1 qf1
        have a0 : y8.cell? ⟨bm, 0, none⟩ = some (.slice p1 c1.length cp1) := SA.out.tl.tl.tl.tl.boxAt 0
        have a1 : y8.cell? ⟨bm, 1, none⟩ = some (.int .i64 (max (o - 1) 0)) := SA.out.tl.tl.tl.tl.boxAt 1
        have a2 : y8.cell? ⟨bm, 2, none⟩ = some (.int .i64 0) := SA.out.tl.tl.tl.tl.boxAt 2
        have a3 : y8.cell? ⟨bm, 3, none⟩ = some (.bool false) := SA.out.tl.tl.tl.tl.boxAt 3
        have a4 : y8.cell? ⟨bm, 4, none⟩ = some (.int .i64 0) := SA.out.tl.tl.tl.tl.boxAt 4
        have z0 : y8.cell? ⟨bm + 1 + 1, 0, none⟩ = some (.slice none 0 0) := SA.out.tl.tl.boxAt 0
        have z1 : y8.cell? ⟨bm + 1 + 1, 1, none⟩ = some (.int .i64 0) := SA.out.tl.tl.boxAt 1
        have z2 : y8.cell? ⟨bm + 1 + 1, 2, none⟩ = some (.int .i64 0) := SA.out.tl.tl.boxAt 2
        have z3 : y8.cell? ⟨bm + 1 + 1, 3, none⟩ = some (.bool false) := SA.out.tl.tl.boxAt 3
        have z4 : y8.cell? ⟨bm + 1 + 1, 4, none⟩ = some (.int .i64 0) := SA.out.tl.tl.boxAt 4
        have zf0 : y8.frozen? ⟨bm + 1 + 1, 0, none⟩ = false := SA.out.tl.tl.fz 0
        have zf1 : y8.frozen? ⟨bm + 1 + 1, 1, none⟩ = false := SA.out.tl.tl.fz 1
        have zf2 : y8.frozen? ⟨bm + 1 + 1, 2, none⟩ = false := SA.out.tl.tl.fz 2
        have zf3 : y8.frozen? ⟨bm + 1 + 1, 3, none⟩ = false := SA.out.tl.tl.fz 3
        have zf4 : y8.frozen? ⟨bm + 1 + 1, 4, none⟩ = false := SA.out.tl.tl.fz 4
        have SZ := Lib.hid ((((((SA.out.setAt [_, _] 0 (.slice p1 c1.length cp1)).setAt [_, _] 1 (.int .i64 (max (o - 1) 0))).setAt [_, _] 2 (.int .i64 0)).setAt [_, _] 3 (.bool false)).setAt [_, _] 4 (.int .i64 0)))
        clear SA
        go_wp2_with fail
        have hR := HXR.out
        subst hR
        refine bodyPost_ret (results_mt rfl _ _ (bm + 1 + 1) _ rfl SZ.out.tl.tl.at.2 rfl) rfl ?_
        exact ⟨_, _, rfl, SZ.out.sub (List.Sublist.cons_cons _ (List.Sublist.cons_cons _ (.cons _ (.cons _ (.cons _ (.refl _))))))⟩
      · have hk9 : (k == 9) = false := by simpa using h9
        have hk10 : (k == 10) = false := by simpa using h10
        have r0 : y7.cell? ⟨bm + 1, 0, none⟩ = some (.int .i64 k) := S9.out.tl.tl.tl.boxAt 0
        have HOP : Hid (opnF k o = o) := Lib.hid (by unfold opnF; rw [if_neg h9, if_neg h10])
        rw [HOP.out] at HXR
        have a0 : y7.cell? ⟨bm, 0, none⟩ = some (.slice p1 c1.length cp1) := S9.out.tl.tl.tl.tl.boxAt 0
        have a1 : y7.cell? ⟨bm, 1, none⟩ = some (.int .i64 o) := S9.out.tl.tl.tl.tl.boxAt 1
        have a2 : y7.cell? ⟨bm, 2, none⟩ = some (.int .i64 0) := S9.out.tl.tl.tl.tl.boxAt 2
        have a3 : y7.cell? ⟨bm, 3, none⟩ = some (.bool false) := S9.out.tl.tl.tl.tl.boxAt 3
        have a4 : y7.cell? ⟨bm, 4, none⟩ = some (.int .i64 0) := S9.out.tl.tl.tl.tl.boxAt 4
        have z0 : y7.cell? ⟨bm + 1 + 1, 0, none⟩ = some (.slice none 0 0) := S9.out.tl.tl.boxAt 0
        have z1 : y7.cell? ⟨bm + 1 + 1, 1, none⟩ = some (.int .i64 0) := S9.out.tl.tl.boxAt 1
        have z2 : y7.cell? ⟨bm + 1 + 1, 2, none⟩ = some (.int .i64 0) := S9.out.tl.tl.boxAt 2
        have z3 : y7.cell? ⟨bm + 1 + 1, 3, none⟩ = some (.bool false) := S9.out.tl.tl.boxAt 3
        have z4 : y7.cell? ⟨bm + 1 + 1, 4, none⟩ = some (.int .i64 0) := S9.out.tl.tl.boxAt 4
        have zf0 : y7.frozen? ⟨bm + 1 + 1, 0, none⟩ = false := S9.out.tl.tl.fz 0
        have zf1 : y7.frozen? ⟨bm + 1 + 1, 1, none⟩ = false := S9.out.tl.tl.fz 1
        have zf2 : y7.frozen? ⟨bm + 1 + 1, 2, none⟩ = false := S9.out.tl.tl.fz 2
        have zf3 : y7.frozen? ⟨bm + 1 + 1, 3, none⟩ = false := S9.out.tl.tl.fz 3
        have zf4 : y7.frozen? ⟨bm + 1 + 1, 4, none⟩ = false := S9.out.tl.tl.fz 4
        have SZ := Lib.hid ((((((S9.out.setAt [_, _] 0 (.slice p1 c1.length cp1)).setAt [_, _] 1 (.int .i64 o)).setAt [_, _] 2 (.int .i64 0)).setAt [_, _] 3 (.bool false)).setAt [_, _] 4 (.int .i64 0)))
        clear S9
        go_wp2_with fail
        have hR := HXR.out
        subst hR
        refine bodyPost_ret (results_mt rfl _ _ (bm + 1 + 1) _ rfl SZ.out.tl.tl.at.2 rfl) rfl ?_
        exact ⟨_, _, rfl, SZ.out.sub (List.Sublist.cons_cons _ (List.Sublist.cons_cons _ (.cons _ (.cons _ (.cons _ (.refl _))))))⟩
  | false =>
    have HRES : Hid (R = (⟨cols, opnF k o, 0, false, 0⟩, leadF ld ([] ++ [(k, 0, n)]))) := Lib.hid (by rw [← HR.out]; unfold tokF; rw [if_neg (by rw [HBGE.out]; decide)]; rfl)
    clear HR
    have S7 : Hid (Sep B w0 w1 (rT (.slice none 0 0) [] :: rI (.slice p cols.length c) cols :: bxM (bm + 1 + 1) zA :: bxR (bm + 1) #[.int .i64 k, .int .i64 n, .int .i64 lk] :: bxM bm #[.slice p cols.length c, .int .i64 o, .int .i64 kk, .bool fr, .int .i64 ld] :: X)) := Lib.hid ((S5.out.perm (List.perm_middle (l₁ := [_, _, _]))).none_ 40 3)
    clear S5
    have S5 := Lib.hid (S7.out.alloc (.cells #[.int .i64 k, .int .i64 0, .int .i64 n] 40))
    obtain ⟨b4, hb4⟩ : ∃ b, w1.heap.size = b := ⟨_, rfl⟩
    rw [hb4] at S5
    have r0 : w1.cell? ⟨bm + 1, 0, none⟩ = some (.int .i64 k) := S7.out.tl.tl.tl.boxAt 0
    have r1 : w1.cell? ⟨bm + 1, 1, none⟩ = some (.int .i64 n) := S7.out.tl.tl.tl.boxAt 1
    clear S7
    go_upto_region 4 with fail
    go_wp2_with (at_builtin; refine wp_appT (B := B) (w0 := w0) (L := .box b4 (.cells #[.int .i64 k, .int .i64 0, .int .i64 n] 40) :: _) _ rfl (.tmp 18) (.tmp 24) rfl rfl S5.out.swap ⟨b4, 0, none⟩ 1 [(k, 0, n)] rfl (newsT S5.out) (by simp only [List.length_singleton]; simp) ?_)
    intro t2 w3 hs3
    have S6 := Lib.hid hs3.swap.tl
    clear S5 hs3 r0 r1 hb4
    obtain ⟨x, r, hxr⟩ : ∃ x r, ([] : List Tk) ++ [(k, 0, n)] = x :: r := by cases h : ([] : List Tk) with
      | nil => exact ⟨_, _, rfl⟩
      | cons a b => exact ⟨_, _, rfl⟩
    have HXR : Hid (R = (⟨cols, opnF k o, 0, false, 0⟩, leadF ld (x :: r))) := Lib.hid (by rw [← hxr]; exact HRES.out)
    rw [List.nil_append] at hxr
    rw [hxr] at S6
    obtain ⟨g2, cap2, rfl, hcap2⟩ := row_own S6.out.at (by simp)
    obtain ⟨hg1, hgf, hgs⟩ := Sep.lead ld S6.out
    have m4 : w3.cell? ⟨bm, 4, none⟩ = some (.int .i64 ld) := S6.out.tl.tl.tl.tl.boxAt 4
    have HLX : Hid ((x :: r).length = r.length + 1) := Lib.hid rfl
    have S7 := Lib.hid hgs
    rw [HLX.out] at S7 hcap2 ⊢
    clear hgs S6 hxr
    have hl0 : (0 : Int) < ((r.length + 1 : Nat) : Int) := by omega
    have hl1 : ¬ ((0 : Int) < 0) := by omega
    go_upto_region 6 with fail
    refine at_world (fun y => Sep B w0 y (rT (.slice (some ⟨g2, 0, none⟩) (r.length + 1) cap2) (leadF ld (x :: r)) :: rI (.slice p cols.length c) cols :: bxM (bm + 1 + 1) zA :: bxR (bm + 1) #[.int .i64 k, .int .i64 n, .int .i64 lk] :: bxM bm #[.slice p cols.length c, .int .i64 o, .int .i64 kk, .bool fr, .int .i64 ld] :: X)) S7.out fun y6 hy6 => ?_
    have S8 := Lib.hid hy6
    have q2 : y6.cell? ⟨bm, 2, none⟩ = some (.int .i64 kk) := hy6.tl.tl.tl.tl.boxAt 2
    have q3 : y6.cell? ⟨bm, 3, none⟩ = some (.bool fr) := hy6.tl.tl.tl.tl.boxAt 3
    have q4 : y6.cell? ⟨bm, 4, none⟩ = some (.int .i64 ld) := hy6.tl.tl.tl.tl.boxAt 4
    have qf2 : y6.frozen? ⟨bm, 2, none⟩ = false := hy6.tl.tl.tl.tl.fz 2
    have qf3 : y6.frozen? ⟨bm, 3, none⟩ = false := hy6.tl.tl.tl.tl.fz 3
    have qf4 : y6.frozen? ⟨bm, 4, none⟩ = false := hy6.tl.tl.tl.tl.fz 4
    clear hy6 S7 hg1 hgf m4
    go_upto_region 7 with fail
    refine at_world (fun y => Sep B w0 y (rT (.slice (some ⟨g2, 0, none⟩) (r.length + 1) cap2) (leadF ld (x :: r)) :: rI (.slice p cols.length c) cols :: bxM (bm + 1 + 1) zA :: bxR (bm + 1) #[.int .i64 k, .int .i64 n, .int .i64 lk] :: bxM bm #[.slice p cols.length c, .int .i64 o, .int .i64 0, .bool false, .int .i64 0] :: X)) (((S8.out.setAt [_, _, _, _] 4 (.int .i64 0)).setAt [_, _, _, _] 2 (.int .i64 0)).setAt [_, _, _, _] 3 (.bool false)) fun y7 hy7 => ?_
    clear S8 q2 q3 q4 qf2 qf3 qf4
    have S9 := Lib.hid hy7
    clear hy7
    by_cases h9 : k = 9
    · subst h9
      have r0 : y7.cell? ⟨bm + 1, 0, none⟩ = some (.int .i64 9) := S9.out.tl.tl.tl.boxAt 0
      have q1 : y7.cell? ⟨bm, 1, none⟩ = some (.int .i64 o) := S9.out.tl.tl.tl.tl.boxAt 1
      have qf1 : y7.frozen? ⟨bm, 1, none⟩ = false := S9.out.tl.tl.tl.tl.fz 1
      have ho1 : IntKind.i64.wrap (o + 1) = o + 1 := IntWalk.i64_in (o + 1) (by omega)
      go_upto_region 12 with fail
      refine at_world (fun y => Sep B w0 y (rT (.slice (some ⟨g2, 0, none⟩) (r.length + 1) cap2) (leadF ld (x :: r)) :: rI (.slice p cols.length c) cols :: bxM (bm + 1 + 1) zA :: bxR (bm + 1) #[.int .i64 9, .int .i64 n, .int .i64 lk] :: bxM bm #[.slice p cols.length c, .int .i64 (min (o + 1) 65536), .int .i64 0, .bool false, .int .i64 0] :: X)) (S9.out.setAt [_, _, _, _] 1 (.int .i64 (min (o + 1) 65536))) fun y8 hy8 => ?_
      have SA := Lib.hid hy8
      clear hy8 S9 r0 q1 qf1
      have a0 : y8.cell? ⟨bm, 0, none⟩ = some (.slice p cols.length c) := SA.out.tl.tl.tl.tl.boxAt 0
      have a1 : y8.cell? ⟨bm, 1, none⟩ = some (.int .i64 (min (o + 1) 65536)) := SA.out.tl.tl.tl.tl.boxAt 1
      have a2 : y8.cell? ⟨bm, 2, none⟩ = some (.int .i64 0) := SA.out.tl.tl.tl.tl.boxAt 2
      have a3 : y8.cell? ⟨bm, 3, none⟩ = some (.bool false) := SA.out.tl.tl.tl.tl.boxAt 3
      have a4 : y8.cell? ⟨bm, 4, none⟩ = some (.int .i64 0) := SA.out.tl.tl.tl.tl.boxAt 4
      have z0 : y8.cell? ⟨bm + 1 + 1, 0, none⟩ = some (.slice none 0 0) := SA.out.tl.tl.boxAt 0
      have z1 : y8.cell? ⟨bm + 1 + 1, 1, none⟩ = some (.int .i64 0) := SA.out.tl.tl.boxAt 1
      have z2 : y8.cell? ⟨bm + 1 + 1, 2, none⟩ = some (.int .i64 0) := SA.out.tl.tl.boxAt 2
      have z3 : y8.cell? ⟨bm + 1 + 1, 3, none⟩ = some (.bool false) := SA.out.tl.tl.boxAt 3
      have z4 : y8.cell? ⟨bm + 1 + 1, 4, none⟩ = some (.int .i64 0) := SA.out.tl.tl.boxAt 4
      have zf0 : y8.frozen? ⟨bm + 1 + 1, 0, none⟩ = false := SA.out.tl.tl.fz 0
      have zf1 : y8.frozen? ⟨bm + 1 + 1, 1, none⟩ = false := SA.out.tl.tl.fz 1
      have zf2 : y8.frozen? ⟨bm + 1 + 1, 2, none⟩ = false := SA.out.tl.tl.fz 2
      have zf3 : y8.frozen? ⟨bm + 1 + 1, 3, none⟩ = false := SA.out.tl.tl.fz 3
      have zf4 : y8.frozen? ⟨bm + 1 + 1, 4, none⟩ = false := SA.out.tl.tl.fz 4
      have SZ := Lib.hid ((((((SA.out.setAt [_, _] 0 (.slice p cols.length c)).setAt [_, _] 1 (.int .i64 (min (o + 1) 65536))).setAt [_, _] 2 (.int .i64 0)).setAt [_, _] 3 (.bool false)).setAt [_, _] 4 (.int .i64 0)))
      clear SA
      go_wp2_with fail
      have hR := HXR.out
      subst hR
      refine bodyPost_ret (results_mt rfl _ _ (bm + 1 + 1) _ rfl SZ.out.tl.tl.at.2 rfl) rfl ?_
      exact ⟨_, _, rfl, SZ.out.sub (List.Sublist.cons_cons _ (List.Sublist.cons_cons _ (.cons _ (.cons _ (.cons _ (.refl _))))))⟩
    · by_cases h10 : k = 10
      · subst h10
        have r0 : y7.cell? ⟨bm + 1, 0, none⟩ = some (.int .i64 10) := S9.out.tl.tl.tl.boxAt 0
        have q1 : y7.cell? ⟨bm, 1, none⟩ = some (.int .i64 o) := S9.out.tl.tl.tl.tl.boxAt 1
        have qf1 : y7.frozen? ⟨bm, 1, none⟩ = false := S9.out.tl.tl.tl.tl.fz 1
        have ho1 : IntKind.i64.wrap (o - 1) = o - 1 := IntWalk.i64_in (o - 1) (by omega)
        go_upto_region 12 with fail
        refine at_world (fun y => Sep B w0 y (rT (.slice (some ⟨g2, 0, none⟩) (r.length + 1) cap2) (leadF ld (x :: r)) :: rI (.slice p cols.length c) cols :: bxM (bm + 1 + 1) zA :: bxR (bm + 1) #[.int .i64 10, .int .i64 n, .int .i64 lk] :: bxM bm #[.slice p cols.length c, .int .i64 (max (o - 1) 0), .int .i64 0, .bool false, .int .i64 0] :: X)) (S9.out.setAt [_, _, _, _] 1 (.int .i64 (max (o - 1) 0))) fun y8 hy8 => ?_
        have SA := Lib.hid hy8
        clear hy8 S9 r0 q1 qf1
        have a0 : y8.cell? ⟨bm, 0, none⟩ = some (.slice p cols.length c) := SA.out.tl.tl.tl.tl.boxAt 0
        have a1 : y8.cell? ⟨bm, 1, none⟩ = some (.int .i64 (max (o - 1) 0)) := SA.out.tl.tl.tl.tl.boxAt 1
        have a2 : y8.cell? ⟨bm, 2, none⟩ = some (.int .i64 0) := SA.out.tl.tl.tl.tl.boxAt 2
        have a3 : y8.cell? ⟨bm, 3, none⟩ = some (.bool false) := SA.out.tl.tl.tl.tl.boxAt 3
        have a4 : y8.cell? ⟨bm, 4, none⟩ = some (.int .i64 0) := SA.out.tl.tl.tl.tl.boxAt 4
        have z0 : y8.cell? ⟨bm + 1 + 1, 0, none⟩ = some (.slice none 0 0) := SA.out.tl.tl.boxAt 0
        have z1 : y8.cell? ⟨bm + 1 + 1, 1, none⟩ = some (.int .i64 0) := SA.out.tl.tl.boxAt 1
        have z2 : y8.cell? ⟨bm + 1 + 1, 2, none⟩ = some (.int .i64 0) := SA.out.tl.tl.boxAt 2
        have z3 : y8.cell? ⟨bm + 1 + 1, 3, none⟩ = some (.bool false) := SA.out.tl.tl.boxAt 3
        have z4 : y8.cell? ⟨bm + 1 + 1, 4, none⟩ = some (.int .i64 0) := SA.out.tl.tl.boxAt 4
        have zf0 : y8.frozen? ⟨bm + 1 + 1, 0, none⟩ = false := SA.out.tl.tl.fz 0
        have zf1 : y8.frozen? ⟨bm + 1 + 1, 1, none⟩ = false := SA.out.tl.tl.fz 1
        have zf2 : y8.frozen? ⟨bm + 1 + 1, 2, none⟩ = false := SA.out.tl.tl.fz 2
        have zf3 : y8.frozen? ⟨bm + 1 + 1, 3, none⟩ = false := SA.out.tl.tl.fz 3
        have zf4 : y8.frozen? ⟨bm + 1 + 1, 4, none⟩ = false := SA.out.tl.tl.fz 4
        have SZ := Lib.hid ((((((SA.out.setAt [_, _] 0 (.slice p cols.length c)).setAt [_, _] 1 (.int .i64 (max (o - 1) 0))).setAt [_, _] 2 (.int .i64 0)).setAt [_, _] 3 (.bool false)).setAt [_, _] 4 (.int .i64 0)))
        clear SA
        go_wp2_with fail
        have hR := HXR.out
        subst hR
        refine bodyPost_ret (results_mt rfl _ _ (bm + 1 + 1) _ rfl SZ.out.tl.tl.at.2 rfl) rfl ?_
        exact ⟨_, _, rfl, SZ.out.sub (List.Sublist.cons_cons _ (List.Sublist.cons_cons _ (.cons _ (.cons _ (.cons _ (.refl _))))))⟩
      · have hk9 : (k == 9) = false := by simpa using h9
        have hk10 : (k == 10) = false := by simpa using h10
        have r0 : y7.cell? ⟨bm + 1, 0, none⟩ = some (.int .i64 k) := S9.out.tl.tl.tl.boxAt 0
        have HOP : Hid (opnF k o = o) := Lib.hid (by unfold opnF; rw [if_neg h9, if_neg h10])
        rw [HOP.out] at HXR
        have a0 : y7.cell? ⟨bm, 0, none⟩ = some (.slice p cols.length c) := S9.out.tl.tl.tl.tl.boxAt 0
        have a1 : y7.cell? ⟨bm, 1, none⟩ = some (.int .i64 o) := S9.out.tl.tl.tl.tl.boxAt 1
        have a2 : y7.cell? ⟨bm, 2, none⟩ = some (.int .i64 0) := S9.out.tl.tl.tl.tl.boxAt 2
        have a3 : y7.cell? ⟨bm, 3, none⟩ = some (.bool false) := S9.out.tl.tl.tl.tl.boxAt 3
        have a4 : y7.cell? ⟨bm, 4, none⟩ = some (.int .i64 0) := S9.out.tl.tl.tl.tl.boxAt 4
        have z0 : y7.cell? ⟨bm + 1 + 1, 0, none⟩ = some (.slice none 0 0) := S9.out.tl.tl.boxAt 0
        have z1 : y7.cell? ⟨bm + 1 + 1, 1, none⟩ = some (.int .i64 0) := S9.out.tl.tl.boxAt 1
        have z2 : y7.cell? ⟨bm + 1 + 1, 2, none⟩ = some (.int .i64 0) := S9.out.tl.tl.boxAt 2
        have z3 : y7.cell? ⟨bm + 1 + 1, 3, none⟩ = some (.bool false) := S9.out.tl.tl.boxAt 3
        have z4 : y7.cell? ⟨bm + 1 + 1, 4, none⟩ = some (.int .i64 0) := S9.out.tl.tl.boxAt 4
        have zf0 : y7.frozen? ⟨bm + 1 + 1, 0, none⟩ = false := S9.out.tl.tl.fz 0
        have zf1 : y7.frozen? ⟨bm + 1 + 1, 1, none⟩ = false := S9.out.tl.tl.fz 1
        have zf2 : y7.frozen? ⟨bm + 1 + 1, 2, none⟩ = false := S9.out.tl.tl.fz 2
        have zf3 : y7.frozen? ⟨bm + 1 + 1, 3, none⟩ = false := S9.out.tl.tl.fz 3
        have zf4 : y7.frozen? ⟨bm + 1 + 1, 4, none⟩ = false := S9.out.tl.tl.fz 4
        have SZ := Lib.hid ((((((S9.out.setAt [_, _] 0 (.slice p cols.length c)).setAt [_, _] 1 (.int .i64 o)).setAt [_, _] 2 (.int .i64 0)).setAt [_, _] 3 (.bool false)).setAt [_, _] 4 (.int .i64 0)))
        clear S9
        go_wp2_with fail
        have hR := HXR.out
        subst hR
        refine bodyPost_ret (results_mt rfl _ _ (bm + 1 + 1) _ rfl SZ.out.tl.tl.at.2 rfl) rfl ?_
        exact ⟨_, _, rfl, SZ.out.sub (List.Sublist.cons_cons _ (List.Sublist.cons_cons _ (.cons _ (.cons _ (.cons _ (.refl _))))))⟩
end Go.Proofs.Ytemkppjdfjoipaa.I1
