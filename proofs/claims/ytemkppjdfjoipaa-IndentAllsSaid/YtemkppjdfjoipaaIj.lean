/- Package indent. -/
import Derived.Test.YtemkppjdfjoipaaProg
import Derived.Test.YtemkppjdfjoipaaIi
import Derived.Great.BuildSlice
import Derived.WalkKit
import Derived.Maps.OwnSet
import Derived.Maps.OwnOps
import Derived.Maps.Own
import Derived.DeepKeys5
import Derived.BigFrame
import Derived.WalkMore
import Derived.ScopeJumps
import Derived.StillTailTactics
import Derived.Stop.BytesEq
import Derived.WalkLawsBesides
import Derived.WalkSpells
import Derived.Outline
import Derived.Lib.Walk
import Derived.Lib.Hide
import Derived.Lib.Slices
import Derived.Lib.Strings
import Derived.RegionTactic
import Derived.LoopTactic
import Derived.Below
import Derived.IntWalk
import Derived.Deep.QuietTactic
import Derived.BigQuiet
import Derived.Deep.MidRow
import Derived.Maps.AppendAt
import Derived.Laws.Rows
import Derived.Laws.Tables
import Derived.Deep.WholeRow
import Derived.Deep.Cut
import Derived.Deep.CutRange
import Derived.Lib.SliceRun
import Derived.Laws.MakeOwn
import Derived.Deep.RegionLaw
import Derived.Deep.RegionLawGrows
import Derived.Deep.RegionHeld3
import Derived.RegionCalls
import Derived.Deep.RegionWith
import Derived.Deep.Light
import Derived.Laws.CopyOwn
import Derived.Laws.ResultCell
namespace Go.Proofs.Ytemkppjdfjoipaa.I1
set_option linter.unusedSimpArgs false
set_option linter.unusedVariables false
set_option maxRecDepth 100000
open Go.RowKit
/- step. -/
theorem begins_all {w : World} {cols : List Int} {o col ld : Int} {fr : Bool} {sl : Value} :
    Calls Try.prog 53 #[.agg #[sl, .int .i64 o, .int .i64 col, .bool fr, .int .i64 ld]] w fun e w' => e = .returned (.bool (fr && decide (o = 0))) ∧ Below w.heap.size w w' := begins_any (m := ⟨cols, o, col, fr, ld⟩) (sl := sl)
set_option maxHeartbeats 32000000 in
theorem step_in {B : Nat} {D : Nat → Prop} {w0 w : World} {m : Mk} {k n lk : Int} {s : ByteArray} {p : Option Addr} {c : Nat} {X : List It} (hm : May m) (hmd : Made m (bl s) n) (hD : ∀ b, D b → b < w.heap.size) (hiv : IV D w m.cols (.slice p m.cols.length c)) (hs : Sep B w0 w X) :
    Calls Try.prog 28 #[.agg (mkA (.slice p m.cols.length c) m), .string s, .agg (rwV k n lk)] w (StepP B w0 X (stepF m (bl s) k n)) := by
  have HM := Lib.hid hm
  have hn1 := hmd.1
  have hn2 := hmd.2.1
  rw [bl_len] at hn2
  have hn3 := hmd.2.2
  have hl0 := hm.l0
  have hc0 := hm.c0
  have hc1 := hm.c1
  have hln := hm.len
  have HNE : Hid (m.cols ≠ []) := Lib.hid (fun e => by have := hm.ne; rw [e] at this; simp at this)
  obtain ⟨R, hR⟩ : ∃ R, stepF m (bl s) k n = R := ⟨_, rfl⟩
  rw [hR]
  have HR := Lib.hid hR
  clear hm hR hmd
  obtain ⟨cols, o, kk, fr, ld⟩ := m
  unfold mkA rwV
  simp only [] at hiv hn3 hl0 hc0 hc1 hln HNE ⊢
  have HSS : Hid (s.size ≤ 65536) := Lib.hid (by omega)
  have hz := zero24
  have S3 := Lib.hid (hs.boxes3 (.cells #[.slice p cols.length c, .int .i64 o, .int .i64 kk, .bool fr, .int .i64 ld] 36) (.cells #[.int .i64 k, .int .i64 n, .int .i64 lk] 38) (.cells zA 36))
  have hb3 : Below w.heap.size w (((w.alloc (.cells #[.slice p cols.length c, .int .i64 o, .int .i64 kk, .bool fr, .int .i64 ld] 36)).alloc (.cells #[.int .i64 k, .int .i64 n, .int .i64 lk] 38)).alloc (.cells zA 36)) := ((((Below.refl w.heap.size w).alloc (Nat.le_refl _) _).alloc (by simp) _).alloc (by simp; omega) _)
  have hiv3 := Lib.hid (hiv.mono (D := D) (E := D) (fun b h => h) (fun b hb _ => hb3.block b (hD b hb)))
  have hD3 : Hid (∀ b, D b → b < (((w.alloc (.cells #[.slice p cols.length c, .int .i64 o, .int .i64 kk, .bool fr, .int .i64 ld] 36)).alloc (.cells #[.int .i64 k, .int .i64 n, .int .i64 lk] 38)).alloc (.cells zA 36)).heap.size) := Lib.hid fun b hb => by have := hD b hb; have := hb3.size; omega
  obtain ⟨bm, hbm⟩ : ∃ b, w.heap.size = b := ⟨_, rfl⟩
  rw [hbm] at S3
  clear hs hb3 hiv hD
  go_enter Try.func28, Try.ntmps28
  go_upto_region 1 with fail
  refine at_world (fun y => Sep B w0 y (bxM (bm + 1 + 1) zA :: bxR (bm + 1) #[.int .i64 k, .int .i64 n, .int .i64 lk] :: bxM bm #[.slice p cols.length c, .int .i64 o, .int .i64 kk, .bool fr, .int .i64 ld] :: X) ∧ IV D y cols (.slice p cols.length c) ∧ ∀ b, D b → b < y.heap.size) ⟨S3.out, hiv3.out, hD3.out⟩ fun y hy => ?_
  have HCL := Lib.hid (clone_any HNE.out (by omega) hy.2.2 hy.2.1)
  have S4 := Lib.hid hy.1
  have cc : y.cell? ⟨bm, 0, none⟩ = some (.slice p cols.length c) := S4.out.tl.tl.boxAt 0
  clear S3 hiv3 hD3 hy
  go_wp2_with fail
  refine HCL.out.mono ?_
  rintro _ w1 ⟨v1, rfl, hrow, hb⟩
  obtain ⟨p1, cp1, rfl⟩ := row_form hrow
  have S5 := Lib.hid (S4.out.add hb hrow)
  clear hrow hb HCL S4 cc
  have c0 : w1.cell? ⟨bm, 0, none⟩ = some (.slice p cols.length c) := S5.out.tl.tl.tl.boxAt 0
  have cf0 : w1.frozen? ⟨bm, 0, none⟩ = false := S5.out.tl.tl.tl.fz 0
  go_upto_region 2 with fail
  refine at_world (fun y => Sep B w0 y (bxM (bm + 1 + 1) zA :: bxR (bm + 1) #[.int .i64 k, .int .i64 n, .int .i64 lk] :: bxM bm #[.slice p1 cols.length cp1, .int .i64 o, .int .i64 kk, .bool fr, .int .i64 ld] :: rI (.slice p1 cols.length cp1) cols :: X)) ((S5.out.setAt [_, _, _] 0 (.slice p1 cols.length cp1)).perm (List.perm_middle (l₁ := [_, _, _])).symm) fun y2 hy2 => ?_
  have S6 := Lib.hid hy2
  clear hy2 S5 c0 cf0
  have hadd : IntKind.i64.wrap (ld + n) = ld + n := IntWalk.i64_in (ld + n) (by omega)
  by_cases h19 : k = 19
  · subst h19
    have r0 : y2.cell? ⟨bm + 1, 0, none⟩ = some (.int .i64 19) := S6.out.tl.boxAt 0
    have c1 : y2.cell? ⟨bm, 1, none⟩ = some (.int .i64 o) := S6.out.tl.tl.boxAt 1
    have c3 : y2.cell? ⟨bm, 3, none⟩ = some (.bool fr) := S6.out.tl.tl.boxAt 3
    by_cases ho : o = 0
    · have ho1 : (o == 0) = true := by simpa using ho
      have HO := Lib.hid ho
      clear ho
      cases fr with
      | false =>
        have HRES : Hid (R = (⟨cols, o, 0, true, 0⟩, [(19, ld, n)])) := Lib.hid (by rw [← HR.out]; unfold stepF; rw [if_neg (by decide), if_neg (by decide), if_pos rfl, if_pos ⟨rfl, HO.out⟩])
        have HEL := Lib.hid (fun y h => endline_any (B := B) (w0 := w0) (w := y) (v := .slice p1 cols.length cp1) (m := ⟨cols, o, kk, false, ld⟩) (k := 19) (n := n) (lk := lk) (X := bxM (bm + 1 + 1) zA :: bxR (bm + 1) #[.int .i64 19, .int .i64 n, .int .i64 lk] :: bxM bm #[.slice p1 cols.length cp1, .int .i64 o, .int .i64 kk, .bool false, .int .i64 ld] :: X) h)
        unfold mkA rwV at HEL
        simp only [] at HEL
        clear HR
        have c0 : y2.cell? ⟨bm, 0, none⟩ = some (.slice p1 cols.length cp1) := S6.out.tl.tl.boxAt 0
        have c2 : y2.cell? ⟨bm, 2, none⟩ = some (.int .i64 kk) := S6.out.tl.tl.boxAt 2
        have c4 : y2.cell? ⟨bm, 4, none⟩ = some (.int .i64 ld) := S6.out.tl.tl.boxAt 4
        have r1 : y2.cell? ⟨bm + 1, 1, none⟩ = some (.int .i64 n) := S6.out.tl.boxAt 1
        have r2 : y2.cell? ⟨bm + 1, 2, none⟩ = some (.int .i64 lk) := S6.out.tl.boxAt 2
        go_wp2_with fail
        refine (HEL.out _ (S6.out.perm (List.perm_middle (l₁ := [_, _, _])))).mono ?_
        rintro _ w5 ⟨v5, t5, rfl, hs5⟩
        obtain ⟨p5, cp5, rfl⟩ := row_form hs5.tl.at
        have S7 := Lib.hid hs5
        have hR := HRES.out
        subst hR
        unfold mkA
        simp only [] at S7 ⊢
        clear hs5 S6 HEL HRES c0 c1 c2 c3 c4 r0 r1 r2
        have z0 : w5.cell? ⟨bm + 1 + 1, 0, none⟩ = some (.slice none 0 0) := S7.out.tl.tl.boxAt 0
        have z1 : w5.cell? ⟨bm + 1 + 1, 1, none⟩ = some (.int .i64 0) := S7.out.tl.tl.boxAt 1
        have z2 : w5.cell? ⟨bm + 1 + 1, 2, none⟩ = some (.int .i64 0) := S7.out.tl.tl.boxAt 2
        have z3 : w5.cell? ⟨bm + 1 + 1, 3, none⟩ = some (.bool false) := S7.out.tl.tl.boxAt 3
        have z4 : w5.cell? ⟨bm + 1 + 1, 4, none⟩ = some (.int .i64 0) := S7.out.tl.tl.boxAt 4
        have zf0 : w5.frozen? ⟨bm + 1 + 1, 0, none⟩ = false := S7.out.tl.tl.fz 0
        have zf1 : w5.frozen? ⟨bm + 1 + 1, 1, none⟩ = false := S7.out.tl.tl.fz 1
        have zf2 : w5.frozen? ⟨bm + 1 + 1, 2, none⟩ = false := S7.out.tl.tl.fz 2
        have zf3 : w5.frozen? ⟨bm + 1 + 1, 3, none⟩ = false := S7.out.tl.tl.fz 3
        have zf4 : w5.frozen? ⟨bm + 1 + 1, 4, none⟩ = false := S7.out.tl.tl.fz 4
        have SZ := Lib.hid ((((((S7.out.setAt [_, _] 0 (.slice p5 cols.length cp5)).setAt [_, _] 1 (.int .i64 o)).setAt [_, _] 2 (.int .i64 0)).setAt [_, _] 3 (.bool true)).setAt [_, _] 4 (.int .i64 0)))
        clear S7
        go_wp2_with fail
        refine bodyPost_ret (results_mt rfl _ _ (bm + 1 + 1) _ rfl SZ.out.tl.tl.at.2 rfl) rfl ?_
        exact ⟨_, _, rfl, SZ.out.sub (List.Sublist.cons_cons _ (List.Sublist.cons_cons _ (.cons _ (.cons _ (.cons _ (.refl _))))))⟩
      | true =>
        have HRES : Hid (R = (⟨cols, o, 0, true, ld + n⟩, [])) := Lib.hid (by rw [← HR.out]; unfold stepF; rw [if_neg (by decide), if_neg (by decide), if_pos rfl, if_neg (by simp), if_pos HO.out])
        clear HR
        have d2 : y2.cell? ⟨bm, 2, none⟩ = some (.int .i64 kk) := S6.out.tl.tl.boxAt 2
        have df2 : y2.frozen? ⟨bm, 2, none⟩ = false := S6.out.tl.tl.fz 2
        go_upto_region 12 with fail
        refine at_world (fun y => Sep B w0 y (bxM (bm + 1 + 1) zA :: bxR (bm + 1) #[.int .i64 19, .int .i64 n, .int .i64 lk] :: bxM bm #[.slice p1 cols.length cp1, .int .i64 o, .int .i64 0, .bool true, .int .i64 ld] :: rI (.slice p1 cols.length cp1) cols :: X)) (S6.out.setAt [_, _] 2 (.int .i64 0)) fun y3 hy3 => ?_
        have S7 := Lib.hid hy3
        clear hy3 S6 c1 c3 d2 df2 r0
        have c0 : y3.cell? ⟨bm, 0, none⟩ = some (.slice p1 cols.length cp1) := S7.out.tl.tl.boxAt 0
        have c1 : y3.cell? ⟨bm, 1, none⟩ = some (.int .i64 o) := S7.out.tl.tl.boxAt 1
        have c2 : y3.cell? ⟨bm, 2, none⟩ = some (.int .i64 0) := S7.out.tl.tl.boxAt 2
        have c3 : y3.cell? ⟨bm, 3, none⟩ = some (.bool true) := S7.out.tl.tl.boxAt 3
        have c4 : y3.cell? ⟨bm, 4, none⟩ = some (.int .i64 ld) := S7.out.tl.tl.boxAt 4
        go_wp2_with fail
        refine (begins_all (cols := cols)).mono ?_
        rintro _ w3 ⟨rfl, hb⟩
        have Tw3 := Lib.hid (S7.out.up hb)
        clear hb S7 c0 c1 c2 c3 c4
        rw [show ((true && decide (o = 0)) = true) from by simp [HO.out]]
        have d2 : w3.cell? ⟨bm, 2, none⟩ = some (.int .i64 0) := Tw3.out.tl.tl.boxAt 2
        have df2 : w3.frozen? ⟨bm, 2, none⟩ = false := Tw3.out.tl.tl.fz 2
        go_wp2_with fail
        refine (column_any (c := 0) (s := { data := #[] }) (by omega) (by omega) (by decide)).mono ?_
        rintro _ _ ⟨rfl, rfl⟩
        rw [show colC 0 (bl { data := #[] }) = 0 from rfl]
        go_upto_region 14 with fail
        refine at_world (fun y => Sep B w0 y (bxM (bm + 1 + 1) zA :: bxR (bm + 1) #[.int .i64 19, .int .i64 n, .int .i64 lk] :: bxM bm #[.slice p1 cols.length cp1, .int .i64 o, .int .i64 0, .bool true, .int .i64 ld] :: rI (.slice p1 cols.length cp1) cols :: X)) (Tw3.out.setAt [_, _] 2 (.int .i64 0)) fun y4 hy4 => ?_
        have S8 := Lib.hid hy4
        clear hy4 Tw3 d2 df2
        have t4 : y4.cell? ⟨bm, 4, none⟩ = some (.int .i64 ld) := S8.out.tl.tl.boxAt 4
        have tf4 : y4.frozen? ⟨bm, 4, none⟩ = false := S8.out.tl.tl.fz 4
        have r1 : y4.cell? ⟨bm + 1, 1, none⟩ = some (.int .i64 n) := S8.out.tl.boxAt 1
        go_upto_region 15 with fail
        refine at_world (fun y => Sep B w0 y (bxM (bm + 1 + 1) zA :: bxR (bm + 1) #[.int .i64 19, .int .i64 n, .int .i64 lk] :: bxM bm #[.slice p1 cols.length cp1, .int .i64 o, .int .i64 0, .bool true, .int .i64 (ld + n)] :: rI (.slice p1 cols.length cp1) cols :: X)) (S8.out.setAt [_, _] 4 (.int .i64 (ld + n))) fun y9 hy9 => ?_
        have S9 := Lib.hid hy9
        clear hy9 S8 t4 tf4 r1
        have a0 : y9.cell? ⟨bm, 0, none⟩ = some (.slice p1 cols.length cp1) := S9.out.tl.tl.boxAt 0
        have a1 : y9.cell? ⟨bm, 1, none⟩ = some (.int .i64 o) := S9.out.tl.tl.boxAt 1
        have a2 : y9.cell? ⟨bm, 2, none⟩ = some (.int .i64 0) := S9.out.tl.tl.boxAt 2
        have a3 : y9.cell? ⟨bm, 3, none⟩ = some (.bool true) := S9.out.tl.tl.boxAt 3
        have a4 : y9.cell? ⟨bm, 4, none⟩ = some (.int .i64 (ld + n)) := S9.out.tl.tl.boxAt 4
        have z0 : y9.cell? ⟨bm + 1 + 1, 0, none⟩ = some (.slice none 0 0) := S9.out.boxAt 0
        have z1 : y9.cell? ⟨bm + 1 + 1, 1, none⟩ = some (.int .i64 0) := S9.out.boxAt 1
        have z2 : y9.cell? ⟨bm + 1 + 1, 2, none⟩ = some (.int .i64 0) := S9.out.boxAt 2
        have z3 : y9.cell? ⟨bm + 1 + 1, 3, none⟩ = some (.bool false) := S9.out.boxAt 3
        have z4 : y9.cell? ⟨bm + 1 + 1, 4, none⟩ = some (.int .i64 0) := S9.out.boxAt 4
        have zf0 : y9.frozen? ⟨bm + 1 + 1, 0, none⟩ = false := S9.out.fz 0
        have zf1 : y9.frozen? ⟨bm + 1 + 1, 1, none⟩ = false := S9.out.fz 1
        have zf2 : y9.frozen? ⟨bm + 1 + 1, 2, none⟩ = false := S9.out.fz 2
        have zf3 : y9.frozen? ⟨bm + 1 + 1, 3, none⟩ = false := S9.out.fz 3
        have zf4 : y9.frozen? ⟨bm + 1 + 1, 4, none⟩ = false := S9.out.fz 4
        have SZ := Lib.hid ((((((S9.out.setAt [] 0 (.slice p1 cols.length cp1)).setAt [] 1 (.int .i64 o)).setAt [] 2 (.int .i64 0)).setAt [] 3 (.bool true)).setAt [] 4 (.int .i64 (ld + n))))
        clear S9
        go_wp2_with fail
        have hR := HRES.out
        subst hR
        refine bodyPost_ret (results_mt rfl _ _ (bm + 1 + 1) _ rfl SZ.out.at.2 rfl) rfl ?_
        exact ⟨_, _, rfl, (SZ.out.sub (.cons _ (.cons _ (.cons _ (.refl _))))).none_ 40 3⟩
    · have ho1 : (o == 0) = false := by simpa using ho
      have HRES : Hid (R = (⟨cols, o, kk, fr, ld + n⟩, [])) := Lib.hid (by rw [← HR.out]; unfold stepF; rw [if_neg (by decide), if_neg (by decide), if_pos rfl, if_neg (fun h => ho h.2), if_neg ho])
      clear HR
      go_upto_region 12 with fail
      clear c1 c3 r0
      have c0 : y2.cell? ⟨bm, 0, none⟩ = some (.slice p1 cols.length cp1) := S6.out.tl.tl.boxAt 0
      have c1 : y2.cell? ⟨bm, 1, none⟩ = some (.int .i64 o) := S6.out.tl.tl.boxAt 1
      have c2 : y2.cell? ⟨bm, 2, none⟩ = some (.int .i64 kk) := S6.out.tl.tl.boxAt 2
      have c3 : y2.cell? ⟨bm, 3, none⟩ = some (.bool fr) := S6.out.tl.tl.boxAt 3
      have c4 : y2.cell? ⟨bm, 4, none⟩ = some (.int .i64 ld) := S6.out.tl.tl.boxAt 4
      go_wp2_with fail
      refine (begins_all (cols := cols)).mono ?_
      rintro _ w3 ⟨rfl, hb⟩
      have Tw3 := Lib.hid (S6.out.up hb)
      clear hb S6 c0 c1 c2 c3 c4
      rw [show ((fr && decide (o = 0)) = false) from by simp [ho]]
      go_upto_region 14 with fail
      have t4 : w3.cell? ⟨bm, 4, none⟩ = some (.int .i64 ld) := Tw3.out.tl.tl.boxAt 4
      have tf4 : w3.frozen? ⟨bm, 4, none⟩ = false := Tw3.out.tl.tl.fz 4
      have r1 : w3.cell? ⟨bm + 1, 1, none⟩ = some (.int .i64 n) := Tw3.out.tl.boxAt 1
      go_upto_region 15 with fail
      refine at_world (fun y => Sep B w0 y (bxM (bm + 1 + 1) zA :: bxR (bm + 1) #[.int .i64 19, .int .i64 n, .int .i64 lk] :: bxM bm #[.slice p1 cols.length cp1, .int .i64 o, .int .i64 kk, .bool fr, .int .i64 (ld + n)] :: rI (.slice p1 cols.length cp1) cols :: X)) (Tw3.out.setAt [_, _] 4 (.int .i64 (ld + n))) fun y9 hy9 => ?_
      have S9 := Lib.hid hy9
      clear hy9 Tw3 t4 tf4 r1
      have a0 : y9.cell? ⟨bm, 0, none⟩ = some (.slice p1 cols.length cp1) := S9.out.tl.tl.boxAt 0
      have a1 : y9.cell? ⟨bm, 1, none⟩ = some (.int .i64 o) := S9.out.tl.tl.boxAt 1
      have a2 : y9.cell? ⟨bm, 2, none⟩ = some (.int .i64 kk) := S9.out.tl.tl.boxAt 2
      have a3 : y9.cell? ⟨bm, 3, none⟩ = some (.bool fr) := S9.out.tl.tl.boxAt 3
      have a4 : y9.cell? ⟨bm, 4, none⟩ = some (.int .i64 (ld + n)) := S9.out.tl.tl.boxAt 4
      have z0 : y9.cell? ⟨bm + 1 + 1, 0, none⟩ = some (.slice none 0 0) := S9.out.boxAt 0
      have z1 : y9.cell? ⟨bm + 1 + 1, 1, none⟩ = some (.int .i64 0) := S9.out.boxAt 1
      have z2 : y9.cell? ⟨bm + 1 + 1, 2, none⟩ = some (.int .i64 0) := S9.out.boxAt 2
      have z3 : y9.cell? ⟨bm + 1 + 1, 3, none⟩ = some (.bool false) := S9.out.boxAt 3
      have z4 : y9.cell? ⟨bm + 1 + 1, 4, none⟩ = some (.int .i64 0) := S9.out.boxAt 4
      have zf0 : y9.frozen? ⟨bm + 1 + 1, 0, none⟩ = false := S9.out.fz 0
      have zf1 : y9.frozen? ⟨bm + 1 + 1, 1, none⟩ = false := S9.out.fz 1
      have zf2 : y9.frozen? ⟨bm + 1 + 1, 2, none⟩ = false := S9.out.fz 2
      have zf3 : y9.frozen? ⟨bm + 1 + 1, 3, none⟩ = false := S9.out.fz 3
      have zf4 : y9.frozen? ⟨bm + 1 + 1, 4, none⟩ = false := S9.out.fz 4
      have SZ := Lib.hid ((((((S9.out.setAt [] 0 (.slice p1 cols.length cp1)).setAt [] 1 (.int .i64 o)).setAt [] 2 (.int .i64 kk)).setAt [] 3 (.bool fr)).setAt [] 4 (.int .i64 (ld + n))))
      clear S9
      go_wp2_with fail
      have hR := HRES.out
      subst hR
      refine bodyPost_ret (results_mt rfl _ _ (bm + 1 + 1) _ rfl SZ.out.at.2 rfl) rfl ?_
      exact ⟨_, _, rfl, (SZ.out.sub (.cons _ (.cons _ (.cons _ (.refl _))))).none_ 40 3⟩
  · have hk19 : (k == 19) = false := by simpa using h19
    by_cases h25 : k = 25
    · subst h25
      have r0 : y2.cell? ⟨bm + 1, 0, none⟩ = some (.int .i64 25) := S6.out.tl.boxAt 0
      go_upto_region 12 with fail
      clear r0
      obtain ⟨bg, hbg⟩ : ∃ b, (fr && decide (o = 0)) = b := ⟨_, rfl⟩
      have HRES : Hid (R = (⟨cols, o, if bg = true then colC kk (bl s) else kk, fr, ld + n⟩, [])) := Lib.hid (by rw [← HR.out]; unfold stepF; rw [if_pos rfl]; unfold begF; simp only []; rw [hbg])
      clear HR
      have c0 : y2.cell? ⟨bm, 0, none⟩ = some (.slice p1 cols.length cp1) := S6.out.tl.tl.boxAt 0
      have c1 : y2.cell? ⟨bm, 1, none⟩ = some (.int .i64 o) := S6.out.tl.tl.boxAt 1
      have c2 : y2.cell? ⟨bm, 2, none⟩ = some (.int .i64 kk) := S6.out.tl.tl.boxAt 2
      have c3 : y2.cell? ⟨bm, 3, none⟩ = some (.bool fr) := S6.out.tl.tl.boxAt 3
      have c4 : y2.cell? ⟨bm, 4, none⟩ = some (.int .i64 ld) := S6.out.tl.tl.boxAt 4
      go_wp2_with fail
      refine (begins_all (cols := cols)).mono ?_
      rintro _ w3 ⟨rfl, hb⟩
      have Tw3 := Lib.hid (S6.out.up hb)
      clear hb S6 c0 c1 c2 c3 c4
      rw [show ((fr && decide (o = 0)) = bg) from hbg]
      clear hbg
      cases bg with
      | true =>
        rw [if_pos rfl] at HRES
        have d2 : w3.cell? ⟨bm, 2, none⟩ = some (.int .i64 kk) := Tw3.out.tl.tl.boxAt 2
        have df2 : w3.frozen? ⟨bm, 2, none⟩ = false := Tw3.out.tl.tl.fz 2
        obtain ⟨cv, hcv⟩ : ∃ cv, colC kk (bl s) = cv := ⟨_, rfl⟩
        have HCO := Lib.hid (column_any (w := w3) (c := kk) (s := s) hc0 hc1 HSS.out)
        rw [hcv] at HCO HRES
        clear hcv
        go_wp2_with fail
        refine HCO.out.mono ?_
        rintro _ _ ⟨rfl, rfl⟩
        clear HCO
        go_upto_region 14 with fail
        refine at_world (fun y => Sep B w0 y (bxM (bm + 1 + 1) zA :: bxR (bm + 1) #[.int .i64 25, .int .i64 n, .int .i64 lk] :: bxM bm #[.slice p1 cols.length cp1, .int .i64 o, .int .i64 cv, .bool fr, .int .i64 ld] :: rI (.slice p1 cols.length cp1) cols :: X)) (Tw3.out.setAt [_, _] 2 (.int .i64 cv)) fun y4 hy4 => ?_
        have S8 := Lib.hid hy4
        clear hy4 Tw3 d2 df2
        have t4 : y4.cell? ⟨bm, 4, none⟩ = some (.int .i64 ld) := S8.out.tl.tl.boxAt 4
        have tf4 : y4.frozen? ⟨bm, 4, none⟩ = false := S8.out.tl.tl.fz 4
        have r1 : y4.cell? ⟨bm + 1, 1, none⟩ = some (.int .i64 n) := S8.out.tl.boxAt 1
        go_upto_region 15 with fail
        refine at_world (fun y => Sep B w0 y (bxM (bm + 1 + 1) zA :: bxR (bm + 1) #[.int .i64 25, .int .i64 n, .int .i64 lk] :: bxM bm #[.slice p1 cols.length cp1, .int .i64 o, .int .i64 cv, .bool fr, .int .i64 (ld + n)] :: rI (.slice p1 cols.length cp1) cols :: X)) (S8.out.setAt [_, _] 4 (.int .i64 (ld + n))) fun y9 hy9 => ?_
        have S9 := Lib.hid hy9
        clear hy9 S8 t4 tf4 r1
        have a0 : y9.cell? ⟨bm, 0, none⟩ = some (.slice p1 cols.length cp1) := S9.out.tl.tl.boxAt 0
        have a1 : y9.cell? ⟨bm, 1, none⟩ = some (.int .i64 o) := S9.out.tl.tl.boxAt 1
        have a2 : y9.cell? ⟨bm, 2, none⟩ = some (.int .i64 cv) := S9.out.tl.tl.boxAt 2
        have a3 : y9.cell? ⟨bm, 3, none⟩ = some (.bool fr) := S9.out.tl.tl.boxAt 3
        have a4 : y9.cell? ⟨bm, 4, none⟩ = some (.int .i64 (ld + n)) := S9.out.tl.tl.boxAt 4
        have z0 : y9.cell? ⟨bm + 1 + 1, 0, none⟩ = some (.slice none 0 0) := S9.out.boxAt 0
        have z1 : y9.cell? ⟨bm + 1 + 1, 1, none⟩ = some (.int .i64 0) := S9.out.boxAt 1
        have z2 : y9.cell? ⟨bm + 1 + 1, 2, none⟩ = some (.int .i64 0) := S9.out.boxAt 2
        have z3 : y9.cell? ⟨bm + 1 + 1, 3, none⟩ = some (.bool false) := S9.out.boxAt 3
        have z4 : y9.cell? ⟨bm + 1 + 1, 4, none⟩ = some (.int .i64 0) := S9.out.boxAt 4
        have zf0 : y9.frozen? ⟨bm + 1 + 1, 0, none⟩ = false := S9.out.fz 0
        have zf1 : y9.frozen? ⟨bm + 1 + 1, 1, none⟩ = false := S9.out.fz 1
        have zf2 : y9.frozen? ⟨bm + 1 + 1, 2, none⟩ = false := S9.out.fz 2
        have zf3 : y9.frozen? ⟨bm + 1 + 1, 3, none⟩ = false := S9.out.fz 3
        have zf4 : y9.frozen? ⟨bm + 1 + 1, 4, none⟩ = false := S9.out.fz 4
        have SZ := Lib.hid ((((((S9.out.setAt [] 0 (.slice p1 cols.length cp1)).setAt [] 1 (.int .i64 o)).setAt [] 2 (.int .i64 cv)).setAt [] 3 (.bool fr)).setAt [] 4 (.int .i64 (ld + n))))
        clear S9
        go_wp2_with fail
        have hR := HRES.out
        subst hR
        refine bodyPost_ret (results_mt rfl _ _ (bm + 1 + 1) _ rfl SZ.out.at.2 rfl) rfl ?_
        exact ⟨_, _, rfl, (SZ.out.sub (.cons _ (.cons _ (.cons _ (.refl _))))).none_ 40 3⟩
      | false =>
        rw [if_neg (by decide)] at HRES
        go_upto_region 14 with fail
        have t4 : w3.cell? ⟨bm, 4, none⟩ = some (.int .i64 ld) := Tw3.out.tl.tl.boxAt 4
        have tf4 : w3.frozen? ⟨bm, 4, none⟩ = false := Tw3.out.tl.tl.fz 4
        have r1 : w3.cell? ⟨bm + 1, 1, none⟩ = some (.int .i64 n) := Tw3.out.tl.boxAt 1
        go_upto_region 15 with fail
        refine at_world (fun y => Sep B w0 y (bxM (bm + 1 + 1) zA :: bxR (bm + 1) #[.int .i64 25, .int .i64 n, .int .i64 lk] :: bxM bm #[.slice p1 cols.length cp1, .int .i64 o, .int .i64 kk, .bool fr, .int .i64 (ld + n)] :: rI (.slice p1 cols.length cp1) cols :: X)) (Tw3.out.setAt [_, _] 4 (.int .i64 (ld + n))) fun y9 hy9 => ?_
        have S9 := Lib.hid hy9
        clear hy9 Tw3 t4 tf4 r1
        have a0 : y9.cell? ⟨bm, 0, none⟩ = some (.slice p1 cols.length cp1) := S9.out.tl.tl.boxAt 0
        have a1 : y9.cell? ⟨bm, 1, none⟩ = some (.int .i64 o) := S9.out.tl.tl.boxAt 1
        have a2 : y9.cell? ⟨bm, 2, none⟩ = some (.int .i64 kk) := S9.out.tl.tl.boxAt 2
        have a3 : y9.cell? ⟨bm, 3, none⟩ = some (.bool fr) := S9.out.tl.tl.boxAt 3
        have a4 : y9.cell? ⟨bm, 4, none⟩ = some (.int .i64 (ld + n)) := S9.out.tl.tl.boxAt 4
        have z0 : y9.cell? ⟨bm + 1 + 1, 0, none⟩ = some (.slice none 0 0) := S9.out.boxAt 0
        have z1 : y9.cell? ⟨bm + 1 + 1, 1, none⟩ = some (.int .i64 0) := S9.out.boxAt 1
        have z2 : y9.cell? ⟨bm + 1 + 1, 2, none⟩ = some (.int .i64 0) := S9.out.boxAt 2
        have z3 : y9.cell? ⟨bm + 1 + 1, 3, none⟩ = some (.bool false) := S9.out.boxAt 3
        have z4 : y9.cell? ⟨bm + 1 + 1, 4, none⟩ = some (.int .i64 0) := S9.out.boxAt 4
        have zf0 : y9.frozen? ⟨bm + 1 + 1, 0, none⟩ = false := S9.out.fz 0
        have zf1 : y9.frozen? ⟨bm + 1 + 1, 1, none⟩ = false := S9.out.fz 1
        have zf2 : y9.frozen? ⟨bm + 1 + 1, 2, none⟩ = false := S9.out.fz 2
        have zf3 : y9.frozen? ⟨bm + 1 + 1, 3, none⟩ = false := S9.out.fz 3
        have zf4 : y9.frozen? ⟨bm + 1 + 1, 4, none⟩ = false := S9.out.fz 4
        have SZ := Lib.hid ((((((S9.out.setAt [] 0 (.slice p1 cols.length cp1)).setAt [] 1 (.int .i64 o)).setAt [] 2 (.int .i64 kk)).setAt [] 3 (.bool fr)).setAt [] 4 (.int .i64 (ld + n))))
        clear S9
        go_wp2_with fail
        have hR := HRES.out
        subst hR
        refine bodyPost_ret (results_mt rfl _ _ (bm + 1 + 1) _ rfl SZ.out.at.2 rfl) rfl ?_
        exact ⟨_, _, rfl, (SZ.out.sub (.cons _ (.cons _ (.cons _ (.refl _))))).none_ 40 3⟩
    · have hk25 : (k == 25) = false := by simpa using h25
      by_cases h26 : k = 26
      · subst h26
        have HRES : Hid (R = (⟨cols, o, kk, fr, ld + n⟩, [])) := Lib.hid (by rw [← HR.out]; unfold stepF; rw [if_neg (by decide), if_pos (.inl rfl)])
        clear HR
        have r0 : y2.cell? ⟨bm + 1, 0, none⟩ = some (.int .i64 26) := S6.out.tl.boxAt 0
        go_upto_region 14 with fail
        clear r0
        have t4 : y2.cell? ⟨bm, 4, none⟩ = some (.int .i64 ld) := S6.out.tl.tl.boxAt 4
        have tf4 : y2.frozen? ⟨bm, 4, none⟩ = false := S6.out.tl.tl.fz 4
        have r1 : y2.cell? ⟨bm + 1, 1, none⟩ = some (.int .i64 n) := S6.out.tl.boxAt 1
        go_upto_region 15 with fail
        refine at_world (fun y => Sep B w0 y (bxM (bm + 1 + 1) zA :: bxR (bm + 1) #[.int .i64 26, .int .i64 n, .int .i64 lk] :: bxM bm #[.slice p1 cols.length cp1, .int .i64 o, .int .i64 kk, .bool fr, .int .i64 (ld + n)] :: rI (.slice p1 cols.length cp1) cols :: X)) (S6.out.setAt [_, _] 4 (.int .i64 (ld + n))) fun y9 hy9 => ?_
        have S9 := Lib.hid hy9
        clear hy9 S6 t4 tf4 r1
        have a0 : y9.cell? ⟨bm, 0, none⟩ = some (.slice p1 cols.length cp1) := S9.out.tl.tl.boxAt 0
        have a1 : y9.cell? ⟨bm, 1, none⟩ = some (.int .i64 o) := S9.out.tl.tl.boxAt 1
        have a2 : y9.cell? ⟨bm, 2, none⟩ = some (.int .i64 kk) := S9.out.tl.tl.boxAt 2
        have a3 : y9.cell? ⟨bm, 3, none⟩ = some (.bool fr) := S9.out.tl.tl.boxAt 3
        have a4 : y9.cell? ⟨bm, 4, none⟩ = some (.int .i64 (ld + n)) := S9.out.tl.tl.boxAt 4
        have z0 : y9.cell? ⟨bm + 1 + 1, 0, none⟩ = some (.slice none 0 0) := S9.out.boxAt 0
        have z1 : y9.cell? ⟨bm + 1 + 1, 1, none⟩ = some (.int .i64 0) := S9.out.boxAt 1
        have z2 : y9.cell? ⟨bm + 1 + 1, 2, none⟩ = some (.int .i64 0) := S9.out.boxAt 2
        have z3 : y9.cell? ⟨bm + 1 + 1, 3, none⟩ = some (.bool false) := S9.out.boxAt 3
        have z4 : y9.cell? ⟨bm + 1 + 1, 4, none⟩ = some (.int .i64 0) := S9.out.boxAt 4
        have zf0 : y9.frozen? ⟨bm + 1 + 1, 0, none⟩ = false := S9.out.fz 0
        have zf1 : y9.frozen? ⟨bm + 1 + 1, 1, none⟩ = false := S9.out.fz 1
        have zf2 : y9.frozen? ⟨bm + 1 + 1, 2, none⟩ = false := S9.out.fz 2
        have zf3 : y9.frozen? ⟨bm + 1 + 1, 3, none⟩ = false := S9.out.fz 3
        have zf4 : y9.frozen? ⟨bm + 1 + 1, 4, none⟩ = false := S9.out.fz 4
        have SZ := Lib.hid ((((((S9.out.setAt [] 0 (.slice p1 cols.length cp1)).setAt [] 1 (.int .i64 o)).setAt [] 2 (.int .i64 kk)).setAt [] 3 (.bool fr)).setAt [] 4 (.int .i64 (ld + n))))
        clear S9
        go_wp2_with fail
        have hR := HRES.out
        subst hR
        refine bodyPost_ret (results_mt rfl _ _ (bm + 1 + 1) _ rfl SZ.out.at.2 rfl) rfl ?_
        exact ⟨_, _, rfl, (SZ.out.sub (.cons _ (.cons _ (.cons _ (.refl _))))).none_ 40 3⟩
      · have hk26 : (k == 26) = false := by simpa using h26
        by_cases h27 : k = 27
        · subst h27
          have HRES : Hid (R = (⟨cols, o, kk, fr, ld + n⟩, [])) := Lib.hid (by rw [← HR.out]; unfold stepF; rw [if_neg (by decide), if_pos (.inr rfl)])
          clear HR
          have r0 : y2.cell? ⟨bm + 1, 0, none⟩ = some (.int .i64 27) := S6.out.tl.boxAt 0
          go_upto_region 14 with fail
          clear r0
          have t4 : y2.cell? ⟨bm, 4, none⟩ = some (.int .i64 ld) := S6.out.tl.tl.boxAt 4
          have tf4 : y2.frozen? ⟨bm, 4, none⟩ = false := S6.out.tl.tl.fz 4
          have r1 : y2.cell? ⟨bm + 1, 1, none⟩ = some (.int .i64 n) := S6.out.tl.boxAt 1
          go_upto_region 15 with fail
          refine at_world (fun y => Sep B w0 y (bxM (bm + 1 + 1) zA :: bxR (bm + 1) #[.int .i64 27, .int .i64 n, .int .i64 lk] :: bxM bm #[.slice p1 cols.length cp1, .int .i64 o, .int .i64 kk, .bool fr, .int .i64 (ld + n)] :: rI (.slice p1 cols.length cp1) cols :: X)) (S6.out.setAt [_, _] 4 (.int .i64 (ld + n))) fun y9 hy9 => ?_
          have S9 := Lib.hid hy9
          clear hy9 S6 t4 tf4 r1
          have a0 : y9.cell? ⟨bm, 0, none⟩ = some (.slice p1 cols.length cp1) := S9.out.tl.tl.boxAt 0
          have a1 : y9.cell? ⟨bm, 1, none⟩ = some (.int .i64 o) := S9.out.tl.tl.boxAt 1
          have a2 : y9.cell? ⟨bm, 2, none⟩ = some (.int .i64 kk) := S9.out.tl.tl.boxAt 2
          have a3 : y9.cell? ⟨bm, 3, none⟩ = some (.bool fr) := S9.out.tl.tl.boxAt 3
          have a4 : y9.cell? ⟨bm, 4, none⟩ = some (.int .i64 (ld + n)) := S9.out.tl.tl.boxAt 4
          have z0 : y9.cell? ⟨bm + 1 + 1, 0, none⟩ = some (.slice none 0 0) := S9.out.boxAt 0
          have z1 : y9.cell? ⟨bm + 1 + 1, 1, none⟩ = some (.int .i64 0) := S9.out.boxAt 1
          have z2 : y9.cell? ⟨bm + 1 + 1, 2, none⟩ = some (.int .i64 0) := S9.out.boxAt 2
          have z3 : y9.cell? ⟨bm + 1 + 1, 3, none⟩ = some (.bool false) := S9.out.boxAt 3
          have z4 : y9.cell? ⟨bm + 1 + 1, 4, none⟩ = some (.int .i64 0) := S9.out.boxAt 4
          have zf0 : y9.frozen? ⟨bm + 1 + 1, 0, none⟩ = false := S9.out.fz 0
          have zf1 : y9.frozen? ⟨bm + 1 + 1, 1, none⟩ = false := S9.out.fz 1
          have zf2 : y9.frozen? ⟨bm + 1 + 1, 2, none⟩ = false := S9.out.fz 2
          have zf3 : y9.frozen? ⟨bm + 1 + 1, 3, none⟩ = false := S9.out.fz 3
          have zf4 : y9.frozen? ⟨bm + 1 + 1, 4, none⟩ = false := S9.out.fz 4
          have SZ := Lib.hid ((((((S9.out.setAt [] 0 (.slice p1 cols.length cp1)).setAt [] 1 (.int .i64 o)).setAt [] 2 (.int .i64 kk)).setAt [] 3 (.bool fr)).setAt [] 4 (.int .i64 (ld + n))))
          clear S9
          go_wp2_with fail
          have hR := HRES.out
          subst hR
          refine bodyPost_ret (results_mt rfl _ _ (bm + 1 + 1) _ rfl SZ.out.at.2 rfl) rfl ?_
          exact ⟨_, _, rfl, (SZ.out.sub (.cons _ (.cons _ (.cons _ (.refl _))))).none_ 40 3⟩
        · have hk27 : (k == 27) = false := by simpa using h27
          have HRES : Hid (R = tokF ⟨cols, o, kk, fr, ld⟩ k n) := Lib.hid (by rw [← HR.out]; unfold stepF; rw [if_neg h25, if_neg (fun h => h.elim h26 h27), if_neg h19])
          clear HR
          have HTK := Lib.hid (fun y h => token_any (B := B) (w0 := w0) (w := y) (v := .slice p1 cols.length cp1) (k := k) (n := n) (lk := lk) (X := bxM (bm + 1 + 1) zA :: bxR (bm + 1) #[.int .i64 k, .int .i64 n, .int .i64 lk] :: bxM bm #[.slice p1 cols.length cp1, .int .i64 o, .int .i64 kk, .bool fr, .int .i64 ld] :: X) HM.out h)
          unfold mkA rwV at HTK
          simp only [] at HTK
          have c0 : y2.cell? ⟨bm, 0, none⟩ = some (.slice p1 cols.length cp1) := S6.out.tl.tl.boxAt 0
          have c1 : y2.cell? ⟨bm, 1, none⟩ = some (.int .i64 o) := S6.out.tl.tl.boxAt 1
          have c2 : y2.cell? ⟨bm, 2, none⟩ = some (.int .i64 kk) := S6.out.tl.tl.boxAt 2
          have c3 : y2.cell? ⟨bm, 3, none⟩ = some (.bool fr) := S6.out.tl.tl.boxAt 3
          have c4 : y2.cell? ⟨bm, 4, none⟩ = some (.int .i64 ld) := S6.out.tl.tl.boxAt 4
          have r0 : y2.cell? ⟨bm + 1, 0, none⟩ = some (.int .i64 k) := S6.out.tl.boxAt 0
          have r1 : y2.cell? ⟨bm + 1, 1, none⟩ = some (.int .i64 n) := S6.out.tl.boxAt 1
          have r2 : y2.cell? ⟨bm + 1, 2, none⟩ = some (.int .i64 lk) := S6.out.tl.boxAt 2
          rw [← HRES.out] at HTK
          clear HRES
          go_wp2_with fail
          refine (HTK.out _ (S6.out.perm (List.perm_middle (l₁ := [_, _, _])))).mono ?_
          rintro _ w5 ⟨v5, t5, rfl, hs5⟩
          obtain ⟨⟨c5, o5, k5, f5, l5⟩, tk5⟩ := R
          simp only [] at hs5
          obtain ⟨p5, cp5, rfl⟩ := row_form hs5.tl.at
          have S7 := Lib.hid hs5
          unfold mkA
          simp only [] at S7 ⊢
          clear hs5 S6 HTK c0 c1 c2 c3 c4 r0 r1 r2
          have z0 : w5.cell? ⟨bm + 1 + 1, 0, none⟩ = some (.slice none 0 0) := S7.out.tl.tl.boxAt 0
          have z1 : w5.cell? ⟨bm + 1 + 1, 1, none⟩ = some (.int .i64 0) := S7.out.tl.tl.boxAt 1
          have z2 : w5.cell? ⟨bm + 1 + 1, 2, none⟩ = some (.int .i64 0) := S7.out.tl.tl.boxAt 2
          have z3 : w5.cell? ⟨bm + 1 + 1, 3, none⟩ = some (.bool false) := S7.out.tl.tl.boxAt 3
          have z4 : w5.cell? ⟨bm + 1 + 1, 4, none⟩ = some (.int .i64 0) := S7.out.tl.tl.boxAt 4
          have zf0 : w5.frozen? ⟨bm + 1 + 1, 0, none⟩ = false := S7.out.tl.tl.fz 0
          have zf1 : w5.frozen? ⟨bm + 1 + 1, 1, none⟩ = false := S7.out.tl.tl.fz 1
          have zf2 : w5.frozen? ⟨bm + 1 + 1, 2, none⟩ = false := S7.out.tl.tl.fz 2
          have zf3 : w5.frozen? ⟨bm + 1 + 1, 3, none⟩ = false := S7.out.tl.tl.fz 3
          have zf4 : w5.frozen? ⟨bm + 1 + 1, 4, none⟩ = false := S7.out.tl.tl.fz 4
          have SZ := Lib.hid ((((((S7.out.setAt [_, _] 0 (.slice p5 c5.length cp5)).setAt [_, _] 1 (.int .i64 o5)).setAt [_, _] 2 (.int .i64 k5)).setAt [_, _] 3 (.bool f5)).setAt [_, _] 4 (.int .i64 l5)))
          clear S7
          go_wp2_with fail
          refine bodyPost_ret (results_mt rfl _ _ (bm + 1 + 1) _ rfl SZ.out.tl.tl.at.2 rfl) rfl ?_
          exact ⟨_, _, rfl, SZ.out.sub (List.Sublist.cons_cons _ (List.Sublist.cons_cons _ (.cons _ (.cons _ (.cons _ (.refl _))))))⟩
end Go.Proofs.Ytemkppjdfjoipaa.I1
