/- Package indent. -/
import Derived.Test.YtemkppjdfjoipaaProg
import Derived.Test.YtemkppjdfjoipaaIg
import Derived.Great.BuildSlice
import Derived.WalkKit
import Derived.Maps.OwnSet
import Derived.Maps.OwnOps
import Derived.Maps.Own
import Derived.DeepKeys5
import Derived.BigFrame
import Derived.WalkMore
import Derived.ScopeJumps
import Derived.StillTailTactics
import Derived.Stop.BytesEq
import Derived.WalkLawsBesides
import Derived.WalkSpells
import Derived.Outline
import Derived.Lib.Walk
import Derived.Lib.Hide
import Derived.Lib.Slices
import Derived.Lib.Strings
import Derived.RegionTactic
import Derived.LoopTactic
import Derived.Below
import Derived.IntWalk
import Derived.Deep.QuietTactic
import Derived.BigQuiet
import Derived.Deep.MidRow
import Derived.Maps.AppendAt
import Derived.Laws.Rows
import Derived.Laws.Tables
import Derived.Deep.WholeRow
import Derived.Deep.Cut
import Derived.Deep.CutRange
import Derived.Lib.SliceRun
import Derived.Laws.MakeOwn
import Derived.Deep.RegionLaw
import Derived.Deep.RegionLawGrows
import Derived.Deep.RegionHeld3
import Derived.RegionCalls
import Derived.Deep.RegionWith
import Derived.Deep.Light
import Derived.Laws.CopyOwn
import Derived.Laws.ResultCell
namespace Go.Proofs.Ytemkppjdfjoipaa.I1
set_option linter.unusedSimpArgs false
set_option linter.unusedVariables false
set_option maxRecDepth 100000
open Go.RowKit
/- endLine, takeToken. -/
theorem zero24 : ∀ w, (zeroValue 36).run Try.prog w = .ok (.agg #[.slice none 0 0, .int .i64 0, .int .i64 0, .bool false, .int .i64 0]) w := (zero_of_info (show (Try.prog.info? 36).map (fun i => (i.zero, i.size)) = some (some (.agg #[.slice none 0 0, .int .i64 0, .int .i64 0, .bool false, .int .i64 0]), 5) by kernel_rfl)).1
def zA : Array Value := #[.slice none 0 0, .int .i64 0, .int .i64 0, .bool false, .int .i64 0]
abbrev bxM (b : Nat) (cs : Array Value) : It := .box b (.cells cs 36 (0, 0))
abbrev bxR (b : Nat) (cs : Array Value) : It := .box b (.cells cs 38 (0, 0))
theorem Sep.fz {B b : Nat} {w0 w : World} {L : List It} {cs : Array Value} {t : TypeId} (h : Sep B w0 w (.box b (.cells cs t (0, 0)) :: L)) (j : Nat) : w.frozen? ⟨b, j, none⟩ = false := frozen_of_row w b j cs t h.at.2
theorem Sep.setc {B b : Nat} {w0 w : World} {L : List It} {cs : Array Value} {t : TypeId} (h : Sep B w0 w (.box b (.cells cs t (0, 0)) :: L)) (i : Nat) (v : Value) : Sep B w0 (w.setCell ⟨b, i, none⟩ v) (.box b (.cells (cs.setIfInBounds i v) t (0, 0)) :: L) :=
  h.put ⟨rfl, rfl, rfl, by simp, fun k hk hne => heap_setCell_other w _ k _ (fun e => hne (by rw [e]))⟩ (heap_setCell_same w b i cs t v h.at.2)
theorem Sep.setAt {B b : Nat} {w0 w : World} (L1 : List It) {L2 : List It} {cs : Array Value} {t : TypeId} (h : Sep B w0 w (L1 ++ .box b (.cells cs t (0, 0)) :: L2)) (i : Nat) (v : Value) : Sep B w0 (w.setCell ⟨b, i, none⟩ v) (L1 ++ .box b (.cells (cs.setIfInBounds i v) t (0, 0)) :: L2) :=
  ((h.perm List.perm_middle).setc i v).perm List.perm_middle.symm
theorem Sep.boxes3 {B : Nat} {w0 w : World} {L : List It} (h : Sep B w0 w L) (x y z : Obj) : Sep B w0 (((w.alloc x).alloc y).alloc z) (.box (w.heap.size + 1 + 1) z :: .box (w.heap.size + 1) y :: .box w.heap.size x :: L) := by
  have h3 := ((h.alloc x).alloc y).alloc z
  simpa using h3
theorem Sep.sub {B : Nat} {w0 w : World} {L L' : List It} (h : Sep B w0 w L) (hs : List.Sublist L' L) : Sep B w0 w L' :=
  ⟨h.bel, h.sz, fun x hx => h.li x (hs.subset hx), h.ap.sublist hs⟩
theorem info24 : (Try.prog.info? 36).map (·.size) = some 5 := by kernel_rfl
theorem results_mt {fn : Func} {p u : Tmp} (h : fn.results = #[.cell p 36, .tmp u]) (tmps : Array Value) (w : World) (g : Nat) (cs : Array Value)
    (hp : tmps.getD p undef = .pointer (some ⟨g, 0, none⟩)) (hg : w.heap[g]? = some (.cells cs 36 (0, 0))) (hs : cs.size = 5) :
    (results fn tmps).run Try.prog w = .ok (.tuple #[.agg cs, tmps.getD u undef]) w := by
  have hl := run_loadVar_row (P := Try.prog) w g 36 36 _ (0, 0) _ hg Try.underlying36 rfl (by rw [info24, hs])
  rw [results_cell_tmp h, hp]
  simp [asAddr, hl, Result.andThen]
def StepP (B : Nat) (w0 : World) (X : List It) (R : Mk × List Tk) (e : Ending) (w' : World) : Prop := ∃ v t, e = .returned (.tuple #[.agg (mkA v R.1), t]) ∧ Sep B w0 w' (rT t R.2 :: rI v R.1.cols :: X)
set_option maxHeartbeats 8000000 in
theorem endline_any {B : Nat} {w0 w : World} {v : Value} {m : Mk} {k n lk : Int} {X : List It} (hs : Sep B w0 w (rI v m.cols :: X)) :
    Calls Try.prog 52 #[.agg (mkA v m), .agg (rwV k n lk)] w (StepP B w0 X (⟨m.cols, m.opn, 0, true, 0⟩, [(19, m.lead, n)])) := by
  obtain ⟨cols, o, kk, fr, ld⟩ := m
  unfold mkA rwV
  simp only [] at hs ⊢
  obtain ⟨p, c, rfl⟩ := row_form hs.at
  obtain ⟨v, hv⟩ : ∃ v, Value.slice p cols.length c = v := ⟨_, rfl⟩
  rw [hv] at hs ⊢
  have hz := zero24
  obtain ⟨bm, hbm⟩ : ∃ b, w.heap.size = b := ⟨_, rfl⟩
  have S3 := Lib.hid (hs.boxes3 (.cells #[v, .int .i64 o, .int .i64 kk, .bool fr, .int .i64 ld] 36) (.cells #[.int .i64 k, .int .i64 n, .int .i64 lk] 38) (.cells zA 36))
  rw [hbm] at S3
  clear hs
  go_enter Try.func52, Try.ntmps52
  go_upto_region 1 with fail
  refine at_world (fun y => Sep B w0 y (bxM (bm + 1 + 1) zA :: bxR (bm + 1) #[.int .i64 k, .int .i64 n, .int .i64 lk] :: bxM bm #[v, .int .i64 o, .int .i64 kk, .bool fr, .int .i64 ld] :: rI v cols :: X)) S3.out fun y hy => ?_
  have S4 := Lib.hid (hy.alloc (.cells #[.int .i64 19, .int .i64 ld, .int .i64 n] 40))
  obtain ⟨b3, hb3⟩ : ∃ b, y.heap.size = b := ⟨_, rfl⟩
  rw [hb3] at S4
  have c4 : y.cell? ⟨bm, 4, none⟩ = some (.int .i64 ld) := hy.tl.tl.boxAt 4
  have d1 : y.cell? ⟨bm + 1, 1, none⟩ = some (.int .i64 n) := hy.tl.boxAt 1
  clear hy S3
  go_upto_region 2 with fail
  refine at_world (fun y => Sep B w0 y (.box b3 (.cells #[.int .i64 19, .int .i64 ld, .int .i64 n] 40) :: bxM (bm + 1 + 1) zA :: bxR (bm + 1) #[.int .i64 k, .int .i64 n, .int .i64 lk] :: bxM bm #[v, .int .i64 o, .int .i64 kk, .bool fr, .int .i64 ld] :: rI v cols :: X)) S4.out fun y2 hy2 => ?_
  have S5 := Lib.hid hy2
  have c2 : y2.cell? ⟨bm, 2, none⟩ = some (.int .i64 kk) := hy2.tl.tl.tl.boxAt 2
  have c3 : y2.cell? ⟨bm, 3, none⟩ = some (.bool fr) := hy2.tl.tl.tl.boxAt 3
  have c4' : y2.cell? ⟨bm, 4, none⟩ = some (.int .i64 ld) := hy2.tl.tl.tl.boxAt 4
  have f2 : y2.frozen? ⟨bm, 2, none⟩ = false := hy2.tl.tl.tl.fz 2
  have f3 : y2.frozen? ⟨bm, 3, none⟩ = false := hy2.tl.tl.tl.fz 3
  have f4 : y2.frozen? ⟨bm, 4, none⟩ = false := hy2.tl.tl.tl.fz 4
  clear hy2 S4 c4 d1
  go_upto_region 3 with fail
  refine at_world (fun y => Sep B w0 y (.box b3 (.cells #[.int .i64 19, .int .i64 ld, .int .i64 n] 40) :: bxM (bm + 1 + 1) zA :: bxR (bm + 1) #[.int .i64 k, .int .i64 n, .int .i64 lk] :: bxM bm #[v, .int .i64 o, .int .i64 0, .bool true, .int .i64 0] :: rI v cols :: X)) (((S5.out.setAt [_, _, _] 4 _).setAt [_, _, _] 2 _).setAt [_, _, _] 3 _) fun y3 hy3 => ?_
  have S6 := Lib.hid hy3
  have c0 : y3.cell? ⟨bm, 0, none⟩ = some v := hy3.tl.tl.tl.boxAt 0
  have c1 : y3.cell? ⟨bm, 1, none⟩ = some (.int .i64 o) := hy3.tl.tl.tl.boxAt 1
  have c2'' : y3.cell? ⟨bm, 2, none⟩ = some (.int .i64 0) := hy3.tl.tl.tl.boxAt 2
  have c3'' : y3.cell? ⟨bm, 3, none⟩ = some (.bool true) := hy3.tl.tl.tl.boxAt 3
  have c4'' : y3.cell? ⟨bm, 4, none⟩ = some (.int .i64 0) := hy3.tl.tl.tl.boxAt 4
  have g0 : y3.frozen? ⟨bm + 1 + 1, 0, none⟩ = false := hy3.tl.fz 0
  have g1 : y3.frozen? ⟨bm + 1 + 1, 1, none⟩ = false := hy3.tl.fz 1
  have g2 : y3.frozen? ⟨bm + 1 + 1, 2, none⟩ = false := hy3.tl.fz 2
  have g3 : y3.frozen? ⟨bm + 1 + 1, 3, none⟩ = false := hy3.tl.fz 3
  have g4 : y3.frozen? ⟨bm + 1 + 1, 4, none⟩ = false := hy3.tl.fz 4
  have e0 : y3.cell? ⟨bm + 1 + 1, 0, none⟩ = some (.slice none 0 0) := hy3.tl.boxAt 0
  have e1 : y3.cell? ⟨bm + 1 + 1, 1, none⟩ = some (.int .i64 0) := hy3.tl.boxAt 1
  have e2 : y3.cell? ⟨bm + 1 + 1, 2, none⟩ = some (.int .i64 0) := hy3.tl.boxAt 2
  have e3 : y3.cell? ⟨bm + 1 + 1, 3, none⟩ = some (.bool false) := hy3.tl.boxAt 3
  have e4 : y3.cell? ⟨bm + 1 + 1, 4, none⟩ = some (.int .i64 0) := hy3.tl.boxAt 4
  clear hy3 S5 c2 c3 c4' f2 f3 f4
  subst hv
  have S7 := Lib.hid ((((((S6.out.setAt [_] 0 (.slice p cols.length c)).setAt [_] 1 (.int .i64 o)).setAt [_] 2 (.int .i64 0)).setAt [_] 3 (.bool true)).setAt [_] 4 (.int .i64 0)))
  clear S6
  go_wp2_with fail
  refine bodyPost_ret (results_mt rfl _ _ (bm + 1 + 1) _ rfl S7.out.tl.at.2 rfl) rfl ?_
  exact ⟨_, _, rfl, S7.out.oneT.sub (List.Sublist.cons_cons _ (.cons _ (.cons _ (.cons _ (.refl _)))))⟩
end Go.Proofs.Ytemkppjdfjoipaa.I1
