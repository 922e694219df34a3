/- Package nfa. -/
import Derived.Test.YtnhfeakndofokaaProg
import Derived.Test.YtnhfeakndofokaaN19
import Derived.WalkKit
import Derived.WalkLawsBesides
import Derived.WalkSpells
import Derived.Outline
import Derived.Lib.Walk
import Derived.Lib.Hide
import Derived.Lib.Slices
import Derived.Lib.Strings
import Derived.RegionTactic
import Derived.LoopTactic
import Derived.Below
import Derived.IntWalk
import Derived.Deep.QuietTactic
import Derived.BigQuiet
import Derived.Deep.MidRow
import Derived.Maps.AppendAt
import Derived.Laws.Rows
import Derived.Laws.Tables
import Derived.Deep.WholeRow
import Derived.Deep.Cut
import Derived.Deep.CutRange
import Derived.Lib.SliceRun
import Derived.Laws.MakeOwn
import Derived.Deep.RegionLaw
import Derived.Deep.RegionLawGrows
namespace Go.Proofs.Ytnhfeakndofokaa
set_option linter.unusedSimpArgs false
set_option linter.unusedVariables false
set_option maxRecDepth 100000
open Go.RowKit
/- What is laid of a star of a set. -/
set_option maxHeartbeats 8000000 in
theorem lay_star {B : Nat} {P : Nat → Prop} {w0 y : World} {bb : Nat} {ss : List Nq} {sl : Value} {u us : Nat → Int} {t : Int} {p : Option Addr} {n c b o cs : Nat} (h : BB B P w0 y bb ss sl) (hlen : ss.length ≤ 4000)
    (hc : ∀ j v, (nodeC 2 u (.slice p n c))[j]? = some v → y.cell? ⟨b, o + j, none⟩ = some v) :
    Calls Try.prog 34 #[.pointer (some ⟨bb, 0, none⟩), .agg (nodeC 5 us (.slice (some ⟨b, o, none⟩) 1 cs)), .int .i64 t] y fun e y' => e = .returned (.int .i64 (ss.length : Nat)) ∧ (∃ sl' q f, BB B P w0 y' bb (ss ++ [(⟨uZ, -1, [t, (ss.length : Int) + 1], -1⟩, q, f), (⟨u, (ss.length : Nat), [], -1⟩, none, 0)]) sl') ∧ ∀ b, P b → y'.heap[b]? = y.heap[b]? := by
  have hbl := blk_lt (hc 0 _ rfl)
  have hb0 := (((Below.refl y.heap.size y).alloc (Nat.le_refl _) (.cells #[.pointer (some ⟨bb, 0, none⟩)] 82)).alloc (by simp) (.cells (nodeC 5 us (.slice (some ⟨b, o, none⟩) 1 cs)) 56)).alloc (by simp; omega) (.cells #[.int .i64 t] 3)
  have HB := Lib.hid (h.up hb0)
  have HK := Lib.hid fun b (hp : P b) => hb0.block b (h.pr b hp).1
  have HCC := Lib.hid fun j v hv => (cell_same (hb0.block b hbl) _).trans (hc j v hv)
  have S0 := Lib.hid ((((Sb.start y).alloc (.cells #[.pointer (some ⟨bb, 0, none⟩)] 82)).alloc (.cells (nodeC 5 us (.slice (some ⟨b, o, none⟩) 1 cs)) 56)).alloc (.cells #[.int .i64 t] 3))
  clear h hc hb0
  unfold nodeC at *
  go_enter Try.func34, Try.ntmps34
  go_upto_region 14 with fail
  have z1 : (y.alloc (.cells #[.pointer (some ⟨bb, 0, none⟩)] 82)).heap.size = y.heap.size + 1 := by simp
  have z2 : ((y.alloc (.cells #[.pointer (some ⟨bb, 0, none⟩)] 82)).alloc (.cells #[.int .i64 5, .int .u64 (us 0), .int .u64 (us 1), .int .u64 (us 2), .int .u64 (us 3), .slice (some ⟨b, o, none⟩) 1 cs] 56)).heap.size = y.heap.size + 1 + 1 := by simp
  rw [z1, z2] at S0
  clear z1 z2
  refine at_world (fun z => BB B P w0 z bb ss sl ∧ Sb y z [(y.heap.size + 1 + 1, .cells #[.int .i64 t] 3), (y.heap.size + 1, .cells #[.int .i64 5, .int .u64 (us 0), .int .u64 (us 1), .int .u64 (us 2), .int .u64 (us 3), .slice (some ⟨b, o, none⟩) 1 cs] 56), (y.heap.size, .cells #[.pointer (some ⟨bb, 0, none⟩)] 82)] ∧ (∀ j v, (#[.int .i64 2, .int .u64 (u 0), .int .u64 (u 1), .int .u64 (u 2), .int .u64 (u 3), .slice p n c] : Array Value)[j]? = some v → z.cell? ⟨b, o + j, none⟩ = some v) ∧ ∀ b, P b → z.heap[b]? = y.heap[b]?) ⟨HB.out, S0.out, HCC.out, HK.out⟩ fun z hz => ?_
  have H1 := Lib.hid hz.1
  have S1 := Lib.hid hz.2.1
  have HK1 := Lib.hid hz.2.2.2
  have d0 : z.cell? ⟨b, o, none⟩ = some (.int .i64 2) := hz.2.2.1 0 _ rfl
  have d1 : z.cell? ⟨b, o + 1, none⟩ = some (.int .u64 (u 0)) := hz.2.2.1 1 _ rfl
  have d2 : z.cell? ⟨b, o + 2, none⟩ = some (.int .u64 (u 1)) := hz.2.2.1 2 _ rfl
  have d3 : z.cell? ⟨b, o + 3, none⟩ = some (.int .u64 (u 2)) := hz.2.2.1 3 _ rfl
  have d4 : z.cell? ⟨b, o + 4, none⟩ = some (.int .u64 (u 3)) := hz.2.2.1 4 _ rfl
  have d5 : z.cell? ⟨b, o + 5, none⟩ = some (.slice p n c) := hz.2.2.1 5 _ rfl
  have x0 : z.cell? ⟨y.heap.size, 0, none⟩ = some (.pointer (some ⟨bb, 0, none⟩)) := S1.out.tl.tl.cell 0
  have x1 : z.cell? ⟨y.heap.size + 1, 5, none⟩ = some (.slice (some ⟨b, o, none⟩) 1 cs) := S1.out.tl.cell 5
  have x2 : z.cell? ⟨y.heap.size + 1 + 1, 0, none⟩ = some (.int .i64 t) := S1.out.cell 0
  have HC := Lib.hid (loop_set (u := u) (t := t) (p := p) (n := n) (c := c) (H1.out.up (below_drewN (Below.refl z.heap.size z) 1)) hlen)
  unfold nodeC at HC
  clear hz HB S0 HCC HK S1
  go_region_law (go_simp; go_at_call 57; refine HC.out.mono ?_; rintro _ y5 ⟨rfl, h5, hk5⟩)
  all_goals
    simp only [Act.put, List.getElem_toArray, List.getElem_cons_zero, List.getElem_cons_succ, List.setIfInBounds_toArray, List.set_cons_zero, List.set_cons_succ]
    obtain ⟨sl5, q5, f5, h6⟩ := h5
    have H6 := Lib.hid h6
    have HK6 := Lib.hid fun b hp => (hk5 b hp).trans (HK1.out b hp)
    clear h6 hk5 HC H1 HK1 d0 d1 d2 d3 d4 d5 x0 x1 x2
    refine at_worldQ (fun x => BB B P w0 x bb (ss ++ [(⟨uZ, -1, [t, (ss.length : Int) + 1], -1⟩, q5, f5), (⟨u, (ss.length : Nat), [], -1⟩, none, 0)]) sl5 ∧ ∀ b, P b → x.heap[b]? = y.heap[b]?) ⟨H6.out, HK6.out⟩ fun x hx => ?_
    have H9 := Lib.hid hx
    clear hx H6 HK6
    go_wp2_with fail
    go_ret
    exact ⟨rfl, ⟨_, _, _, H9.out.1⟩, H9.out.2⟩
end Go.Proofs.Ytnhfeakndofokaa
