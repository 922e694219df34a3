/- Texts of package regs, one behind the other. -/
import Derived.Test.YthglciccejholaaDoorProg
import Derived.Test.YthglciccejholaaDoorY10
import Derived.WalkKit
import Derived.WalkLawsBesides
import Derived.WalkSpells
import Derived.Outline
import Derived.Lib.Walk
import Derived.Lib.Hide
import Derived.Lib.Slices
import Derived.Lib.Strings
import Derived.RegionTactic
import Derived.LoopTactic
import Derived.Below
import Derived.IntWalk
import Derived.Deep.QuietTactic
import Derived.BigQuiet
import Derived.Deep.MidRow
import Derived.Maps.AppendAt
import Derived.Laws.Rows
import Derived.Laws.Tables
import Derived.Deep.WholeRow
import Derived.Deep.Cut
import Derived.Deep.CutRange
import Derived.Lib.SliceRun
import Derived.Laws.MakeOwn
import Derived.Deep.RegionLaw
import Derived.Deep.RegionLawGrows
import Derived.Test.YthglciccejholaaDoorY3
section
/- Package nfa. -/
namespace Go.Proofs.YthglciccejholaaDoor
set_option linter.unusedSimpArgs false
set_option linter.unusedVariables false
set_option maxRecDepth 100000
open Go.RowKit
/- add. -/
theorem ret_i6 {a b : Int} (h : a = b) : Ending.returned (.int .i64 a) = .returned (.int .i64 b) := by rw [h]
theorem Ts.box {B bb : Nat} {P : Nat → Prop} {zs : List Nq} {sl : Value} {w : World} (h : Ts B bb P zs sl w) (hne : sl.ownBlock ≠ some bb) (v : Value) : Ts B bb P zs sl (w.setCell ⟨bb, 0, none⟩ v) := by
  obtain ⟨h3, h4⟩ := h
  refine ⟨fun i hi => (h3 i hi).mono (fun b h => ⟨h.1, by simpa using h.2.1, h.2.2⟩) (fun b h _ => heap_setCell_other w ⟨bb, 0, none⟩ b _ h.2.2.2.1), ?_⟩
  refine World.ownsRow.kept h4 (row := some bb) ⟨rfl, rfl, rfl, by simp, fun k hk hne => heap_setCell_other w _ k _ (fun e => hne (by rw [e]))⟩ ?_
  by_cases hp : sl.ownBlock = none
  · exact .inl hp
  · exact .inr hne
set_option maxHeartbeats 8000000 in
theorem add_any {B : Nat} {P : Nat → Prop} {w0 y : World} {bb : Nat} {ss : List Nq} {sl : Value} {u : Nat → Int} {tg rl : Int} {fr : List Int} {q : Option Addr} {f : Nat} (h : BB B P w0 y bb ss sl) (hlen : ss.length ≤ 1000000000)
    (hfr : IVf (fun b => B ≤ b ∧ b < y.heap.size ∧ some b ≠ sl.ownBlock ∧ b ≠ bb ∧ ¬ P b) y fr (.slice q fr.length f)) :
    Calls Tryd.prog 76 #[.pointer (some ⟨bb, 0, none⟩), .agg (stC u tg (.slice q fr.length f) rl)] y fun e y' => e = .returned (.int .i64 (ss.length : Nat)) ∧ (∃ sl', BB B P w0 y' bb (ss ++ [(⟨u, tg, fr, rl⟩, q, f)]) sl') ∧ ∀ b, P b → y'.heap[b]? = y.heap[b]? := by
  obtain ⟨i0, hi, hz0, hz1, hz2⟩ := info_parts info49b
  obtain ⟨p, c, rfl⟩ : ∃ p c, sl = .slice p ss.length c := by
    exact row_form7 h.ts.2
  have hb0 := (Below.refl y.heap.size y).alloc (Nat.le_refl _) (.cells (stC u tg (.slice q fr.length f) rl) 73)
  have H1 := Lib.hid (h.up hb0)
  have HB1 := Lib.hid (heap_alloc_last y (.cells (stC u tg (.slice q fr.length f) rl) 73))
  have HFR : Hid (IVf (fun b => B ≤ b ∧ b < y.heap.size ∧ some b ≠ (Value.slice p ss.length c).ownBlock ∧ b ≠ bb ∧ ¬ P b) (y.alloc (.cells (stC u tg (.slice q fr.length f) rl) 73)) fr (.slice q fr.length f)) := Lib.hid (hfr.mono (fun b h => h) (fun b h _ => hb0.block b h.2.1))
  have HPR := Lib.hid h.pr
  have hsz1 : (y.alloc (.cells (stC u tg (.slice q fr.length f) rl) 73)).heap.size = y.heap.size + 1 := by simp
  have HPK : Hid (∀ b, P b → (y.alloc (.cells (stC u tg (.slice q fr.length f) rl) 73)).heap[b]? = y.heap[b]?) := Lib.hid fun b hp => hb0.block b (h.pr b hp).1
  clear h hfr hb0
  unfold stC at *
  go_enter Tryd.func76, Tryd.ntmps76
  go_upto_region 1 with fail
  refine at_world (fun z => BB B P w0 z bb ss (.slice p ss.length c) ∧ z.heap[y.heap.size]? = some (.cells (stC u tg (.slice q fr.length f) rl) 73) ∧ IVf (fun b => B ≤ b ∧ b < y.heap.size ∧ some b ≠ (Value.slice p ss.length c).ownBlock ∧ b ≠ bb ∧ ¬ P b) z fr (.slice q fr.length f) ∧ z.heap.size = y.heap.size + 1 ∧ ∀ b, P b → z.heap[b]? = y.heap[b]?) ⟨H1.out, HB1.out, HFR.out, hsz1, HPK.out⟩ fun z hz => ?_
  have H2 := Lib.hid hz.1
  have HFR2 := Lib.hid hz.2.2.1
  have HPK2 := Lib.hid hz.2.2.2.2
  have HSZ := Lib.hid hz.2.2.2.1
  have hbx := hz.2.1
  have cb : z.cell? ⟨bb, 0, none⟩ = some (.slice p ss.length c) := cell_of_row z bb 0 _ 77 (0, 0) hz.1.f
  have e0 : z.cell? ⟨y.heap.size, 0, none⟩ = some (.int .u64 (u 0)) := cell_of_row z y.heap.size 0 _ 73 (0, 0) hbx
  have e1 : z.cell? ⟨y.heap.size, 1, none⟩ = some (.int .u64 (u 1)) := cell_of_row z y.heap.size 1 _ 73 (0, 0) hbx
  have e2 : z.cell? ⟨y.heap.size, 2, none⟩ = some (.int .u64 (u 2)) := cell_of_row z y.heap.size 2 _ 73 (0, 0) hbx
  have e3 : z.cell? ⟨y.heap.size, 3, none⟩ = some (.int .u64 (u 3)) := cell_of_row z y.heap.size 3 _ 73 (0, 0) hbx
  have e4 : z.cell? ⟨y.heap.size, 4, none⟩ = some (.int .i64 tg) := cell_of_row z y.heap.size 4 _ 73 (0, 0) hbx
  have e5 : z.cell? ⟨y.heap.size, 5, none⟩ = some (.slice q fr.length f) := cell_of_row z y.heap.size 5 _ 73 (0, 0) hbx
  have e6 : z.cell? ⟨y.heap.size, 6, none⟩ = some (.int .i64 rl) := cell_of_row z y.heap.size 6 _ 73 (0, 0) hbx
  have hbb : bb < z.heap.size := (Array.getElem?_eq_some_iff.1 hz.1.f).1
  have cb2 : ∀ o, (z.alloc o).cell? ⟨bb, 0, none⟩ = some (.slice p ss.length c) := fun o => (cell_same (heap_alloc_old z o hbb) 0).trans cb
  have X3 := Lib.hid hz.1.ts
  have X4 := Lib.hid (World.ownsRow.alloc hz.1.ts.2 (.cells #[.int .u64 (u 0), .int .u64 (u 1), .int .u64 (u 2), .int .u64 (u 3), .int .i64 tg, .slice q fr.length f, .int .i64 rl] 73))
  have hc0 : ∀ j v, (stC u tg (.slice q fr.length f) rl).toList[j]? = some v → (z.alloc (.cells #[.int .u64 (u 0), .int .u64 (u 1), .int .u64 (u 2), .int .u64 (u 3), .int .i64 tg, .slice q fr.length f, .int .i64 rl] 73)).cell? ((⟨z.heap.size, 0, none⟩ : Addr).add j) = some v := fun j v hj => by
    rw [Addr.add_mid, cell_of_row _ z.heap.size (0 + j) _ 73 (0, 0) (heap_alloc_last z _), Nat.zero_add]
    rw [Array.getElem?_toList] at hj; exact hj
  have HC0 := Lib.hid hc0
  have hzsz := hz.1.sz
  have HYA := Lib.hid (show (z.alloc (.cells #[.int .u64 (u 0), .int .u64 (u 1), .int .u64 (u 2), .int .u64 (u 3), .int .i64 tg, .slice q fr.length f, .int .i64 rl] 73)).heap.size = z.heap.size + 1 by simp)
  clear hz hc0 H1 HB1 HFR HPK hsz1
  go_region_law (refine step_append_own rfl (.tmp 9) (.tmp 11) 31 rfl B 73 i0 _ 7 72 Tryd.underlying31 hi hz0 hz1 hz2 rfl (by decide) (.slice p ss.length c) ss.length (flat (ss.map zC)) (by simp [Act.eval, Act.put]) X4.out ⟨z.heap.size, 0, none⟩ 1 1 (stC u tg (.slice q fr.length f) rl).toList (by simp [Act.eval, Act.put]) rfl HC0.out (fun v hv => by simp [stC] at hv; rcases hv with rfl | rfl | rfl | rfl | rfl | rfl | rfl <;> rfl) (by unfold maxLen; omega) (by omega) (by have := HYA.out; show B ≤ (z.alloc _).heap.size; omega) ?_; intro v' w7 hown7 hgrow7 _ hat7; obtain ⟨p7, c7, rfl⟩ := row_form7 hown7; have hF7 : w7.heap[bb]? = some (.cells #[.slice p ss.length c] 77) := (hgrow7.block bb (by have := HYA.out; show bb < (z.alloc _).heap.size; omega) (fun e => H2.out.sb e.symm)).trans ((heap_alloc_old z _ hbb).trans H2.out.f); have hF8 : w7.cell? ⟨bb, 0, none⟩ = some (.slice p ss.length c) := cell_of_row w7 bb 0 _ 77 (0, 0) hF7; have hFf : w7.frozen? ⟨bb, 0, none⟩ = false := frozen_of_row w7 bb 0 _ 77 hF7)
  all_goals
    have hg7 : (z.alloc (.cells #[.int .u64 (u 0), .int .u64 (u 1), .int .u64 (u 2), .int .u64 (u 3), .int .i64 tg, .slice q fr.length f, .int .i64 rl] 73)).grownBy w7 (Value.slice p ss.length c).ownBlock := ⟨hgrow7.os, hgrow7.tape, hgrow7.output, hgrow7.size, hgrow7.block⟩
    have hat8 : (Value.slice p7 (ss.length + 1) c7).ownBlock = (Value.slice p ss.length c).ownBlock ∨ (Value.slice p7 (ss.length + 1) c7).ownBlock = some (z.alloc (.cells #[.int .u64 (u 0), .int .u64 (u 1), .int .u64 (u 2), .int .u64 (u 3), .int .i64 tg, .slice q fr.length f, .int .i64 rl] 73)).heap.size := hat7
    have hya := HYA.out
    have hsz0 := HSZ.out
    have hts : Ts B bb P (ss ++ [(⟨u, tg, fr, rl⟩, q, f)]) (.slice p7 (ss.length + 1) c7) w7 := Ts.app (s := (⟨u, tg, fr, rl⟩, q, f)) X3.out rfl (HFR2.out.mono (fun b h => ⟨h.1, by omega, h.2.2⟩) (fun b h _ => rfl)) hown7 hg7 hat8
    have hbel7 : Below B w0 w7 := below_grown (H2.out.bel.alloc H2.out.sz _) hg7 (fun g hg => (World.ownsRow.lt X4.out g hg).1) (by omega)
    have hsz7 := hg7.size
    have hnb : (Value.slice p7 (ss.length + 1) c7).ownBlock ≠ some bb := by
      rcases hat8 with e | e
      · rw [e]; exact H2.out.sb
      · rw [e]; intro h; cases h; omega
    have H8 : Hid (BB B P w0 (w7.setCell ⟨bb, 0, none⟩ (.slice p7 (ss.length + 1) c7)) bb (ss ++ [(⟨u, tg, fr, rl⟩, q, f)]) (.slice p7 (ss.length + 1) c7)) := Lib.hid ⟨hbel7.setCell (p := ⟨bb, 0, none⟩) H2.out.hb _, heap_setCell_same w7 bb 0 _ 77 _ hF7, hts.box hnb _, H2.out.hb, hnb, by simp; omega, fun b hp => by
      have h9 := HPR.out b hp
      refine ⟨by simp; omega, h9.2.1, ?_⟩
      rcases hat8 with e | e
      · rw [e]; exact h9.2.2
      · rw [e]; intro h; cases h; omega⟩
    have HPK3 : Hid (∀ b, P b → (w7.setCell ⟨bb, 0, none⟩ (.slice p7 (ss.length + 1) c7)).heap[b]? = y.heap[b]?) := Lib.hid fun b hp => by
      have h9 := HPR.out b hp
      rw [heap_setCell_other w7 ⟨bb, 0, none⟩ b _ h9.2.1, hg7.block b (by omega) (fun e => h9.2.2 e), heap_alloc_old z _ (by omega), HPK2.out b hp]
    clear hg7 hat8 hat7 hown7 hgrow7 hts hbel7 hnb hF7 hF8 hFf X3 X4 HC0 H2 HFR2 HPK2 cb2
    refine at_worldQ (fun x => BB B P w0 x bb (ss ++ [(⟨u, tg, fr, rl⟩, q, f)]) (.slice p7 (ss.length + 1) c7) ∧ ∀ b, P b → x.heap[b]? = y.heap[b]?) ⟨H8.out, HPK3.out⟩ fun x hx => ?_
    have H9 := Lib.hid hx
    have cx : x.cell? ⟨bb, 0, none⟩ = some (.slice p7 (ss.length + 1) c7) := cell_of_row x bb 0 _ 77 (0, 0) hx.1.f
    clear hx H8 HPK3 e0 e1 e2 e3 e4 e5 e6 cb hbx
    go_wp2_with fail
    go_ret
    exact ⟨ret_i6 (by omega), ⟨_, H9.out.1⟩, H9.out.2⟩
end Go.Proofs.YthglciccejholaaDoor
end
section
/- Package nfa. -/
namespace Go.Proofs.YthglciccejholaaDoor
set_option linter.unusedSimpArgs false
set_option linter.unusedVariables false
set_option maxRecDepth 100000
open Go.RowKit
/- end; free; what is laid of a set. -/
theorem bend (r : Int) : Tryd.prog.built 73 [(1, .int .i64 (-1)), (3, .int .i64 r)] = some (stC uZ (-1) (.slice none 0 0) r) := by kernel_rfl
theorem wpList_bend {ops : Array Oper} {rest : List Oper} {o : Oper} {a : Act} {w : World} {Q : Exit → Act → World → Prop} {x y : Operand} {r : Int} (hg : o.guard = none) (ho : o.op = .build 73 #[(1, x), (3, y)]) (hx : a.eval x = .int .i64 (-1)) (hy : a.eval y = .int .i64 r)
    (h : wpList Tryd.prog ops Q rest (a.put o.dst (.agg (stC uZ (-1) (.slice none 0 0) r))) w) : wpList Tryd.prog ops Q (o :: rest) a w := by
  refine wpList_build hg 73 _ ho ?_ ?_
  · simp [hx, hy, bend]
  · simp [hx, hy, bend]; exact h
theorem bfree (p : Option Addr) (n c : Nat) : Tryd.prog.built 73 [(1, .int .i64 (-1)), (2, .slice p n c), (3, .int .i64 (-1))] = some (stC uZ (-1) (.slice p n c) (-1)) := by kernel_rfl
theorem wpList_bfree {ops : Array Oper} {rest : List Oper} {o : Oper} {a : Act} {w : World} {Q : Exit → Act → World → Prop} {x y z : Operand} {p : Option Addr} {n c : Nat} (hg : o.guard = none) (ho : o.op = .build 73 #[(1, x), (2, y), (3, z)]) (hx : a.eval x = .int .i64 (-1)) (hy : a.eval y = .slice p n c) (hz : a.eval z = .int .i64 (-1))
    (h : wpList Tryd.prog ops Q rest (a.put o.dst (.agg (stC uZ (-1) (.slice p n c) (-1)))) w) : wpList Tryd.prog ops Q (o :: rest) a w := by
  refine wpList_build hg 73 _ ho ?_ ?_
  · simp [hx, hy, hz, bfree]
  · simp [hx, hy, hz, bfree]; exact h
theorem bset (u : Nat → Int) (t : Int) : Tryd.prog.built 73 [(0, uV u), (1, .int .i64 t), (3, .int .i64 (-1))] = some (stC u t (.slice none 0 0) (-1)) := by kernel_rfl
theorem wpList_bset {ops : Array Oper} {rest : List Oper} {o : Oper} {a : Act} {w : World} {Q : Exit → Act → World → Prop} {x y z : Operand} {u : Nat → Int} {t : Int} (hg : o.guard = none) (ho : o.op = .build 73 #[(0, x), (1, y), (3, z)]) (hx : a.eval x = uV u) (hy : a.eval y = .int .i64 t) (hz : a.eval z = .int .i64 (-1))
    (h : wpList Tryd.prog ops Q rest (a.put o.dst (.agg (stC u t (.slice none 0 0) (-1)))) w) : wpList Tryd.prog ops Q (o :: rest) a w := by
  refine wpList_build hg 73 _ ho ?_ ?_
  · simp [hx, hy, hz, bset]
  · simp [hx, hy, hz, bset]; exact h
set_option maxHeartbeats 4000000 in
theorem end_any {B : Nat} {P : Nat → Prop} {w0 y : World} {bb : Nat} {ss : List Nq} {sl : Value} {r : Int} (h : BB B P w0 y bb ss sl) (hlen : ss.length ≤ 1000000000) :
    Calls Tryd.prog 40 #[.pointer (some ⟨bb, 0, none⟩), .int .i64 r] y fun e y' => e = .returned (.int .i64 (ss.length : Nat)) ∧ (∃ sl', BB B P w0 y' bb (ss ++ [(⟨uZ, -1, [], r⟩, none, 0)]) sl') ∧ ∀ b, P b → y'.heap[b]? = y.heap[b]? := by
  have HC := Lib.hid (add_any (u := uZ) (tg := -1) (rl := r) (fr := []) (q := none) (f := 0) h hlen (IVf.nil _ _ _ _))
  rw [List.length_nil] at HC
  clear h
  go_enter Tryd.func40, Tryd.ntmps40
  go_wp2_with (refine wpList_bend (r := r) rfl rfl rfl rfl ?_)
  refine HC.out.mono ?_
  rintro _ y1 ⟨rfl, h1, h2⟩
  have H1 := Lib.hid h1
  have H2 := Lib.hid h2
  clear h1 h2 HC
  go_wp2_with fail
  go_ret
  exact ⟨rfl, H1.out, H2.out⟩
set_option maxHeartbeats 4000000 in
theorem free_any {B : Nat} {P : Nat → Prop} {w0 y : World} {bb : Nat} {ss : List Nq} {sl : Value} {fr : List Int} {q : Option Addr} {f : Nat} (h : BB B P w0 y bb ss sl) (hlen : ss.length ≤ 1000000000) (hfr : IVf (fun b => B ≤ b ∧ b < y.heap.size ∧ some b ≠ sl.ownBlock ∧ b ≠ bb ∧ ¬ P b) y fr (.slice q fr.length f)) :
    Calls Tryd.prog 41 #[.pointer (some ⟨bb, 0, none⟩), .slice q fr.length f] y fun e y' => e = .returned (.int .i64 (ss.length : Nat)) ∧ (∃ sl', BB B P w0 y' bb (ss ++ [(⟨uZ, -1, fr, -1⟩, q, f)]) sl') ∧ ∀ b, P b → y'.heap[b]? = y.heap[b]? := by
  have HC := Lib.hid (add_any (u := uZ) (tg := -1) (rl := -1) h hlen hfr)
  clear h hfr
  go_enter Tryd.func41, Tryd.ntmps41
  go_wp2_with (refine wpList_bfree (p := q) (n := fr.length) (c := f) rfl rfl rfl rfl rfl ?_)
  refine HC.out.mono ?_
  rintro _ y1 ⟨rfl, h1, h2⟩
  have H1 := Lib.hid h1
  have H2 := Lib.hid h2
  clear h1 h2 HC
  go_wp2_with fail
  go_ret
  exact ⟨rfl, H1.out, H2.out⟩
/-- A pattern's cells. -/
def nodeC (k : Int) (u : Nat → Int) (sl : Value) : Array Value := #[.int .i64 k, .int .u64 (u 0), .int .u64 (u 1), .int .u64 (u 2), .int .u64 (u 3), sl]
set_option maxHeartbeats 4000000 in
theorem lay_set {B : Nat} {P : Nat → Prop} {w0 y : World} {bb : Nat} {ss : List Nq} {sl : Value} {u : Nat → Int} {t : Int} {p : Option Addr} {n c : Nat} (h : BB B P w0 y bb ss sl) (hlen : ss.length ≤ 1000000000) :
    Calls Tryd.prog 39 #[.pointer (some ⟨bb, 0, none⟩), .agg (nodeC 2 u (.slice p n c)), .int .i64 t] y fun e y' => e = .returned (.int .i64 (ss.length : Nat)) ∧ (∃ sl', BB B P w0 y' bb (ss ++ [(⟨u, t, [], -1⟩, none, 0)]) sl') ∧ ∀ b, P b → y'.heap[b]? = y.heap[b]? := by
  have hb0 := (((Below.refl y.heap.size y).alloc (Nat.le_refl _) (.cells #[.pointer (some ⟨bb, 0, none⟩)] 118)).alloc (by simp) (.cells (nodeC 2 u (.slice p n c)) 27)).alloc (by simp; omega) (.cells #[.int .i64 t] 3)
  have HC := Lib.hid (add_any (u := u) (tg := t) (rl := -1) (fr := []) (q := none) (f := 0) (h.up hb0) hlen (IVf.nil _ _ _ _))
  rw [List.length_nil] at HC
  have HK := Lib.hid fun b (hp : P b) => hb0.block b (h.pr b hp).1
  clear h hb0
  unfold nodeC at *
  go_enter Tryd.func39, Tryd.ntmps39
  go_wp2_with (refine wpList_bset (u := u) (t := t) rfl rfl rfl rfl rfl ?_)
  refine HC.out.mono ?_
  rintro _ y1 ⟨rfl, h1, h2⟩
  have H1 := Lib.hid h1
  have H2 := Lib.hid h2
  clear h1 h2 HC
  go_wp2_with fail
  go_ret
  exact ⟨rfl, H1.out, fun b hp => (H2.out b hp).trans (HK.out b hp)⟩
end Go.Proofs.YthglciccejholaaDoor
end
