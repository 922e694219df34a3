/- Texts of package regs, one behind the other. -/
import Derived.Test.YthglciccejholaaDoorProg
import Derived.Test.YthglciccejholaaDoorV46
import Derived.WalkKit
import Derived.WalkLawsBesides
import Derived.WalkSpells
import Derived.Outline
import Derived.Lib.Walk
import Derived.Lib.Hide
import Derived.Lib.Slices
import Derived.Lib.Strings
import Derived.RegionTactic
import Derived.LoopTactic
import Derived.Below
import Derived.IntWalk
import Derived.Deep.QuietTactic
import Derived.BigQuiet
import Derived.Deep.MidRow
import Derived.Maps.AppendAt
import Derived.Laws.Rows
import Derived.Laws.Tables
import Derived.Deep.WholeRow
import Derived.Deep.Cut
import Derived.Deep.CutRange
import Derived.Lib.SliceRun
import Derived.Laws.MakeOwn
import Derived.Deep.RegionLaw
import Derived.Deep.RegionLawGrows
import Derived.Deep.RegionHeld3
import Derived.RegionCalls
import Derived.Deep.RegionWith
import Derived.Deep.Light
import Derived.Test.YthglciccejholaaDoorV44
import Derived.RangeFuncNested
import Derived.RangeFuncBound
import Derived.RangeFuncCalls
import Derived.RangeFuncLeaves
import Derived.RangeFuncBox
import Derived.Shelf.Abstract
import Derived.Shelf.RegionOpen
import Derived.OwnWalkIn
import Derived.TacticsInMore
import Derived.LoopNIn
import Derived.LoopIn
section
/- Package nfa. -/
namespace Go.Proofs.YthglciccejholaaDoor
set_option linter.unusedSimpArgs false
set_option linter.unusedVariables false
set_option maxRecDepth 100000
open Go.RowKit
/- What is laid of a choice; of a row. -/
set_option maxHeartbeats 4000000 in
theorem lay_altP {B : Nat} {P : Nat → Prop} {w0 y : World} {bb : Nat} {zs : List Nq} {sl : Value} {u : Nat → Int} {t : Int} {ps : List RT} {p : Option Addr} {c : Nat} (IH : ∀ q ∈ ps, LayOK q) (h : BB B P w0 y bb zs sl) (hlen : zs.length + szL ps * 8192 + 8192 ≤ 900000000) (hsz : szL ps ≤ 4090) (hv : RV P y (.mk 4 u ps) (.agg (nodeC 4 u (.slice p ps.length c)))) :
    Calls Tryd.prog 39 #[.pointer (some ⟨bb, 0, none⟩), .agg (nodeC 4 u (.slice p ps.length c)), .int .i64 t] y (LayPost B P w0 y bb zs ((layA ps t zs.length).1 ++ [⟨uZ, -1, (layA ps t zs.length).2, -1⟩], ((zs.length + (layA ps t zs.length).1.length : Nat) : Int))) := by
  have hb0 := (((Below.refl y.heap.size y).alloc (Nat.le_refl _) (.cells #[.pointer (some ⟨bb, 0, none⟩)] 118)).alloc (by simp) (.cells (nodeC 4 u (.slice p ps.length c)) 27)).alloc (by simp; omega) (.cells #[.int .i64 t] 3)
  have hC := choice_any (t := t) IH (h.up hb0) hlen hsz (hv.mono (E := P) (w' := ((y.alloc (.cells #[.pointer (some ⟨bb, 0, none⟩)] 118)).alloc (.cells (nodeC 4 u (.slice p ps.length c)) 27)).alloc (.cells #[.int .i64 t] 3)) (fun b h => h) (fun b hp _ => hb0.block b (h.pr b hp).1))
  obtain ⟨R, hR⟩ : ∃ R, layA ps t zs.length = R := ⟨_, rfl⟩
  rw [hR] at hC ⊢
  unfold LayPost at hC
  have HC := Lib.hid hC
  have HK := Lib.hid fun b (hp : P b) => hb0.block b (h.pr b hp).1
  clear h hb0 hv hC hR IH
  unfold nodeC at *
  go_enter Tryd.func39, Tryd.ntmps39
  go_wp2_with fail
  refine HC.out.mono ?_
  rintro _ y1 ⟨rfl, h1, h2⟩
  have H1 := Lib.hid h1
  have H2 := Lib.hid h2
  clear h1 h2 HC
  go_wp2_with fail
  go_ret
  exact ⟨rfl, H1.out, fun b hp => (H2.out b hp).trans (HK.out b hp)⟩
end Go.Proofs.YthglciccejholaaDoor
end
section
/- Package nfa. -/
namespace Go.Proofs.YthglciccejholaaDoor
set_option linter.unusedSimpArgs false
set_option linter.unusedVariables false
set_option maxRecDepth 100000
open Go.RowKit Go.Shelf
/- The builder beside what is no cells. -/
theorem cell_cells {W : World} {b i : Nat} {v : Value} (h : W.cell? ⟨b, i, none⟩ = some v) {o : Obj} (ho : W.heap[b]? = some o) : o.isCells = true := by
  obtain ⟨o', h1, h2⟩ := cells_of_cell h
  have : o = o' := Option.some.inj (ho.symm.trans h1)
  subst this
  exact h2
theorem row_cells {W : World} {B : Nat} {e : TypeId} {size n : Nat} {v : Value} {xs : List Value} (h : W.ownsRow B e size v n xs) {b : Nat} (hb : v.ownBlock = some b) {o : Obj} (ho : W.heap[b]? = some o) : o.isCells = true := by
  rcases h.2 with ⟨rfl, _⟩ | ⟨g, cap, cur, rfl, _, hg, _⟩
  · simp [Value.ownBlock] at hb
  · have e1 : g = b := by simpa [Value.ownBlock] using hb
    subst e1
    have : o = _ := Option.some.inj (ho.symm.trans hg)
    subst this
    rfl
theorem set_grown (w : World) (b i : Nat) (v : Value) : w.grownBy (w.setCell ⟨b, i, none⟩ v) (some b) := by
  have hb := (Below.refl 0 w).setCell (p := ⟨b, i, none⟩) (Nat.zero_le _) v
  exact ⟨hb.os, hb.tape, hb.output, hb.size, fun k _ hk => setCells_other (b := b) (by intro e; exact hk (by rw [e])) [v] i w⟩
theorem BB.rebase {B : Nat} {P : Nat → Prop} {w0 y : World} {bb : Nat} {zs : List Nq} {sl : Value} (h : BB B P w0 y bb zs sl) : BB B P y y bb zs sl :=
  ⟨Below.refl _ _, h.f, h.ts, h.hb, h.sb, h.sz, h.pr⟩
theorem BB.back {B : Nat} {P : Nat → Prop} {w0 y z : World} {bb : Nat} {zs : List Nq} {sl : Value} (h : BB B P y z bb zs sl) (hb : Below B w0 y) : BB B P w0 z bb zs sl :=
  ⟨hb.trans h.bel, h.f, h.ts, h.hb, h.sb, h.sz, h.pr⟩
theorem BB.abides {B : Nat} {P : Nat → Prop} {w0 W W' : World} {bb : Nat} {zs : List Nq} {sl : Value} {row : Option Nat} (h : BB B P w0 W bb zs sl) (hg : W.grownBy W' row) (hr : ∀ r, row = some r → B ≤ r ∧ ∃ o : Obj, W.heap[r]? = some o ∧ o.isCells = false) : BB B P w0 W' bb zs sl := by
  have hgs := hg.size
  refine ⟨below_grown h.bel hg (fun g e => (hr g e).1) h.sz, (hg.block bb (Array.getElem?_eq_some_iff.1 h.f).1 (fun e => ?_)).trans h.f, ⟨fun i hi => ?_, World.ownsRow.kept h.ts.2 hg ?_⟩, h.hb, h.sb, Nat.le_trans h.sz hgs, fun b hb => ⟨Nat.lt_of_lt_of_le (h.pr b hb).1 hgs, (h.pr b hb).2⟩⟩
  · obtain ⟨_, o, ho, hc⟩ := hr bb e.symm
    rw [h.f] at ho; cases ho; cases hc
  · obtain ⟨p, c, he, hh⟩ := h.ts.1 i hi
    refine ⟨p, c, he, fun hn => ?_⟩
    obtain ⟨b, o, hp, hD, hc⟩ := hh hn
    have hbk : W'.heap[b]? = W.heap[b]? := hg.block b hD.2.1 (fun e => by
      obtain ⟨_, o', ho, hcc⟩ := hr b e.symm
      rw [cell_cells (hc.1 0 (List.length_pos_iff.2 hn)) ho] at hcc; cases hcc)
    obtain ⟨cs, t, hf⟩ := hc.2
    exact ⟨b, o, hp, ⟨hD.1, by omega, hD.2.2⟩, fun j hj => by rw [← hc.1 j hj]; exact cell_same hbk _, cs, t, hbk.trans hf⟩
  · cases hv : sl.ownBlock with
    | none => exact .inl rfl
    | some b =>
      refine .inr fun e => ?_
      obtain ⟨_, o', ho, hcc⟩ := hr b e.symm
      rw [row_cells h.ts.2 hv ho] at hcc; cases hcc
theorem BB.non {B : Nat} {P : Nat → Prop} {w0 W : World} {bb : Nat} {zs : List Nq} {sl : Value} (h : BB B P w0 W bb zs sl) : BB B (fun b => P b ∨ ∃ o : Obj, W.heap[b]? = some o ∧ o.isCells = false) w0 W bb zs sl := by
  refine ⟨h.bel, h.f, ⟨fun i hi => ?_, h.ts.2⟩, h.hb, h.sb, h.sz, fun b hb => ?_⟩
  · obtain ⟨p, c, he, hh⟩ := h.ts.1 i hi
    refine ⟨p, c, he, fun hn => ?_⟩
    obtain ⟨b, o, hp, hD, hc⟩ := hh hn
    refine ⟨b, o, hp, ⟨hD.1, hD.2.1, hD.2.2.1, hD.2.2.2.1, ?_⟩, hc⟩
    rintro (hP | ⟨o', ho, hcc⟩)
    · exact hD.2.2.2.2 hP
    · rw [cell_cells (hc.1 0 (List.length_pos_iff.2 hn)) ho] at hcc; cases hcc
  · rcases hb with hb | ⟨o', ho, hcc⟩
    · exact h.pr b hb
    · refine ⟨(Array.getElem?_eq_some_iff.1 ho).1, fun e => ?_, fun e => ?_⟩
      · subst e; rw [h.f] at ho; cases ho; cases hcc
      · rw [row_cells h.ts.2 e.symm ho] at hcc; cases hcc
theorem BB.upd {B : Nat} {P : Nat → Prop} {w0 W : World} {bb : Nat} {zs : List Nq} {sl : Value} (h : BB B P w0 W bb zs sl) {b : Nat} (hp : P b) (hB : B ≤ b) (i : Nat) (v : Value) : BB B P w0 (W.setCell ⟨b, i, none⟩ v) bb zs sl := by
  have hpr := h.pr b hp
  have hg := set_grown W b i v
  refine ⟨h.bel.setCell (p := ⟨b, i, none⟩) hB _, (heap_setCell_other _ _ _ _ (by show bb ≠ b; exact fun e => hpr.2.1 e.symm)).trans h.f, ⟨fun k hk => (h.ts.1 k hk).mono (fun x hx => ⟨hx.1, by simpa using hx.2.1, hx.2.2⟩) (fun x hx _ => heap_setCell_other _ _ _ _ (by show x ≠ b; exact fun e => hx.2.2.2.2 (e ▸ hp))), World.ownsRow.kept h.ts.2 hg ?_⟩, h.hb, h.sb, by simpa using h.sz, fun x hx => ⟨by simpa using (h.pr x hx).1, (h.pr x hx).2⟩⟩
  by_cases hv : sl.ownBlock = none
  · exact .inl hv
  · exact .inr fun e => hpr.2.2 e.symm
end Go.Proofs.YthglciccejholaaDoor
end
section
/- Package nfa. -/
namespace Go.Proofs.YthglciccejholaaDoor
set_option linter.unusedSimpArgs false
set_option linter.unusedVariables false
set_option maxRecDepth 100000
open Go.RowKit Go.Shelf
/- What is laid of a row. -/
attribute [local go_sem] Oper.semAt_some
theorem szL_get : ∀ (ps : List RT) (i : Nat) (h : i < ps.length), ps.length + sz ps[i] ≤ szL ps + 1
  | a :: r, 0, h => by
    have := len_szL r
    simp [szL]; omega
  | a :: r, i + 1, h => by
    have := szL_get r i (by simpa using h)
    have := sz_pos a
    simp [szL]; omega
def ptAt (ps : List RT) (x : Nat) : RT := if h : x < ps.length then ps[x] else if h0 : 0 < ps.length then ps[0] else .mk 0 uZ []
theorem ptAt_mem {ps : List RT} (hn : 0 < ps.length) (x : Nat) : ∃ i, ∃ (h : i < ps.length), ptAt ps x = ps[i] := by
  unfold ptAt
  by_cases h : x < ps.length
  · rw [dif_pos h]; exact ⟨x, h, rfl⟩
  · rw [dif_neg h, dif_pos hn]; exact ⟨0, hn, rfl⟩
theorem ptAt_all (ps : List RT) : (downto ps.length ps.length).reverse.map (ptAt ps) = ps := by
  apply List.ext_getElem
  · simp [downto_len]
  · intro i h1 h2
    have hi : i < ps.length := by simpa [downto_len] using h1
    have e : (downto ps.length ps.length).reverse[i]'(by simpa [downto_len] using hi) = i := by
      rw [List.getElem_reverse]
      simp only [downto_len]
      simp [downto]
      omega
    rw [List.getElem_map, e]
    unfold ptAt
    rw [dif_pos hi]
theorem layC_map (ps : List RT) (pre : List Nat) (x : Nat) (t : Int) (n : Nat) : layC ((pre ++ [x]).reverse.map (ptAt ps)) t n = ((layC (pre.reverse.map (ptAt ps)) t n).1 ++ (layF (ptAt ps x) (layC (pre.reverse.map (ptAt ps)) t n).2 (n + (layC (pre.reverse.map (ptAt ps)) t n).1.length)).1, (layF (ptAt ps x) (layC (pre.reverse.map (ptAt ps)) t n).2 (n + (layC (pre.reverse.map (ptAt ps)) t n).1.length)).2) := by
  rw [List.reverse_append]
  simp only [List.reverse_cons, List.reverse_nil, List.nil_append, List.singleton_append, List.map_cons, layC]
/-- Between two rounds. -/
structure CatI (B : Nat) (P P4 : Nat → Prop) (w0 wL : World) (bb Y : Nat) (ps : List RT) (zs : List Nq) (t : Int) (pre : List Nat) (W : World) (sl : Value) (zs' : List Nq) (beh : Int) : Prop where
  bb : BB B P4 w0 W bb (zs ++ zs') sl
  k : ∀ x, (P x ∨ x = Y ∨ x = Y + 1 ∨ x = Y + 1 + 1 + 1) → W.heap[x]? = wL.heap[x]?
  bh : W.heap[Y + 1 + 1]? = some (.cells #[.int .i64 beh] 3 (0, 0))
  lay : (zs'.map (fun q : Nq => q.1), beh) = layC (pre.reverse.map (ptAt ps)) t zs.length
  len : zs'.length ≤ pre.length * 8192
def CatE (B : Nat) (P P4 : Nat → Prop) (w0 wL : World) (bb Y : Nat) (ps : List RT) (zs : List Nq) (t : Int) (pre : List Nat) (W : World) : Prop := ∃ sl zs' beh, CatI B P P4 w0 wL bb Y ps zs t pre W sl zs' beh
theorem catE_own {B : Nat} {P P4 : Nat → Prop} {w0 wL : World} {bb Y : Nat} {ps : List RT} {zs : List Nq} {t : Int} (h1 : B ≤ wL.heap.size) (h2 : Y + 1 + 1 + 1 < wL.heap.size) (h3 : ∀ x, P x → x < wL.heap.size) (h4 : ∀ x, (P x ∨ x = Y ∨ x = Y + 1 ∨ x = Y + 1 + 1 + 1) → P4 x) (h5 : P4 (Y + 1 + 1)) : OwnFrom wL.heap.size (CatE B P P4 w0 wL bb Y ps zs t) := fun pre W W' row hs hg hr => by
  obtain ⟨sl, zs', beh, h⟩ := hs
  refine ⟨sl, zs', beh, h.bb.abides hg (fun r e => ⟨by have := (hr r e).1; omega, (hr r e).2⟩), fun x hx => ?_, ?_, h.lay, h.len⟩
  · refine (hg.block x (h.bb.pr x (h4 x hx)).1 (fun e => ?_)).trans (h.k x hx)
    have := (hr x e.symm).1
    rcases hx with hx | hx | hx | hx
    · have := h3 x hx; omega
    · omega
    · omega
    · omega
  · refine (hg.block _ (h.bb.pr _ h5).1 (fun e => ?_)).trans h.bh
    have := (hr _ e.symm).1
    omega
theorem rv_total {P : Nat → Prop} {y : World} {ps : List RT} {b o : Nat} (hn : 0 < ps.length) (hx : ∀ i (hi : i < ps.length), ∃ k2 u2 p2 n2 c2, RV P y ps[i] (.agg (nodeC k2 u2 (.slice p2 n2 c2))) ∧ ∀ j v, (nodeC k2 u2 (.slice p2 n2 c2))[j]? = some v → y.cell? ⟨b, o + i * 6 + j, none⟩ = some v) :
    ∃ (kf : Nat → Int) (uf : Nat → Nat → Int) (sf : Nat → Option Addr × Nat × Nat), (∀ x, RV P y (ptAt ps x) (.agg (nodeC (kf x) (uf x) (.slice (sf x).1 (sf x).2.1 (sf x).2.2)))) ∧ ∀ i, i < ps.length → ∀ j v, (nodeC (kf i) (uf i) (.slice (sf i).1 (sf i).2.1 (sf i).2.2))[j]? = some v → y.cell? ⟨b, o + i * 6 + j, none⟩ = some v := by
  have h : ∀ x : Nat, ∃ f : Int × (Nat → Int) × (Option Addr × Nat × Nat), RV P y (ptAt ps x) (.agg (nodeC f.1 f.2.1 (.slice f.2.2.1 f.2.2.2.1 f.2.2.2.2))) ∧ (x < ps.length → ∀ j v, (nodeC f.1 f.2.1 (.slice f.2.2.1 f.2.2.2.1 f.2.2.2.2))[j]? = some v → y.cell? ⟨b, o + x * 6 + j, none⟩ = some v) := fun x => by
    by_cases h : x < ps.length
    · obtain ⟨k2, u2, p2, n2, c2, h1, h2⟩ := hx x h
      refine ⟨(k2, u2, (p2, n2, c2)), ?_, fun _ => h2⟩
      unfold ptAt; rw [dif_pos h]; exact h1
    · obtain ⟨k2, u2, p2, n2, c2, h1, h2⟩ := hx 0 hn
      refine ⟨(k2, u2, (p2, n2, c2)), ?_, fun e => absurd e h⟩
      unfold ptAt; rw [dif_neg h, dif_pos hn]; exact h1
  obtain ⟨f, hf⟩ := Classical.axiomOfChoice h
  exact ⟨fun x => (f x).1, fun x => (f x).2.1, fun x => (f x).2.2, fun x => (hf x).1, fun i hi => (hf i).2 hi⟩
end Go.Proofs.YthglciccejholaaDoor
end
section
/- Package nfa. -/
namespace Go.Proofs.YthglciccejholaaDoor
set_option linter.unusedSimpArgs false
set_option linter.unusedVariables false
set_option maxRecDepth 100000
open Go.RowKit Go.Shelf
/- What is laid of a row: the walk. -/
attribute [local go_sem] Oper.semAt_some
set_option maxHeartbeats 16000000 in
theorem lay_catP {B : Nat} {P : Nat → Prop} {w0 y : World} {bb : Nat} {zs : List Nq} {sl : Value} {u : Nat → Int} {t : Int} {ps : List RT} {p : Option Addr} {c : Nat} (hne : ps ≠ []) (IH : ∀ q ∈ ps, LayOK q) (h : BB B P w0 y bb zs sl) (hlen : zs.length + szL ps * 8192 + 8192 ≤ 900000000) (hsz : szL ps ≤ 4090) (hv : RV P y (.mk 3 u ps) (.agg (nodeC 3 u (.slice p ps.length c)))) :
    Calls Tryd.prog 39 #[.pointer (some ⟨bb, 0, none⟩), .agg (nodeC 3 u (.slice p ps.length c)), .int .i64 t] y (LayPost B P w0 y bb zs (layC ps t zs.length)) := by
  have hn0 : 0 < ps.length := List.length_pos_iff.2 hne
  obtain ⟨b, o, rfl, hPb, hparts⟩ := rv_part hv hne
  obtain ⟨kf, uf, sf, hrv, hcells⟩ := rv_total hn0 hparts
  obtain ⟨Y, hY⟩ : ∃ Y, y.heap.size = Y := ⟨_, rfl⟩
  have z1 : (y.alloc (.cells #[.pointer (some ⟨bb, 0, none⟩)] 118)).heap.size = y.heap.size + 1 := by simp
  have z2 : ((y.alloc (.cells #[.pointer (some ⟨bb, 0, none⟩)] 118)).alloc (.cells #[.int .i64 3, .int .u64 (u 0), .int .u64 (u 1), .int .u64 (u 2), .int .u64 (u 3), .slice (some ⟨b, o, none⟩) ps.length c] 27)).heap.size = y.heap.size + 1 + 1 := by simp
  have z3 : (((y.alloc (.cells #[.pointer (some ⟨bb, 0, none⟩)] 118)).alloc (.cells #[.int .i64 3, .int .u64 (u 0), .int .u64 (u 1), .int .u64 (u 2), .int .u64 (u 3), .slice (some ⟨b, o, none⟩) ps.length c] 27)).alloc (.cells #[.int .i64 t] 3)).heap.size = y.heap.size + 1 + 1 + 1 := by simp
  have hb0 := ((((Below.refl y.heap.size y).alloc (Nat.le_refl _) (.cells #[.pointer (some ⟨bb, 0, none⟩)] 118)).alloc (by simp) (.cells #[.int .i64 3, .int .u64 (u 0), .int .u64 (u 1), .int .u64 (u 2), .int .u64 (u 3), .slice (some ⟨b, o, none⟩) ps.length c] 27)).alloc (by simp; omega) (.cells #[.int .i64 t] 3)).alloc (by simp; omega) (.cells #[.slice (some ⟨b, o, none⟩) ps.length c] 25)
  have hB4 := (((h.allocP (.cells #[.pointer (some ⟨bb, 0, none⟩)] 118)).allocP (.cells #[.int .i64 3, .int .u64 (u 0), .int .u64 (u 1), .int .u64 (u 2), .int .u64 (u 3), .slice (some ⟨b, o, none⟩) ps.length c] 27)).allocP (.cells #[.int .i64 t] 3)).allocP (.cells #[.slice (some ⟨b, o, none⟩) ps.length c] 25)
  have S0 := ((((Sb.start y).alloc (.cells #[.pointer (some ⟨bb, 0, none⟩)] 118)).alloc (.cells #[.int .i64 3, .int .u64 (u 0), .int .u64 (u 1), .int .u64 (u 2), .int .u64 (u 3), .slice (some ⟨b, o, none⟩) ps.length c] 27)).alloc (.cells #[.int .i64 t] 3)).alloc (.cells #[.slice (some ⟨b, o, none⟩) ps.length c] 25)
  rw [z1, z2, z3, hY] at hB4 S0
  rw [hY] at z1 z2 z3
  unfold nodeC
  refine (callsIn_wide (n := 6)).1 ?_
  refine callsIn_of_wp_marks Tryd.func39 rfl trivial ?_ rfl
  simp only [Tryd.ntmps39, List.size_toArray, List.length_cons, List.length_nil, Nat.reduceAdd, Nat.reduceSub, Array.replicate_succ, Array.replicate_zero, List.push_toArray, List.append_toArray, List.nil_append, List.cons_append]
  gi_wp2_with (refine ⟨trivial, ?_⟩; gi_at_call 77; refine (callsIn_wide.2 (backward_any _ _ _ _)).mono ?_; rintro _ w' ⟨rfl, rfl⟩)
  obtain ⟨wL, hwL⟩ : ∃ wL, (((y.alloc (.cells #[.pointer (some ⟨bb, 0, none⟩)] 118)).alloc (.cells #[.int .i64 3, .int .u64 (u 0), .int .u64 (u 1), .int .u64 (u 2), .int .u64 (u 3), .slice (some ⟨b, o, none⟩) ps.length c] 27)).alloc (.cells #[.int .i64 t] 3)).alloc (.cells #[.slice (some ⟨b, o, none⟩) ps.length c] 25) = wL := ⟨_, rfl⟩
  rw [hwL] at hB4 S0 hb0 ⊢
  have hwLs : wL.heap.size = Y + 1 + 1 + 1 + 1 := by rw [← hwL]; simp; omega
  clear z1 z2 z3 hwL
  obtain ⟨P4, hP4⟩ : ∃ P4 : Nat → Prop, (fun b => (((P b ∨ b = Y) ∨ b = Y + 1) ∨ b = Y + 1 + 1) ∨ b = Y + 1 + 1 + 1) = P4 := ⟨_, rfl⟩
  have q5 : ∀ x, (P x ∨ x = Y ∨ x = Y + 1 ∨ x = Y + 1 + 1 + 1) → P4 x := fun x hx => by
    rw [← hP4]
    rcases hx with hx | hx | hx | hx
    · exact .inl (.inl (.inl (.inl hx)))
    · exact .inl (.inl (.inl (.inr hx)))
    · exact .inl (.inl (.inr hx))
    · exact .inr hx
  have q2 : P4 (Y + 1 + 1) := by rw [← hP4]; exact .inl (.inr rfl)
  rw [hP4] at hB4
  have hprY : ∀ x, P x → x < Y := fun x hx => by rw [← hY]; exact (h.pr x hx).1
  have hBY : B ≤ Y := by rw [← hY]; exact h.sz
  have hPK : ∀ x, P x → wL.heap[x]? = y.heap[x]? := fun x hx => hb0.block x (by rw [hY]; exact hprY x hx)
  have hbel0 := h.bel
  clear hP4 hv hparts h
  have hseq := backward_stops Fence.wide (6 - 1) trivial rfl (by omega) (Y + 1 + 1 + 1) b o ps.length c (by have := len_szL ps; omega) kf uf sf wL (by omega) (by have := hprY b hPb; omega) (S0.cell 0) (fun i hi j v hv => (cell_same (hPK b hPb) _).trans (hcells i hi j v hv))
  have hE0 : CatE B P P4 w0 wL bb Y ps zs t [] wL := ⟨sl, [], t, ⟨by rw [List.append_nil]; exact hB4, fun _ _ => rfl, S0.tl.heap, rfl, by simp⟩⟩
  have x0 : wL.heap[Y]? = some (.cells #[.pointer (some ⟨bb, 0, none⟩)] 118 (0, 0)) := S0.tl.tl.tl.heap
  have hOwn := catE_own (B := B) (P := P) (P4 := P4) (w0 := w0) (wL := wL) (bb := bb) (Y := Y) (ps := ps) (zs := zs) (t := t) (by omega) (by omega) (fun x hx => by have := hprY x hx; omega) q5 q2
  have hIsz : ∀ pre W, CatE B P P4 w0 wL bb Y ps zs t pre W → wL.heap.size ≤ W.heap.size := fun pre W h => by
    obtain ⟨sl, zs', beh, h⟩ := h
    have := (h.bb.pr _ (q5 _ (.inr (.inr (.inr rfl))))).1
    omega
  have hbwL : b < wL.heap.size := by have := hprY b hPb; omega
  refine wpIn_rangeFunc_ownH rfl (by omega) (gf := 110) (lb := #[.pointer (some ⟨Y + 1 + 1 + 1, 0, none⟩)]) rfl trivial (enters_of Tryd.func110 (by kernel_rfl) rfl)
    hseq kpL_t (kpL_b (by omega) (by have := hprY b hPb; omega)) (Below.refl _ _) (fun _ => rfl)
    (CatE B P P4 w0 wL bb Y ps zs t) (fun _ _ _ => False)
    hOwn
    (fun _ _ _ _ _ hs _ _ => hs)
    hE0
    (fun x a' W => ∃ Bx, wL.heap.size ≤ Bx ∧ W.heap[Bx]? = some (.cells #[.int .i64 (kf x), .int .u64 (uf x 0), .int .u64 (uf x 1), .int .u64 (uf x 2), .int .u64 (uf x 3), .slice (sf x).1 (sf x).2.1 (sf x).2.2] 27 (0, 0)) ∧ a' = { tmps := (List.toArray ((Value.pointer (some { block := bb, off := 0 })) :: (Value.agg #[Value.int IntKind.i64 3, Value.int IntKind.u64 (u 0), Value.int IntKind.u64 (u 1), Value.int IntKind.u64 (u 2), Value.int IntKind.u64 (u 3), Value.slice (some { block := b, off := o }) ps.length c]) :: (Value.int IntKind.i64 t) :: (Value.pointer (some { block := Y, off := 0 })) :: (Value.pointer (some { block := Y + 1, off := 0 })) :: (Value.pointer (some { block := Y + 1 + 1, off := 0 })) :: (Value.int IntKind.i64 0) :: (undef) :: (.pointer (some ⟨Bx, 0, none⟩)) :: (undef) :: (undef) :: (undef) :: (undef) :: (Value.pointer (some { block := Y + 1, off := 0 })) :: (Value.int IntKind.i64 3) :: (Value.bool false) :: (Value.bool false) :: (undef) :: (Value.bool false) :: (Value.bool false) :: (undef) :: (undef) :: (undef) :: (undef) :: (undef) :: (undef) :: (Value.bool true) :: (Value.bool true) :: (Value.pointer (some { block := Y + 1, off := 5 })) :: (Value.slice (some { block := b, off := o }) ps.length c) :: (Value.func (Fn.func 110) #[] #[Value.pointer (some { block := Y + 1 + 1 + 1, off := 0 })]) :: (.int .i64 (x : Int)) :: (.agg #[.int .i64 (kf x), .int .u64 (uf x 0), .int .u64 (uf x 1), .int .u64 (uf x 2), .int .u64 (uf x 3), .slice (sf x).1 (sf x).2.1 (sf x).2.2]) :: (undef) :: (undef) :: (undef) :: (undef) :: (undef) :: (undef) :: (undef) :: (undef) :: (undef) :: (undef) :: (undef) :: (undef) :: (undef) :: (undef) :: (undef) :: (undef) :: (undef) :: (undef) :: (undef) :: (undef) :: (undef) :: (undef) :: (undef) :: (undef) :: (undef) :: (undef) :: (undef) :: (undef) :: (undef) :: (undef) :: (undef) :: (undef) :: (undef) :: (undef) :: (undef) :: (undef) :: (undef) :: (undef) :: (undef) :: (undef) :: (undef) :: (undef) :: (undef) :: (undef) :: (undef) :: (undef) :: (undef) :: (undef) :: (undef) :: (undef) :: (undef) :: (undef) :: (undef) :: [])), defers := [] })
    (fun x a' _ W W' row hs hg hr => by
      obtain ⟨Bx, h1, h2, h3⟩ := hs
      refine ⟨Bx, h1, (hg.block Bx (Array.getElem?_eq_some_iff.1 h2).1 (fun e => ?_)).trans h2, h3⟩
      obtain ⟨_, o', ho, hc⟩ := hr Bx e.symm
      rw [h2] at ho; cases ho; cases hc)
    ?assign ?body ?done ?stop
  case assign =>
    intro l pre x W K hi hK
    unfold nodeC
    gi_wp2
    have hWs := hIsz pre W hi
    exact hK _ _ ((KeepsOthers.alloc _ _).from _) ⟨heap_alloc_old W _ (by omega), heap_alloc_old W _ (by omega)⟩ (hOwn.alloc _ hi) ⟨W.heap.size, hWs, heap_alloc_last W _, rfl⟩
  case body =>
    rintro l pre x a' W hl ⟨r, hr⟩ hI ⟨Bx, hBx, hbx, rfl⟩ hlt
    have hWs := hIsz pre W hI
    obtain ⟨sl, zs', beh, hI⟩ := hI
    have f0 : W.cell? ⟨Y, 0, none⟩ = some (.pointer (some ⟨bb, 0, none⟩)) := cell_of_row W Y 0 _ 118 (0, 0) ((hI.k Y (.inr (.inl rfl))).trans x0)
    have f1 : W.cell? ⟨Y + 1 + 1, 0, none⟩ = some (.int .i64 beh) := cell_of_row W _ 0 _ 3 (0, 0) hI.bh
    have e0 : W.cell? ⟨Bx, 0, none⟩ = some (.int .i64 (kf x)) := cell_of_row W Bx 0 _ 27 (0, 0) hbx
    have e1 : W.cell? ⟨Bx, 1, none⟩ = some (.int .u64 (uf x 0)) := cell_of_row W Bx 1 _ 27 (0, 0) hbx
    have e2 : W.cell? ⟨Bx, 2, none⟩ = some (.int .u64 (uf x 1)) := cell_of_row W Bx 2 _ 27 (0, 0) hbx
    have e3 : W.cell? ⟨Bx, 3, none⟩ = some (.int .u64 (uf x 2)) := cell_of_row W Bx 3 _ 27 (0, 0) hbx
    have e4 : W.cell? ⟨Bx, 4, none⟩ = some (.int .u64 (uf x 3)) := cell_of_row W Bx 4 _ 27 (0, 0) hbx
    have e5 : W.cell? ⟨Bx, 5, none⟩ = some (.slice (sf x).1 (sf x).2.1 (sf x).2.2) := cell_of_row W Bx 5 _ 27 (0, 0) hbx
    have hlz : zs'.length = (layC (pre.reverse.map (ptAt ps)) t zs.length).1.length := by rw [← hI.lay]; simp
    obtain ⟨ix, hix, hpt⟩ := ptAt_mem hn0 x
    have hsg := szL_get ps ix hix
    have hlen' := hI.len
    have hcall := IH (ptAt ps x) (by rw [hpt]; exact List.getElem_mem hix) (b := beh) hI.bb.rebase.non (by rw [List.length_append, hpt]; omega)
      ((hrv x).mono (E := fun z => P4 z ∨ ∃ o : Obj, W.heap[z]? = some o ∧ o.isCells = false) (w' := W) (fun z hz => .inl (q5 z (.inl hz))) (fun z hz _ => (hI.k z (.inl hz)).trans (hPK z hz)))
    unfold LayPost nodeC at hcall
    rw [List.length_append] at hcall
    have hmap := layC_map ps pre x t zs.length
    rw [← hI.lay] at hmap
    simp only [List.length_map] at hmap
    have hll := layF_len (ptAt ps x) beh (zs.length + zs'.length)
    obtain ⟨L, hL⟩ : ∃ L, layF (ptAt ps x) beh (zs.length + zs'.length) = L := ⟨_, rfl⟩
    rw [hL] at hcall hmap hll
    have hseqI := hI
    have HC := Lib.hid hcall
    clear hcall hL
    gi_wp2_with (refine ⟨trivial, ?_⟩; gi_at_call 39; refine (CallsIn.inRound l (callsIn_wide.2 HC.out)).mono ?_; rintro _ W2 ⟨rfl, h1, h2⟩; have hk9 := h2 (Y + 1 + 1) (.inl q2); have c9 : W2.cell? ⟨Y + 1 + 1, 0, none⟩ = some (.int .i64 beh) := (cell_same hk9 0).trans f1; have z9 : W2.frozen? ⟨Y + 1 + 1, 0, none⟩ = false := frozen_of_row W2 _ 0 _ 3 (hk9.trans hI.bh))
    obtain ⟨sl2, zs2, hB2, hz2⟩ := h1
    have hk9 := h2 (Y + 1 + 1) (.inl q2)
    have hne2 : ∀ z, (P z ∨ z = Y ∨ z = Y + 1 ∨ z = Y + 1 + 1 + 1) → z ≠ Y + 1 + 1 := fun z hz e => by
      rcases hz with hz | hz | hz | hz
      · have := hprY z hz; omega
      · omega
      · omega
      · omega
    have hl2 : zs2.length = L.1.length := by rw [← hz2]; simp
    have hk5 : ∀ z, (P z ∨ z = Y ∨ z = Y + 1 ∨ z = Y + 1 + 1 + 1) → (W2.setCell ⟨Y + 1 + 1, 0, none⟩ (.int .i64 L.2)).heap[z]? = W.heap[z]? := fun z hz => (heap_setCell_other W2 ⟨Y + 1 + 1, 0, none⟩ z _ (hne2 z hz)).trans (h2 z (.inl (q5 z hz)))
    refine ⟨⟨by simpa using hB2.bel.size, fun k o' hk ho hoc => ?_⟩, ⟨hk5 _ (.inr (.inr (.inr rfl))), hk5 _ (.inl hPb)⟩, sl2, zs' ++ zs2, L.2, ?_, fun z hz => (hk5 z hz).trans (hI.k z hz), ?_, ?_, ?_⟩
    · exact (heap_setCell_other W2 ⟨Y + 1 + 1, 0, none⟩ k _ (by show k ≠ Y + 1 + 1; omega)).trans ((h2 k (.inr ⟨o', ho, hoc⟩)).trans ho)
    · have h9 := ((hB2.less (Q := P4) (fun z h => .inl h)).back hI.bb.bel).upd q2 (by omega) 0 (.int .i64 L.2)
      rw [List.append_assoc] at h9
      exact h9
    · have h9 := heap_setCell_same W2 (Y + 1 + 1) 0 _ 3 (.int .i64 L.2) (hk9.trans hI.bh)
      exact h9
    · rw [hmap, List.map_append, hz2]
    · rw [List.length_append, List.length_append, List.length_singleton, hl2]
      rw [hpt] at hll
      omega
  case done =>
    rintro D xs W hD rfl hI hK
    obtain ⟨sl, zs', beh, hI⟩ := hI
    have hlay := hI.lay
    rw [ptAt_all] at hlay
    have f1 : W.cell? ⟨Y + 1 + 1, 0, none⟩ = some (.int .i64 beh) := cell_of_row W _ 0 _ 3 (0, 0) hI.bh
    gi_wp2
    rw [← hlay]
    refine ⟨by simp, .inl ⟨_, _, rfl, run_takeDeferred hK, ?_⟩⟩
    have hB9 := (hI.bb.abides (grownBy_putObj' W D (.deferred none)) (fun r e => by cases e; exact ⟨by omega, _, hK, rfl⟩)).less (Q := P) (fun z hz => q5 z (.inl hz))
    exact ⟨_, results_tmp rfl _ _ _, rfl, ⟨sl, zs', hB9, rfl⟩, fun z hz => (World.putObj_heap_other (by have := hprY z hz; omega)).trans ((hI.k z (.inl hz)).trans (hPK z hz))⟩
  case stop =>
    rintro D c pre W _ _ h _
    exact h.elim
end Go.Proofs.YthglciccejholaaDoor
end
