/- Texts of package regs, one behind the other. -/
import Derived.Test.YthglciccejholaaDoorProg
import Derived.Test.YthglciccejholaaDoorLf
import Derived.WalkKit
import Derived.WalkLawsBesides
import Derived.WalkSpells
import Derived.Outline
import Derived.Lib.Walk
import Derived.Lib.Hide
import Derived.Lib.Slices
import Derived.Lib.Strings
import Derived.RegionTactic
import Derived.LoopTactic
import Derived.Below
import Derived.IntWalk
import Derived.Deep.QuietTactic
import Derived.BigQuiet
import Derived.Deep.MidRow
import Derived.Maps.AppendAt
import Derived.Laws.Rows
import Derived.Laws.Tables
import Derived.Deep.WholeRow
import Derived.Deep.Cut
import Derived.Deep.CutRange
import Derived.Lib.SliceRun
import Derived.Laws.MakeOwn
import Derived.Deep.RegionLaw
import Derived.Deep.RegionLawGrows
import Derived.Deep.RegionHeld3
import Derived.RegionCalls
import Derived.Deep.RegionWith
import Derived.Deep.Light
import Derived.Test.YthglciccejholaaDoorC1
import Derived.RangeFuncNested
import Derived.RangeFuncBound
import Derived.RangeFuncCalls
import Derived.RangeFuncLeaves
import Derived.RangeFuncBox
import Derived.Shelf.Abstract
import Derived.Shelf.RegionOpen
import Derived.OwnWalkIn
import Derived.TacticsInMore
import Derived.LoopNIn
import Derived.LoopIn
section
/- Package nfa. -/
namespace Go.Proofs.YthglciccejholaaDoor
set_option linter.unusedSimpArgs false
set_option linter.unusedVariables false
set_option maxRecDepth 100000
open Go.RowKit
/- What is laid of a choice; of a row. -/
set_option maxHeartbeats 4000000 in
theorem lay_altP {B : Nat} {P : Nat → Prop} {w0 y : World} {bb : Nat} {zs : List Nq} {sl : Value} {u : Nat → Int} {t : Int} {ps : List RT} {p : Option Addr} {c : Nat} (IH : ∀ q ∈ ps, LayOK q) (h : BB B P w0 y bb zs sl) (hlen : zs.length + szL ps * 8192 + 8192 ≤ 900000000) (hsz : szL ps ≤ 4090) (hv : RV P y (.mk 4 u ps) (.agg (nodeC 4 u (.slice p ps.length c)))) :
    Calls Tryd.prog 39 #[.pointer (some ⟨bb, 0, none⟩), .agg (nodeC 4 u (.slice p ps.length c)), .int .i64 t] y (LayPost B P w0 y bb zs ((layA ps t zs.length).1 ++ [⟨uZ, -1, (layA ps t zs.length).2, -1⟩], ((zs.length + (layA ps t zs.length).1.length : Nat) : Int))) := by
  have hb0 := (((Below.refl y.heap.size y).alloc (Nat.le_refl _) (.cells #[.pointer (some ⟨bb, 0, none⟩)] 118)).alloc (by simp) (.cells (nodeC 4 u (.slice p ps.length c)) 27)).alloc (by simp; omega) (.cells #[.int .i64 t] 3)
  have hC := choice_any (t := t) IH (h.up hb0) hlen hsz (hv.mono (E := P) (w' := ((y.alloc (.cells #[.pointer (some ⟨bb, 0, none⟩)] 118)).alloc (.cells (nodeC 4 u (.slice p ps.length c)) 27)).alloc (.cells #[.int .i64 t] 3)) (fun b h => h) (fun b hp _ => hb0.block b (h.pr b hp).1))
  obtain ⟨R, hR⟩ : ∃ R, layA ps t zs.length = R := ⟨_, rfl⟩
  rw [hR] at hC ⊢
  unfold LayPost at hC
  have HC := Lib.hid hC
  have HK := Lib.hid fun b (hp : P b) => hb0.block b (h.pr b hp).1
  clear h hb0 hv hC hR IH
  unfold nodeC at *
  go_enter Tryd.func39, Tryd.ntmps39
  go_wp2_with fail
  refine HC.out.mono ?_
  rintro _ y1 ⟨rfl, h1, h2⟩
  have H1 := Lib.hid h1
  have H2 := Lib.hid h2
  clear h1 h2 HC
  go_wp2_with fail
  go_ret
  exact ⟨rfl, H1.out, fun b hp => (H2.out b hp).trans (HK.out b hp)⟩
end Go.Proofs.YthglciccejholaaDoor
end
section
/- Package nfa. -/
namespace Go.Proofs.YthglciccejholaaDoor
set_option linter.unusedSimpArgs false
set_option linter.unusedVariables false
set_option maxRecDepth 100000
open Go.RowKit Go.Shelf
/- The builder beside what is no cells. -/
theorem cell_cells {W : World} {b i : Nat} {v : Value} (h : W.cell? ⟨b, i, none⟩ = some v) {o : Obj} (ho : W.heap[b]? = some o) : o.isCells = true := by
  obtain ⟨o', h1, h2⟩ := cells_of_cell h
  have : o = o' := Option.some.inj (ho.symm.trans h1)
  subst this
  exact h2
theorem row_cells {W : World} {B : Nat} {e : TypeId} {size n : Nat} {v : Value} {xs : List Value} (h : W.ownsRow B e size v n xs) {b : Nat} (hb : v.ownBlock = some b) {o : Obj} (ho : W.heap[b]? = some o) : o.isCells = true := by
  rcases h.2 with ⟨rfl, _⟩ | ⟨g, cap, cur, rfl, _, hg, _⟩
  · simp [Value.ownBlock] at hb
  · have e1 : g = b := by simpa [Value.ownBlock] using hb
    subst e1
    have : o = _ := Option.some.inj (ho.symm.trans hg)
    subst this
    rfl
theorem set_grown (w : World) (b i : Nat) (v : Value) : w.grownBy (w.setCell ⟨b, i, none⟩ v) (some b) := by
  have hb := (Below.refl 0 w).setCell (p := ⟨b, i, none⟩) (Nat.zero_le _) v
  exact ⟨hb.os, hb.tape, hb.output, hb.size, fun k _ hk => setCells_other (b := b) (by intro e; exact hk (by rw [e])) [v] i w⟩
theorem BB.rebase {B : Nat} {P : Nat → Prop} {w0 y : World} {bb : Nat} {zs : List Nq} {sl : Value} (h : BB B P w0 y bb zs sl) : BB B P y y bb zs sl :=
  ⟨Below.refl _ _, h.f, h.ts, h.hb, h.sb, h.sz, h.pr⟩
theorem BB.back {B : Nat} {P : Nat → Prop} {w0 y z : World} {bb : Nat} {zs : List Nq} {sl : Value} (h : BB B P y z bb zs sl) (hb : Below B w0 y) : BB B P w0 z bb zs sl :=
  ⟨hb.trans h.bel, h.f, h.ts, h.hb, h.sb, h.sz, h.pr⟩
theorem BB.abides {B : Nat} {P : Nat → Prop} {w0 W W' : World} {bb : Nat} {zs : List Nq} {sl : Value} {row : Option Nat} (h : BB B P w0 W bb zs sl) (hg : W.grownBy W' row) (hr : ∀ r, row = some r → B ≤ r ∧ ∃ o : Obj, W.heap[r]? = some o ∧ o.isCells = false) : BB B P w0 W' bb zs sl := by
  have hgs := hg.size
  refine ⟨below_grown h.bel hg (fun g e => (hr g e).1) h.sz, (hg.block bb (Array.getElem?_eq_some_iff.1 h.f).1 (fun e => ?_)).trans h.f, ⟨fun i hi => ?_, World.ownsRow.kept h.ts.2 hg ?_⟩, h.hb, h.sb, Nat.le_trans h.sz hgs, fun b hb => ⟨Nat.lt_of_lt_of_le (h.pr b hb).1 hgs, (h.pr b hb).2⟩⟩
  · obtain ⟨_, o, ho, hc⟩ := hr bb e.symm
    rw [h.f] at ho; cases ho; cases hc
  · obtain ⟨p, c, he, hh⟩ := h.ts.1 i hi
    refine ⟨p, c, he, fun hn => ?_⟩
    obtain ⟨b, o, hp, hD, hc⟩ := hh hn
    have hbk : W'.heap[b]? = W.heap[b]? := hg.block b hD.2.1 (fun e => by
      obtain ⟨_, o', ho, hcc⟩ := hr b e.symm
      rw [cell_cells (hc.1 0 (List.length_pos_iff.2 hn)) ho] at hcc; cases hcc)
    obtain ⟨cs, t, hf⟩ := hc.2
    exact ⟨b, o, hp, ⟨hD.1, by omega, hD.2.2⟩, fun j hj => by rw [← hc.1 j hj]; exact cell_same hbk _, cs, t, hbk.trans hf⟩
  · cases hv : sl.ownBlock with
    | none => exact .inl rfl
    | some b =>
      refine .inr fun e => ?_
      obtain ⟨_, o', ho, hcc⟩ := hr b e.symm
      rw [row_cells h.ts.2 hv ho] at hcc; cases hcc
theorem BB.non {B : Nat} {P : Nat → Prop} {w0 W : World} {bb : Nat} {zs : List Nq} {sl : Value} (h : BB B P w0 W bb zs sl) : BB B (fun b => P b ∨ ∃ o : Obj, W.heap[b]? = some o ∧ o.isCells = false) w0 W bb zs sl := by
  refine ⟨h.bel, h.f, ⟨fun i hi => ?_, h.ts.2⟩, h.hb, h.sb, h.sz, fun b hb => ?_⟩
  · obtain ⟨p, c, he, hh⟩ := h.ts.1 i hi
    refine ⟨p, c, he, fun hn => ?_⟩
    obtain ⟨b, o, hp, hD, hc⟩ := hh hn
    refine ⟨b, o, hp, ⟨hD.1, hD.2.1, hD.2.2.1, hD.2.2.2.1, ?_⟩, hc⟩
    rintro (hP | ⟨o', ho, hcc⟩)
    · exact hD.2.2.2.2 hP
    · rw [cell_cells (hc.1 0 (List.length_pos_iff.2 hn)) ho] at hcc; cases hcc
  · rcases hb with hb | ⟨o', ho, hcc⟩
    · exact h.pr b hb
    · refine ⟨(Array.getElem?_eq_some_iff.1 ho).1, fun e => ?_, fun e => ?_⟩
      · subst e; rw [h.f] at ho; cases ho; cases hcc
      · rw [row_cells h.ts.2 e.symm ho] at hcc; cases hcc
theorem BB.upd {B : Nat} {P : Nat → Prop} {w0 W : World} {bb : Nat} {zs : List Nq} {sl : Value} (h : BB B P w0 W bb zs sl) {b : Nat} (hp : P b) (hB : B ≤ b) (i : Nat) (v : Value) : BB B P w0 (W.setCell ⟨b, i, none⟩ v) bb zs sl := by
  have hpr := h.pr b hp
  have hg := set_grown W b i v
  refine ⟨h.bel.setCell (p := ⟨b, i, none⟩) hB _, (heap_setCell_other _ _ _ _ (by show bb ≠ b; exact fun e => hpr.2.1 e.symm)).trans h.f, ⟨fun k hk => (h.ts.1 k hk).mono (fun x hx => ⟨hx.1, by simpa using hx.2.1, hx.2.2⟩) (fun x hx _ => heap_setCell_other _ _ _ _ (by show x ≠ b; exact fun e => hx.2.2.2.2 (e ▸ hp))), World.ownsRow.kept h.ts.2 hg ?_⟩, h.hb, h.sb, by simpa using h.sz, fun x hx => ⟨by simpa using (h.pr x hx).1, (h.pr x hx).2⟩⟩
  by_cases hv : sl.ownBlock = none
  · exact .inl hv
  · exact .inr fun e => hpr.2.2 e.symm
end Go.Proofs.YthglciccejholaaDoor
end
section
/- Package nfa. -/
namespace Go.Proofs.YthglciccejholaaDoor
set_option linter.unusedSimpArgs false
set_option linter.unusedVariables false
set_option maxRecDepth 100000
open Go.RowKit Go.Shelf
/- What is laid of a row. -/
attribute [local go_sem] Oper.semAt_some
theorem szL_get : ∀ (ps : List RT) (i : Nat) (h : i < ps.length), ps.length + sz ps[i] ≤ szL ps + 1
  | a :: r, 0, h => by
    have := len_szL r
    simp [szL]; omega
  | a :: r, i + 1, h => by
    have := szL_get r i (by simpa using h)
    have := sz_pos a
    simp [szL]; omega
def ptAt (ps : List RT) (x : Nat) : RT := if h : x < ps.length then ps[x] else if h0 : 0 < ps.length then ps[0] else .mk 0 uZ []
theorem ptAt_mem {ps : List RT} (hn : 0 < ps.length) (x : Nat) : ∃ i, ∃ (h : i < ps.length), ptAt ps x = ps[i] := by
  unfold ptAt
  by_cases h : x < ps.length
  · rw [dif_pos h]; exact ⟨x, h, rfl⟩
  · rw [dif_neg h, dif_pos hn]; exact ⟨0, hn, rfl⟩
theorem ptAt_all (ps : List RT) : (downto ps.length ps.length).reverse.map (ptAt ps) = ps := by
  apply List.ext_getElem
  · simp [downto_len]
  · intro i h1 h2
    have hi : i < ps.length := by simpa [downto_len] using h1
    have e : (downto ps.length ps.length).reverse[i]'(by simpa [downto_len] using hi) = i := by
      rw [List.getElem_reverse]
      simp only [downto_len]
      simp [downto]
      omega
    rw [List.getElem_map, e]
    unfold ptAt
    rw [dif_pos hi]
theorem layC_map (ps : List RT) (pre : List Nat) (x : Nat) (t : Int) (n : Nat) : layC ((pre ++ [x]).reverse.map (ptAt ps)) t n = ((layC (pre.reverse.map (ptAt ps)) t n).1 ++ (layF (ptAt ps x) (layC (pre.reverse.map (ptAt ps)) t n).2 (n + (layC (pre.reverse.map (ptAt ps)) t n).1.length)).1, (layF (ptAt ps x) (layC (pre.reverse.map (ptAt ps)) t n).2 (n + (layC (pre.reverse.map (ptAt ps)) t n).1.length)).2) := by
  rw [List.reverse_append]
  simp only [List.reverse_cons, List.reverse_nil, List.nil_append, List.singleton_append, List.map_cons, layC]
/-- Between two rounds. -/
structure CatI (B : Nat) (P P4 : Nat → Prop) (w0 wL : World) (bb Y : Nat) (ps : List RT) (zs : List Nq) (t : Int) (pre : List Nat) (W : World) (sl : Value) (zs' : List Nq) (beh : Int) : Prop where
  bb : BB B P4 w0 W bb (zs ++ zs') sl
  k : ∀ x, (P x ∨ x = Y ∨ x = Y + 1 ∨ x = Y + 1 + 1 + 1) → W.heap[x]? = wL.heap[x]?
  bh : W.heap[Y + 1 + 1]? = some (.cells #[.int .i64 beh] 3 (0, 0))
  lay : (zs'.map (fun q : Nq => q.1), beh) = layC (pre.reverse.map (ptAt ps)) t zs.length
  len : zs'.length ≤ pre.length * 8192
def CatE (B : Nat) (P P4 : Nat → Prop) (w0 wL : World) (bb Y : Nat) (ps : List RT) (zs : List Nq) (t : Int) (pre : List Nat) (W : World) : Prop := ∃ sl zs' beh, CatI B P P4 w0 wL bb Y ps zs t pre W sl zs' beh
theorem catE_own {B : Nat} {P P4 : Nat → Prop} {w0 wL : World} {bb Y : Nat} {ps : List RT} {zs : List Nq} {t : Int} (h1 : B ≤ wL.heap.size) (h2 : Y + 1 + 1 + 1 < wL.heap.size) (h3 : ∀ x, P x → x < wL.heap.size) (h4 : ∀ x, (P x ∨ x = Y ∨ x = Y + 1 ∨ x = Y + 1 + 1 + 1) → P4 x) (h5 : P4 (Y + 1 + 1)) : OwnFrom wL.heap.size (CatE B P P4 w0 wL bb Y ps zs t) := fun pre W W' row hs hg hr => by
  obtain ⟨sl, zs', beh, h⟩ := hs
  refine ⟨sl, zs', beh, h.bb.abides hg (fun r e => ⟨by have := (hr r e).1; omega, (hr r e).2⟩), fun x hx => ?_, ?_, h.lay, h.len⟩
  · refine (hg.block x (h.bb.pr x (h4 x hx)).1 (fun e => ?_)).trans (h.k x hx)
    have := (hr x e.symm).1
    rcases hx with hx | hx | hx | hx
    · have := h3 x hx; omega
    · omega
    · omega
    · omega
  · refine (hg.block _ (h.bb.pr _ h5).1 (fun e => ?_)).trans h.bh
    have := (hr _ e.symm).1
    omega
theorem rv_total {P : Nat → Prop} {y : World} {ps : List RT} {b o : Nat} (hn : 0 < ps.length) (hx : ∀ i (hi : i < ps.length), ∃ k2 u2 p2 n2 c2, RV P y ps[i] (.agg (nodeC k2 u2 (.slice p2 n2 c2))) ∧ ∀ j v, (nodeC k2 u2 (.slice p2 n2 c2))[j]? = some v → y.cell? ⟨b, o + i * 6 + j, none⟩ = some v) :
    ∃ (kf : Nat → Int) (uf : Nat → Nat → Int) (sf : Nat → Option Addr × Nat × Nat), (∀ x, RV P y (ptAt ps x) (.agg (nodeC (kf x) (uf x) (.slice (sf x).1 (sf x).2.1 (sf x).2.2)))) ∧ ∀ i, i < ps.length → ∀ j v, (nodeC (kf i) (uf i) (.slice (sf i).1 (sf i).2.1 (sf i).2.2))[j]? = some v → y.cell? ⟨b, o + i * 6 + j, none⟩ = some v := by
  have h : ∀ x : Nat, ∃ f : Int × (Nat → Int) × (Option Addr × Nat × Nat), RV P y (ptAt ps x) (.agg (nodeC f.1 f.2.1 (.slice f.2.2.1 f.2.2.2.1 f.2.2.2.2))) ∧ (x < ps.length → ∀ j v, (nodeC f.1 f.2.1 (.slice f.2.2.1 f.2.2.2.1 f.2.2.2.2))[j]? = some v → y.cell? ⟨b, o + x * 6 + j, none⟩ = some v) := fun x => by
    by_cases h : x < ps.length
    · obtain ⟨k2, u2, p2, n2, c2, h1, h2⟩ := hx x h
      refine ⟨(k2, u2, (p2, n2, c2)), ?_, fun _ => h2⟩
      unfold ptAt; rw [dif_pos h]; exact h1
    · obtain ⟨k2, u2, p2, n2, c2, h1, h2⟩ := hx 0 hn
      refine ⟨(k2, u2, (p2, n2, c2)), ?_, fun e => absurd e h⟩
      unfold ptAt; rw [dif_neg h, dif_pos hn]; exact h1
  obtain ⟨f, hf⟩ := Classical.axiomOfChoice h
  exact ⟨fun x => (f x).1, fun x => (f x).2.1, fun x => (f x).2.2, fun x => (hf x).1, fun i hi => (hf i).2 hi⟩
end Go.Proofs.YthglciccejholaaDoor
end
