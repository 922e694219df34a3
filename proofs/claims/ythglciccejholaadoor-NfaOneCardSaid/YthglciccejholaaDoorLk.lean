/- Package nfa. -/
import Derived.Test.YthglciccejholaaDoorProg
import Derived.Test.YthglciccejholaaDoorY40
import Derived.RangeFuncNested
import Derived.RangeFuncBound
import Derived.RangeFuncCalls
import Derived.RangeFuncLeaves
import Derived.RangeFuncBox
import Derived.Shelf.Abstract
import Derived.Shelf.RegionOpen
import Derived.WalkKit
import Derived.OwnWalkIn
import Derived.TacticsInMore
import Derived.LoopNIn
import Derived.LoopIn
import Derived.Below
import Derived.Lib.Hide
import Derived.Lib.Walk
namespace Go.Proofs.YthglciccejholaaDoor
set_option linter.unusedSimpArgs false
set_option linter.unusedVariables false
set_option maxRecDepth 100000
open Go.RowKit Go.Shelf
/- What is laid of a row: the walk. -/
attribute [local go_sem] Oper.semAt_some
set_option maxHeartbeats 16000000 in
theorem lay_catP {B : Nat} {P : Nat → Prop} {w0 y : World} {bb : Nat} {zs : List Nq} {sl : Value} {u : Nat → Int} {t : Int} {ps : List RT} {p : Option Addr} {c : Nat} (hne : ps ≠ []) (IH : ∀ q ∈ ps, LayOK q) (h : BB B P w0 y bb zs sl) (hlen : zs.length + szL ps * 8192 + 8192 ≤ 900000000) (hsz : szL ps ≤ 4090) (hv : RV P y (.mk 3 u ps) (.agg (nodeC 3 u (.slice p ps.length c)))) :
    Calls Tryd.prog 39 #[.pointer (some ⟨bb, 0, none⟩), .agg (nodeC 3 u (.slice p ps.length c)), .int .i64 t] y (LayPost B P w0 y bb zs (layC ps t zs.length)) := by
  have hn0 : 0 < ps.length := List.length_pos_iff.2 hne
  obtain ⟨b, o, rfl, hPb, hparts⟩ := rv_part hv hne
  obtain ⟨kf, uf, sf, hrv, hcells⟩ := rv_total hn0 hparts
  obtain ⟨Y, hY⟩ : ∃ Y, y.heap.size = Y := ⟨_, rfl⟩
  have z1 : (y.alloc (.cells #[.pointer (some ⟨bb, 0, none⟩)] 118)).heap.size = y.heap.size + 1 := by simp
  have z2 : ((y.alloc (.cells #[.pointer (some ⟨bb, 0, none⟩)] 118)).alloc (.cells #[.int .i64 3, .int .u64 (u 0), .int .u64 (u 1), .int .u64 (u 2), .int .u64 (u 3), .slice (some ⟨b, o, none⟩) ps.length c] 27)).heap.size = y.heap.size + 1 + 1 := by simp
  have z3 : (((y.alloc (.cells #[.pointer (some ⟨bb, 0, none⟩)] 118)).alloc (.cells #[.int .i64 3, .int .u64 (u 0), .int .u64 (u 1), .int .u64 (u 2), .int .u64 (u 3), .slice (some ⟨b, o, none⟩) ps.length c] 27)).alloc (.cells #[.int .i64 t] 3)).heap.size = y.heap.size + 1 + 1 + 1 := by simp
  have hb0 := ((((Below.refl y.heap.size y).alloc (Nat.le_refl _) (.cells #[.pointer (some ⟨bb, 0, none⟩)] 118)).alloc (by simp) (.cells #[.int .i64 3, .int .u64 (u 0), .int .u64 (u 1), .int .u64 (u 2), .int .u64 (u 3), .slice (some ⟨b, o, none⟩) ps.length c] 27)).alloc (by simp; omega) (.cells #[.int .i64 t] 3)).alloc (by simp; omega) (.cells #[.slice (some ⟨b, o, none⟩) ps.length c] 25)
  have hB4 := (((h.allocP (.cells #[.pointer (some ⟨bb, 0, none⟩)] 118)).allocP (.cells #[.int .i64 3, .int .u64 (u 0), .int .u64 (u 1), .int .u64 (u 2), .int .u64 (u 3), .slice (some ⟨b, o, none⟩) ps.length c] 27)).allocP (.cells #[.int .i64 t] 3)).allocP (.cells #[.slice (some ⟨b, o, none⟩) ps.length c] 25)
  have S0 := ((((Sb.start y).alloc (.cells #[.pointer (some ⟨bb, 0, none⟩)] 118)).alloc (.cells #[.int .i64 3, .int .u64 (u 0), .int .u64 (u 1), .int .u64 (u 2), .int .u64 (u 3), .slice (some ⟨b, o, none⟩) ps.length c] 27)).alloc (.cells #[.int .i64 t] 3)).alloc (.cells #[.slice (some ⟨b, o, none⟩) ps.length c] 25)
  rw [z1, z2, z3, hY] at hB4 S0
  rw [hY] at z1 z2 z3
  unfold nodeC
  refine (callsIn_wide (n := 6)).1 ?_
  refine callsIn_of_wp_marks Tryd.func39 rfl trivial ?_ rfl
  simp only [Tryd.ntmps39, List.size_toArray, List.length_cons, List.length_nil, Nat.reduceAdd, Nat.reduceSub, Array.replicate_succ, Array.replicate_zero, List.push_toArray, List.append_toArray, List.nil_append, List.cons_append]
  gi_wp2_with (refine ⟨trivial, ?_⟩; gi_at_call 77; refine (callsIn_wide.2 (backward_any _ _ _ _)).mono ?_; rintro _ w' ⟨rfl, rfl⟩)
  obtain ⟨wL, hwL⟩ : ∃ wL, (((y.alloc (.cells #[.pointer (some ⟨bb, 0, none⟩)] 118)).alloc (.cells #[.int .i64 3, .int .u64 (u 0), .int .u64 (u 1), .int .u64 (u 2), .int .u64 (u 3), .slice (some ⟨b, o, none⟩) ps.length c] 27)).alloc (.cells #[.int .i64 t] 3)).alloc (.cells #[.slice (some ⟨b, o, none⟩) ps.length c] 25) = wL := ⟨_, rfl⟩
  rw [hwL] at hB4 S0 hb0 ⊢
  have hwLs : wL.heap.size = Y + 1 + 1 + 1 + 1 := by rw [← hwL]; simp; omega
  clear z1 z2 z3 hwL
  obtain ⟨P4, hP4⟩ : ∃ P4 : Nat → Prop, (fun b => (((P b ∨ b = Y) ∨ b = Y + 1) ∨ b = Y + 1 + 1) ∨ b = Y + 1 + 1 + 1) = P4 := ⟨_, rfl⟩
  have q5 : ∀ x, (P x ∨ x = Y ∨ x = Y + 1 ∨ x = Y + 1 + 1 + 1) → P4 x := fun x hx => by
    rw [← hP4]
    rcases hx with hx | hx | hx | hx
    · exact .inl (.inl (.inl (.inl hx)))
    · exact .inl (.inl (.inl (.inr hx)))
    · exact .inl (.inl (.inr hx))
    · exact .inr hx
  have q2 : P4 (Y + 1 + 1) := by rw [← hP4]; exact .inl (.inr rfl)
  rw [hP4] at hB4
  have hprY : ∀ x, P x → x < Y := fun x hx => by rw [← hY]; exact (h.pr x hx).1
  have hBY : B ≤ Y := by rw [← hY]; exact h.sz
  have hPK : ∀ x, P x → wL.heap[x]? = y.heap[x]? := fun x hx => hb0.block x (by rw [hY]; exact hprY x hx)
  have hbel0 := h.bel
  clear hP4 hv hparts h
  have hseq := backward_stops Fence.wide (6 - 1) trivial rfl (by omega) (Y + 1 + 1 + 1) b o ps.length c (by have := len_szL ps; omega) kf uf sf wL (by omega) (by have := hprY b hPb; omega) (S0.cell 0) (fun i hi j v hv => (cell_same (hPK b hPb) _).trans (hcells i hi j v hv))
  have hE0 : CatE B P P4 w0 wL bb Y ps zs t [] wL := ⟨sl, [], t, ⟨by rw [List.append_nil]; exact hB4, fun _ _ => rfl, S0.tl.heap, rfl, by simp⟩⟩
  have x0 : wL.heap[Y]? = some (.cells #[.pointer (some ⟨bb, 0, none⟩)] 118 (0, 0)) := S0.tl.tl.tl.heap
  have hOwn := catE_own (B := B) (P := P) (P4 := P4) (w0 := w0) (wL := wL) (bb := bb) (Y := Y) (ps := ps) (zs := zs) (t := t) (by omega) (by omega) (fun x hx => by have := hprY x hx; omega) q5 q2
  have hIsz : ∀ pre W, CatE B P P4 w0 wL bb Y ps zs t pre W → wL.heap.size ≤ W.heap.size := fun pre W h => by
    obtain ⟨sl, zs', beh, h⟩ := h
    have := (h.bb.pr _ (q5 _ (.inr (.inr (.inr rfl))))).1
    omega
  have hbwL : b < wL.heap.size := by have := hprY b hPb; omega
  refine wpIn_rangeFunc_ownH rfl (by omega) (gf := 110) (lb := #[.pointer (some ⟨Y + 1 + 1 + 1, 0, none⟩)]) rfl trivial (enters_of Tryd.func110 (by kernel_rfl) rfl)
    hseq kpL_t (kpL_b (by omega) (by have := hprY b hPb; omega)) (Below.refl _ _) (fun _ => rfl)
    (CatE B P P4 w0 wL bb Y ps zs t) (fun _ _ _ => False)
    hOwn
    (fun _ _ _ _ _ hs _ _ => hs)
    hE0
    (fun x a' W => ∃ Bx, wL.heap.size ≤ Bx ∧ W.heap[Bx]? = some (.cells #[.int .i64 (kf x), .int .u64 (uf x 0), .int .u64 (uf x 1), .int .u64 (uf x 2), .int .u64 (uf x 3), .slice (sf x).1 (sf x).2.1 (sf x).2.2] 27 (0, 0)) ∧ a' = { tmps := (List.toArray ((Value.pointer (some { block := bb, off := 0 })) :: (Value.agg #[Value.int IntKind.i64 3, Value.int IntKind.u64 (u 0), Value.int IntKind.u64 (u 1), Value.int IntKind.u64 (u 2), Value.int IntKind.u64 (u 3), Value.slice (some { block := b, off := o }) ps.length c]) :: (Value.int IntKind.i64 t) :: (Value.pointer (some { block := Y, off := 0 })) :: (Value.pointer (some { block := Y + 1, off := 0 })) :: (Value.pointer (some { block := Y + 1 + 1, off := 0 })) :: (Value.int IntKind.i64 0) :: (undef) :: (.pointer (some ⟨Bx, 0, none⟩)) :: (undef) :: (undef) :: (undef) :: (undef) :: (Value.pointer (some { block := Y + 1, off := 0 })) :: (Value.int IntKind.i64 3) :: (Value.bool false) :: (Value.bool false) :: (undef) :: (Value.bool false) :: (Value.bool false) :: (undef) :: (undef) :: (undef) :: (undef) :: (undef) :: (undef) :: (Value.bool true) :: (Value.bool true) :: (Value.pointer (some { block := Y + 1, off := 5 })) :: (Value.slice (some { block := b, off := o }) ps.length c) :: (Value.func (Fn.func 110) #[] #[Value.pointer (some { block := Y + 1 + 1 + 1, off := 0 })]) :: (.int .i64 (x : Int)) :: (.agg #[.int .i64 (kf x), .int .u64 (uf x 0), .int .u64 (uf x 1), .int .u64 (uf x 2), .int .u64 (uf x 3), .slice (sf x).1 (sf x).2.1 (sf x).2.2]) :: (undef) :: (undef) :: (undef) :: (undef) :: (undef) :: (undef) :: (undef) :: (undef) :: (undef) :: (undef) :: (undef) :: (undef) :: (undef) :: (undef) :: (undef) :: (undef) :: (undef) :: (undef) :: (undef) :: (undef) :: (undef) :: (undef) :: (undef) :: (undef) :: (undef) :: (undef) :: (undef) :: (undef) :: (undef) :: (undef) :: (undef) :: (undef) :: (undef) :: (undef) :: (undef) :: (undef) :: (undef) :: (undef) :: (undef) :: (undef) :: (undef) :: (undef) :: (undef) :: (undef) :: (undef) :: (undef) :: (undef) :: (undef) :: (undef) :: (undef) :: (undef) :: (undef) :: (undef) :: [])), defers := [] })
    (fun x a' _ W W' row hs hg hr => by
      obtain ⟨Bx, h1, h2, h3⟩ := hs
      refine ⟨Bx, h1, (hg.block Bx (Array.getElem?_eq_some_iff.1 h2).1 (fun e => ?_)).trans h2, h3⟩
      obtain ⟨_, o', ho, hc⟩ := hr Bx e.symm
      rw [h2] at ho; cases ho; cases hc)
    ?assign ?body ?done ?stop
  case assign =>
    intro l pre x W K hi hK
    unfold nodeC
    gi_wp2
    have hWs := hIsz pre W hi
    exact hK _ _ ((KeepsOthers.alloc _ _).from _) ⟨heap_alloc_old W _ (by omega), heap_alloc_old W _ (by omega)⟩ (hOwn.alloc _ hi) ⟨W.heap.size, hWs, heap_alloc_last W _, rfl⟩
  case body =>
    rintro l pre x a' W hl ⟨r, hr⟩ hI ⟨Bx, hBx, hbx, rfl⟩ hlt
    have hWs := hIsz pre W hI
    obtain ⟨sl, zs', beh, hI⟩ := hI
    have f0 : W.cell? ⟨Y, 0, none⟩ = some (.pointer (some ⟨bb, 0, none⟩)) := cell_of_row W Y 0 _ 118 (0, 0) ((hI.k Y (.inr (.inl rfl))).trans x0)
    have f1 : W.cell? ⟨Y + 1 + 1, 0, none⟩ = some (.int .i64 beh) := cell_of_row W _ 0 _ 3 (0, 0) hI.bh
    have e0 : W.cell? ⟨Bx, 0, none⟩ = some (.int .i64 (kf x)) := cell_of_row W Bx 0 _ 27 (0, 0) hbx
    have e1 : W.cell? ⟨Bx, 1, none⟩ = some (.int .u64 (uf x 0)) := cell_of_row W Bx 1 _ 27 (0, 0) hbx
    have e2 : W.cell? ⟨Bx, 2, none⟩ = some (.int .u64 (uf x 1)) := cell_of_row W Bx 2 _ 27 (0, 0) hbx
    have e3 : W.cell? ⟨Bx, 3, none⟩ = some (.int .u64 (uf x 2)) := cell_of_row W Bx 3 _ 27 (0, 0) hbx
    have e4 : W.cell? ⟨Bx, 4, none⟩ = some (.int .u64 (uf x 3)) := cell_of_row W Bx 4 _ 27 (0, 0) hbx
    have e5 : W.cell? ⟨Bx, 5, none⟩ = some (.slice (sf x).1 (sf x).2.1 (sf x).2.2) := cell_of_row W Bx 5 _ 27 (0, 0) hbx
    have hlz : zs'.length = (layC (pre.reverse.map (ptAt ps)) t zs.length).1.length := by rw [← hI.lay]; simp
    obtain ⟨ix, hix, hpt⟩ := ptAt_mem hn0 x
    have hsg := szL_get ps ix hix
    have hlen' := hI.len
    have hcall := IH (ptAt ps x) (by rw [hpt]; exact List.getElem_mem hix) (b := beh) hI.bb.rebase.non (by rw [List.length_append, hpt]; omega)
      ((hrv x).mono (E := fun z => P4 z ∨ ∃ o : Obj, W.heap[z]? = some o ∧ o.isCells = false) (w' := W) (fun z hz => .inl (q5 z (.inl hz))) (fun z hz _ => (hI.k z (.inl hz)).trans (hPK z hz)))
    unfold LayPost nodeC at hcall
    rw [List.length_append] at hcall
    have hmap := layC_map ps pre x t zs.length
    rw [← hI.lay] at hmap
    simp only [List.length_map] at hmap
    have hll := layF_len (ptAt ps x) beh (zs.length + zs'.length)
    obtain ⟨L, hL⟩ : ∃ L, layF (ptAt ps x) beh (zs.length + zs'.length) = L := ⟨_, rfl⟩
    rw [hL] at hcall hmap hll
    have hseqI := hI
    have HC := Lib.hid hcall
    clear hcall hL
    gi_wp2_with (refine ⟨trivial, ?_⟩; gi_at_call 39; refine (CallsIn.inRound l (callsIn_wide.2 HC.out)).mono ?_; rintro _ W2 ⟨rfl, h1, h2⟩; have hk9 := h2 (Y + 1 + 1) (.inl q2); have c9 : W2.cell? ⟨Y + 1 + 1, 0, none⟩ = some (.int .i64 beh) := (cell_same hk9 0).trans f1; have z9 : W2.frozen? ⟨Y + 1 + 1, 0, none⟩ = false := frozen_of_row W2 _ 0 _ 3 (hk9.trans hI.bh))
    obtain ⟨sl2, zs2, hB2, hz2⟩ := h1
    have hk9 := h2 (Y + 1 + 1) (.inl q2)
    have hne2 : ∀ z, (P z ∨ z = Y ∨ z = Y + 1 ∨ z = Y + 1 + 1 + 1) → z ≠ Y + 1 + 1 := fun z hz e => by
      rcases hz with hz | hz | hz | hz
      · have := hprY z hz; omega
      · omega
      · omega
      · omega
    have hl2 : zs2.length = L.1.length := by rw [← hz2]; simp
    have hk5 : ∀ z, (P z ∨ z = Y ∨ z = Y + 1 ∨ z = Y + 1 + 1 + 1) → (W2.setCell ⟨Y + 1 + 1, 0, none⟩ (.int .i64 L.2)).heap[z]? = W.heap[z]? := fun z hz => (heap_setCell_other W2 ⟨Y + 1 + 1, 0, none⟩ z _ (hne2 z hz)).trans (h2 z (.inl (q5 z hz)))
    refine ⟨⟨by simpa using hB2.bel.size, fun k o' hk ho hoc => ?_⟩, ⟨hk5 _ (.inr (.inr (.inr rfl))), hk5 _ (.inl hPb)⟩, sl2, zs' ++ zs2, L.2, ?_, fun z hz => (hk5 z hz).trans (hI.k z hz), ?_, ?_, ?_⟩
    · exact (heap_setCell_other W2 ⟨Y + 1 + 1, 0, none⟩ k _ (by show k ≠ Y + 1 + 1; omega)).trans ((h2 k (.inr ⟨o', ho, hoc⟩)).trans ho)
    · have h9 := ((hB2.less (Q := P4) (fun z h => .inl h)).back hI.bb.bel).upd q2 (by omega) 0 (.int .i64 L.2)
      rw [List.append_assoc] at h9
      exact h9
    · have h9 := heap_setCell_same W2 (Y + 1 + 1) 0 _ 3 (.int .i64 L.2) (hk9.trans hI.bh)
      exact h9
    · rw [hmap, List.map_append, hz2]
    · rw [List.length_append, List.length_append, List.length_singleton, hl2]
      rw [hpt] at hll
      omega
  case done =>
    rintro D xs W hD rfl hI hK
    obtain ⟨sl, zs', beh, hI⟩ := hI
    have hlay := hI.lay
    rw [ptAt_all] at hlay
    have f1 : W.cell? ⟨Y + 1 + 1, 0, none⟩ = some (.int .i64 beh) := cell_of_row W _ 0 _ 3 (0, 0) hI.bh
    gi_wp2
    rw [← hlay]
    refine ⟨by simp, .inl ⟨_, _, rfl, run_takeDeferred hK, ?_⟩⟩
    have hB9 := (hI.bb.abides (grownBy_putObj' W D (.deferred none)) (fun r e => by cases e; exact ⟨by omega, _, hK, rfl⟩)).less (Q := P) (fun z hz => q5 z (.inl hz))
    exact ⟨_, results_tmp rfl _ _ _, rfl, ⟨sl, zs', hB9, rfl⟩, fun z hz => (World.putObj_heap_other (by have := hprY z hz; omega)).trans ((hI.k z (.inl hz)).trans (hPK z hz))⟩
  case stop =>
    rintro D c pre W _ _ h _
    exact h.elim
end Go.Proofs.YthglciccejholaaDoor
