/- Texts of package regs, one behind the other. -/
import Derived.Test.YthglciccejholaaDoorProg
import Derived.Test.YthglciccejholaaDoorV43
import Derived.Test.YthglciccejholaaDoorV42
import Derived.WalkKit
import Derived.WalkLawsBesides
import Derived.WalkSpells
import Derived.Outline
import Derived.Lib.Walk
import Derived.Lib.Hide
import Derived.Lib.Slices
import Derived.Lib.Strings
import Derived.RegionTactic
import Derived.LoopTactic
import Derived.Below
import Derived.IntWalk
import Derived.Deep.QuietTactic
import Derived.BigQuiet
import Derived.Deep.MidRow
import Derived.Maps.AppendAt
import Derived.Laws.Rows
import Derived.Laws.Tables
import Derived.Deep.WholeRow
import Derived.Deep.Cut
import Derived.Deep.CutRange
import Derived.Lib.SliceRun
import Derived.Laws.MakeOwn
import Derived.Deep.RegionLaw
import Derived.Deep.RegionLawGrows
import Derived.Deep.RegionHeld3
import Derived.RegionCalls
import Derived.Deep.RegionWith
import Derived.Deep.Light
import Derived.Test.YthglciccejholaaDoorRg
import Derived.RangeFuncNested
import Derived.RangeFuncBound
import Derived.RangeFuncCalls
import Derived.RangeFuncLeaves
import Derived.RangeFuncBox
import Derived.Shelf.Abstract
import Derived.Shelf.RegionOpen
import Derived.OwnWalkIn
import Derived.TacticsInMore
import Derived.LoopNIn
import Derived.LoopIn
section
/- Package nfa. -/
namespace Go.Proofs.YthglciccejholaaDoor
set_option linter.unusedSimpArgs false
set_option linter.unusedVariables false
set_option maxRecDepth 100000
open Go.RowKit
/- What is laid of the empty one, of none. -/
set_option maxHeartbeats 4000000 in
theorem lay_empty {B : Nat} {P : Nat → Prop} {w0 y : World} {bb : Nat} {zs : List Nq} {sl : Value} {u : Nat → Int} {t : Int} {p : Option Addr} {n c : Nat} (h : BB B P w0 y bb zs sl) :
    Calls Tryd.prog 39 #[.pointer (some ⟨bb, 0, none⟩), .agg (nodeC 1 u (.slice p n c)), .int .i64 t] y (LayPost B P w0 y bb zs ([], t)) := by
  have hb0 := (((Below.refl y.heap.size y).alloc (Nat.le_refl _) (.cells #[.pointer (some ⟨bb, 0, none⟩)] 118)).alloc (by simp) (.cells (nodeC 1 u (.slice p n c)) 27)).alloc (by simp; omega) (.cells #[.int .i64 t] 3)
  have H := Lib.hid (h.up hb0)
  have HK := Lib.hid fun b (hp : P b) => hb0.block b (h.pr b hp).1
  clear h hb0
  unfold nodeC at *
  go_enter Tryd.func39, Tryd.ntmps39
  go_wp2_with fail
  go_ret
  exact ⟨rfl, ⟨_, [], by rw [List.append_nil]; exact H.out, rfl⟩, HK.out⟩
set_option maxHeartbeats 4000000 in
theorem lay_none {B : Nat} {P : Nat → Prop} {w0 y : World} {bb : Nat} {zs : List Nq} {sl : Value} {u : Nat → Int} {t : Int} {p : Option Addr} {n c : Nat} (h : BB B P w0 y bb zs sl) (hlen : zs.length ≤ 1000000000) :
    Calls Tryd.prog 39 #[.pointer (some ⟨bb, 0, none⟩), .agg (nodeC 0 u (.slice p n c)), .int .i64 t] y (LayPost B P w0 y bb zs ([⟨uZ, -1, [], -1⟩], (zs.length : Nat))) := by
  have hb0 := (((Below.refl y.heap.size y).alloc (Nat.le_refl _) (.cells #[.pointer (some ⟨bb, 0, none⟩)] 118)).alloc (by simp) (.cells (nodeC 0 u (.slice p n c)) 27)).alloc (by simp; omega) (.cells #[.int .i64 t] 3)
  have HC := Lib.hid (free_any (fr := []) (q := none) (f := 0) (h.up hb0) hlen (IVf.nil _ _ _ _))
  rw [List.length_nil] at HC
  have HK := Lib.hid fun b (hp : P b) => hb0.block b (h.pr b hp).1
  clear h hb0
  unfold nodeC at *
  go_enter Tryd.func39, Tryd.ntmps39
  go_wp2_with fail
  refine HC.out.mono ?_
  rintro _ y1 ⟨rfl, h1, h2⟩
  have H1 := Lib.hid h1
  have H2 := Lib.hid h2
  clear h1 h2 HC
  go_wp2_with fail
  go_ret
  obtain ⟨sl', h3⟩ := H1.out
  exact ⟨rfl, ⟨sl', _, h3, rfl⟩, fun b hp => (H2.out b hp).trans (HK.out b hp)⟩
theorem lay_setP {B : Nat} {P : Nat → Prop} {w0 y : World} {bb : Nat} {zs : List Nq} {sl : Value} {u : Nat → Int} {t : Int} {p : Option Addr} {n c : Nat} (h : BB B P w0 y bb zs sl) (hlen : zs.length ≤ 1000000000) :
    Calls Tryd.prog 39 #[.pointer (some ⟨bb, 0, none⟩), .agg (nodeC 2 u (.slice p n c)), .int .i64 t] y (LayPost B P w0 y bb zs ([⟨u, t, [], -1⟩], (zs.length : Nat))) :=
  (lay_set (t := t) h hlen).mono fun e y' k => ⟨k.1, by obtain ⟨sl', hs⟩ := k.2.1; exact ⟨sl', _, hs, rfl⟩, k.2.2⟩
/- A pattern that is gone on with. -/
set_option maxHeartbeats 16000000 in
theorem loop_any {B : Nat} {P : Nat → Prop} {w0 y : World} {bb : Nat} {ss : List Nq} {sl : Value} {pt : RT} {k : Int} {u : Nat → Int} {t : Int} {p : Option Addr} {n c : Nat} (IH : LayOK pt) (h : BB B P w0 y bb ss sl) (hlen : ss.length + 1 + sz pt * 8192 ≤ 900000000) (hv : RV P y pt (.agg (nodeC k u (.slice p n c)))) :
    Calls Tryd.prog 79 #[.pointer (some ⟨bb, 0, none⟩), .agg (nodeC k u (.slice p n c)), .int .i64 t] y fun e y' => e = .returned (.tuple #[.int .i64 (layF pt (ss.length : Nat) (ss.length + 1)).2, .int .i64 (ss.length : Nat)]) ∧ (∃ sl' zs', BB B P w0 y' bb (ss ++ zs') sl' ∧ zs'.map (·.1) = ⟨uZ, -1, [t, (layF pt (ss.length : Nat) (ss.length + 1)).2], -1⟩ :: (layF pt (ss.length : Nat) (ss.length + 1)).1) ∧ ∀ b, P b → y'.heap[b]? = y.heap[b]? := by
  obtain ⟨i0, hi, hz0, hz1, hz2⟩ := info_parts info3
  have hll := layF_len pt (ss.length : Nat) (ss.length + 1)
  obtain ⟨R, hR⟩ : ∃ R, layF pt (ss.length : Nat) (ss.length + 1) = R := ⟨_, rfl⟩
  rw [hR] at hll ⊢
  obtain ⟨R1, F⟩ := R
  simp only at hll ⊢
  have HLL := Lib.hid hll
  have HRR := Lib.hid hR
  clear hR hll
  have hbY := h.sz
  have hbb := (Array.getElem?_eq_some_iff.1 h.f).1
  have hown : ∀ g, sl.ownBlock = some g → g < y.heap.size := fun g hg => (World.ownsRow.lt h.ts.2 g hg).2
  have hz1' : (y.alloc (.cells #[.int .i64 k, .int .u64 (u 0), .int .u64 (u 1), .int .u64 (u 2), .int .u64 (u 3), .slice p n c] 27)).heap.size = y.heap.size + 1 := by simp
  have hb1 := (Below.refl y.heap.size y).alloc (Nat.le_refl _) (.cells #[.int .i64 k, .int .u64 (u 0), .int .u64 (u 1), .int .u64 (u 2), .int .u64 (u 3), .slice p n c] 27)
  have hb2 := hb1.alloc (by simp) (.cells #[.int .i64 t] 3)
  have hB2 : BB B (fun b => P b ∨ b = y.heap.size) w0 ((y.alloc (.cells #[.int .i64 k, .int .u64 (u 0), .int .u64 (u 1), .int .u64 (u 2), .int .u64 (u 3), .slice p n c] 27)).alloc (.cells #[.int .i64 t] 3)) bb ss sl := (h.allocP (.cells #[.int .i64 k, .int .u64 (u 0), .int .u64 (u 1), .int .u64 (u 2), .int .u64 (u 3), .slice p n c] 27)).up ((Below.refl _ _).alloc (Nat.le_refl _) (.cells #[.int .i64 t] 3))
  have HPR := Lib.hid h.pr
  have HRV := Lib.hid hv
  have hg0 : ((y.alloc (.cells #[.int .i64 k, .int .u64 (u 0), .int .u64 (u 1), .int .u64 (u 2), .int .u64 (u 3), .slice p n c] 27)).alloc (.cells #[.int .i64 t] 3)).heap[y.heap.size + 1]? = some (.cells #[.int .i64 t] 3) := by
    have := heap_alloc_last (y.alloc (.cells #[.int .i64 k, .int .u64 (u 0), .int .u64 (u 1), .int .u64 (u 2), .int .u64 (u 3), .slice p n c] 27)) (.cells #[.int .i64 t] 3)
    rwa [hz1'] at this
  have hIV : IVf (fun b => B ≤ b ∧ b < ((y.alloc (.cells #[.int .i64 k, .int .u64 (u 0), .int .u64 (u 1), .int .u64 (u 2), .int .u64 (u 3), .slice p n c] 27)).alloc (.cells #[.int .i64 t] 3)).heap.size ∧ some b ≠ sl.ownBlock ∧ b ≠ bb ∧ ¬ (P b ∨ b = y.heap.size)) ((y.alloc (.cells #[.int .i64 k, .int .u64 (u 0), .int .u64 (u 1), .int .u64 (u 2), .int .u64 (u 3), .slice p n c] 27)).alloc (.cells #[.int .i64 t] 3)) [t] (.slice (some ⟨y.heap.size + 1, 0, none⟩) ([t] : List Int).length 1) :=
    ⟨_, 1, rfl, fun _ => ⟨y.heap.size + 1, 0, rfl, ⟨by omega, by simp, fun e => by have := hown _ e.symm; omega, by omega, fun hP => hP.elim (fun hp => by have := (HPR.out _ hp).1; omega) (fun e => by omega)⟩, fun i hi => by
      have h0 : i = 0 := by simp at hi; omega
      subst h0
      rw [cell_of_row _ (y.heap.size + 1) _ _ 3 (0, 0) hg0]; rfl, _, _, hg0⟩⟩
  have HC1 := Lib.hid (free_any hB2 (by omega) hIV)
  rw [show ([t] : List Int).length = 1 from rfl] at HC1
  have HBX : Hid (((y.alloc (.cells #[.int .i64 k, .int .u64 (u 0), .int .u64 (u 1), .int .u64 (u 2), .int .u64 (u 3), .slice p n c] 27)).alloc (.cells #[.int .i64 t] 3)).heap[y.heap.size]? = some (.cells #[.int .i64 k, .int .u64 (u 0), .int .u64 (u 1), .int .u64 (u 2), .int .u64 (u 3), .slice p n c] 27)) := Lib.hid ((heap_alloc_old _ _ (by simp)).trans (heap_alloc_last y _))
  have HK2 := Lib.hid fun b (hp : P b) => hb2.block b (h.pr b hp).1
  clear h hIV hB2 hg0 hb1 hb2 hz1' hown hv
  unfold nodeC at *
  go_enter Tryd.func79, Tryd.ntmps79
  go_wp2_with fail
  refine HC1.out.mono ?_
  rintro _ y3 ⟨rfl, ⟨sl3, h3⟩, hk3⟩
  have HBX3 := Lib.hid ((hk3 _ (.inr rfl)).trans HBX.out)
  have HK3 := Lib.hid fun b (hp : P b) => (hk3 b (.inl hp)).trans (HK2.out b hp)
  have hL := IH (b := (ss.length : Nat)) h3 (by simp; omega) (HRV.out.mono (E := fun b => P b ∨ b = y.heap.size) (fun b hb => .inl hb) (fun b hb _ => HK3.out b hb))
  unfold LayPost at hL
  rw [List.length_append, List.length_singleton, HRR.out] at hL
  have HL := Lib.hid hL
  have e0 : y3.cell? ⟨y.heap.size, 0, none⟩ = some (.int .i64 k) := cell_of_row y3 _ 0 _ 27 (0, 0) HBX3.out
  have e1 : y3.cell? ⟨y.heap.size, 1, none⟩ = some (.int .u64 (u 0)) := cell_of_row y3 _ 1 _ 27 (0, 0) HBX3.out
  have e2 : y3.cell? ⟨y.heap.size, 2, none⟩ = some (.int .u64 (u 1)) := cell_of_row y3 _ 2 _ 27 (0, 0) HBX3.out
  have e3 : y3.cell? ⟨y.heap.size, 3, none⟩ = some (.int .u64 (u 2)) := cell_of_row y3 _ 3 _ 27 (0, 0) HBX3.out
  have e4 : y3.cell? ⟨y.heap.size, 4, none⟩ = some (.int .u64 (u 3)) := cell_of_row y3 _ 4 _ 27 (0, 0) HBX3.out
  have e5 : y3.cell? ⟨y.heap.size, 5, none⟩ = some (.slice p n c) := cell_of_row y3 _ 5 _ 27 (0, 0) HBX3.out
  clear h3 hk3 HC1 HBX HK2 hL HRV HRR
  go_wp2_with fail
  refine HL.out.mono ?_
  rintro _ y4 ⟨rfl, ⟨sl4, zs', h4, hzs⟩, hk4⟩
  have HK4 := Lib.hid fun b (hp : P b) => (hk4 b (.inl hp)).trans (HK3.out b hp)
  have H4 := Lib.hid h4
  have HZS := Lib.hid hzs
  clear hk4 HL HK3 e0 e1 e2 e3 e4 e5 HBX3 h4 hzs
  rw [List.append_assoc] at H4
  go_upto_region 3 with fail
  obtain ⟨zs4, hzs4⟩ : ∃ zs4 : List Nq, (ss ++ ([(⟨uZ, -1, [t], -1⟩, some ⟨y.heap.size + 1, 0, none⟩, 1)] ++ zs')) = zs4 := ⟨_, rfl⟩
  rw [hzs4] at H4
  have hzl' : zs'.length = R1.length := by rw [← HZS.out]; simp
  have hl4 : zs4.length = ss.length + 1 + zs'.length := by rw [← hzs4]; simp; omega
  have HB4 : Hid (zs4.length ≤ 800000000 + 100000000) := Lib.hid (by have := HLL.out; omega)
  have hlt4 : ss.length < zs4.length := by omega
  have hget4 : zs4[ss.length] = (⟨uZ, -1, [t], -1⟩, some ⟨y.heap.size + 1, 0, none⟩, 1) := by subst hzs4; simp
  have hset4 : ∀ x : Nq, zs4.set ss.length x = ss ++ (x :: zs') := fun x => by subst hzs4; simp
  obtain ⟨G, cap4, hsl4⟩ : ∃ G cap4, sl4 = .slice (some ⟨G, 0, none⟩) zs4.length cap4 := by
    rcases H4.out.ts.2.2 with ⟨_, h0⟩ | ⟨G, cap4, cur, he, _⟩
    · omega
    · exact ⟨G, cap4, he⟩
  subst hsl4
  have hGlt : G < y4.heap.size := (World.ownsRow.lt H4.out.ts.2 G rfl).2
  have hGB : B ≤ G := (World.ownsRow.lt H4.out.ts.2 G rfl).1
  have hGb : G ≠ bb := fun e => H4.out.sb (by simp [Value.ownBlock, e])
  have hbb4 : bb < y4.heap.size := (Array.getElem?_eq_some_iff.1 H4.out.f).1
  have hiv4 := H4.out.ts.1 ss.length hlt4
  rw [hget4] at hiv4
  obtain ⟨pg, cg, heg, hhg⟩ := hiv4
  cases heg
  obtain ⟨b', o', hbo, hDg, hcg⟩ := hhg (by simp)
  cases hbo
  have cell_t : y4.cell? ⟨y.heap.size + 1, 0, none⟩ = some (.int .i64 t) := hcg.1 0 (by simp)
  have hflat : (flat (zs4.map zC))[ss.length * 7 + 5]? = some (.slice (some ⟨y.heap.size + 1, 0, none⟩) 1 1) := by
    rw [flatz_get zs4 ss.length hlt4 5 (by omega), hget4]; rfl
  have cS : y4.cell? ⟨bb, 0, none⟩ = some (.slice (some ⟨G, 0, none⟩) zs4.length cap4) := cell_of_row y4 bb 0 _ 77 (0, 0) H4.out.f
  have n6_cF : y4.cell? ⟨G, ss.length * 7 + 5, none⟩ = some (.slice (some ⟨y.heap.size + 1, 0, none⟩) 1 1) := by
    have := World.ownsRow.cells H4.out.ts.2 (g := G) rfl _ _ hflat
    rwa [Addr.add_mid, Nat.zero_add] at this
  have fF : y4.frozen? ⟨G, ss.length * 7 + 5, none⟩ = false := World.ownsRow.frozenAt H4.out.ts.2 _
  have cS2 : ∀ o, (y4.alloc o).cell? ⟨bb, 0, none⟩ = some (.slice (some ⟨G, 0, none⟩) zs4.length cap4) := fun o => (cell_same (heap_alloc_old y4 o hbb4) _).trans cS
  have cF2 : ∀ o, (y4.alloc o).cell? ⟨G, ss.length * 7 + 5, none⟩ = some (.slice (some ⟨y.heap.size + 1, 0, none⟩) 1 1) := fun o => (cell_same (heap_alloc_old y4 o hGlt) _).trans n6_cF
  have hglt : y.heap.size + 1 < y4.heap.size := blk_lt cell_t
  have HOLD : Hid (∀ b, (some (⟨y.heap.size + 1, 0, none⟩ : Addr)) = some b → ∀ j v, [Value.int .i64 t][j]? = some v → ((y4.alloc (.cells #[.int .i64 F] 3)).drew).cell? (b.add j) = some v) := Lib.hid fun b hb j v hj => by
    cases hb
    match j, hj with
    | 0, hj =>
      simp at hj
      subst hj
      exact (cell_same (heap_alloc_old y4 _ hglt) 0).trans cell_t
  have HNEW : Hid (∀ j v, [Value.int .i64 F][j]? = some v → ((y4.alloc (.cells #[.int .i64 F] 3)).drew).cell? ((⟨y4.heap.size, 0, none⟩ : Addr).add j) = some v) := Lib.hid (cell_one_new y4 _ 3)
  have hsI : ¬ (ss.length : Int) < 0 := by omega
  have hsI2 : (ss.length : Int) < (zs4.length : Int) := by omega
  have HYA := Lib.hid (show (y4.alloc (.cells #[.int .i64 F] 3)).heap.size = y4.heap.size + 1 by simp)
  have HL4 := Lib.hid hl4
  have HLT4 := Lib.hid hlt4
  clear hhg hcg hflat hDg hl4 hzl'
  go_region_law (refine step_append_grows rfl (.tmp 28) (.tmp 30) 39 rfl 3 i0 (.int .i64 0) 1 8 Tryd.underlying39 hi hz0 hz1 hz2 rfl (by decide) (some ⟨y.heap.size + 1, 0, none⟩) 1 1 [.int .i64 t] (by simp [Act.eval, Act.put]) (by intro h; cases h) rfl HOLD.out ⟨y4.heap.size, 0, none⟩ 1 1 [.int .i64 F] (by simp [Act.eval, Act.put]) rfl HNEW.out (by simp [Value.oneCell']) (by omega) (by unfold maxLen; omega) (by omega) ?_; intro v' w7 hown7 hgrow7; obtain ⟨p7, c7, rfl⟩ := row_form hown7; have hG7 : w7.heap[G]? = y4.heap[G]? := (hgrow7.block G (by have := HYA.out; show G < (y4.alloc _).heap.size; omega) (by simp)).trans (heap_alloc_old y4 _ hGlt); have hbb7 : w7.heap[bb]? = y4.heap[bb]? := (hgrow7.block bb (by have := HYA.out; show bb < (y4.alloc _).heap.size; omega) (by simp)).trans (heap_alloc_old y4 _ hbb4); have cS7 : w7.cell? ⟨bb, 0, none⟩ = some (.slice (some ⟨G, 0, none⟩) zs4.length cap4) := (cell_same hbb7 _).trans cS; have cF7 : w7.cell? ⟨G, ss.length * 7 + 5, none⟩ = some (.slice (some ⟨y.heap.size + 1, 0, none⟩) 1 1) := (cell_same hG7 _).trans n6_cF; have fF7 : w7.frozen? ⟨G, ss.length * 7 + 5, none⟩ = false := by (rw [← fF]; unfold World.frozen?; simp only [hG7]))
  all_goals
    have hown8 : w7.ownsRow (y4.heap.size + 1) 3 1 (.slice p7 2 c7) 2 [.int .i64 t, .int .i64 F] := by
      have h9 := hown7
      rw [show ((y4.alloc (.cells #[.int .i64 F] 3)).drew).heap.size = y4.heap.size + 1 from HYA.out] at h9
      exact h9
    have hg7 : (y4.alloc (.cells #[.int .i64 F] 3)).grownBy w7 none := ⟨hgrow7.os, hgrow7.tape, hgrow7.output, hgrow7.size, hgrow7.block⟩
    have hX := BB.setFree (l := [t, F]) (H4.out.less (Q := P) (fun b hp => .inl hp)) HLT4.out (.cells #[.int .i64 F] 3) (by simp) hown8 hg7
    simp only [hget4] at hX
    rw [hset4] at hX
    have hPK : ∀ b, P b → (w7.setCell ⟨G, ss.length * 7 + 5, none⟩ (.slice p7 2 c7)).heap[b]? = y.heap[b]? := fun b hp => (hX.2 b (H4.out.pr b (.inl hp)).1 (fun e => (H4.out.pr b (.inl hp)).2.2 (by simp [Value.ownBlock, e]))).trans (HK4.out b hp)
    have HX := Lib.hid hX.1
    have HPK := Lib.hid hPK
    clear hX hPK hown8 hg7 hown7 hgrow7 hG7 hbb7 cS7 cF7 fF7 HOLD HNEW
    refine at_worldQ (fun x => BB B P w0 x bb (ss ++ ((⟨uZ, -1, [t, F], -1⟩, p7, c7) :: zs')) (.slice (some ⟨G, 0, none⟩) zs4.length cap4) ∧ ∀ b, P b → x.heap[b]? = y.heap[b]?) ⟨HX.out, HPK.out⟩ fun x hx => ?_
    have H9 := Lib.hid hx
    clear hx HX HPK cS n6_cF fF cS2 cF2 H4
    go_wp2_with fail
    exact bodyPost_ret (v := .tuple #[.int .i64 F, .int .i64 (ss.length : Nat)]) (by simp [results, Tryd.results79, go_sem]) rfl ⟨rfl, ⟨_, _, H9.out.1, by rw [List.map_cons, HZS.out]⟩, H9.out.2⟩
end Go.Proofs.YthglciccejholaaDoor
end
section
/- Package nfa. -/
namespace Go.Proofs.YthglciccejholaaDoor
set_option linter.unusedSimpArgs false
set_option linter.unusedVariables false
set_option maxRecDepth 100000
open Go.RowKit Go.Shelf
/- slices.Backward over a slice of patterns. -/
attribute [local go_sem] Oper.semAt_some
/-- What has come when k rounds are over: the last one first. -/
def downto (n k : Nat) : List Nat := (List.range k).map fun j => n - 1 - j
theorem downto_succ (n k : Nat) : downto n (k + 1) = downto n k ++ [n - 1 - k] := by simp [downto, List.range_succ]
theorem downto_len (n k : Nat) : (downto n k).length = k := by simp [downto]
/-- Blocks that a round keeps. -/
def KpL (b1 b2 : Nat) (W W' : World) : Prop := W'.heap[b1]? = W.heap[b1]? ∧ W'.heap[b2]? = W.heap[b2]?
theorem KpL.cell1 {b1 b2 o : Nat} {W W' : World} (h : KpL b1 b2 W W') : W'.cell? ⟨b1, o, none⟩ = W.cell? ⟨b1, o, none⟩ := cell_same h.1 o
theorem KpL.cell2 {b1 b2 o : Nat} {W W' : World} (h : KpL b1 b2 W W') : W'.cell? ⟨b2, o, none⟩ = W.cell? ⟨b2, o, none⟩ := cell_same h.2 o
theorem kpL_t {b1 b2 : Nat} {A B C : World} (h : KpL b1 b2 A B) (k : KpL b1 b2 B C) : KpL b1 b2 A C := ⟨k.1.trans h.1, k.2.trans h.2⟩
theorem kpL_b {b1 b2 : Nat} {w : World} (h1 : b1 < w.heap.size) (h2 : b2 < w.heap.size) (W : World) (l : Nat) (o o' : Obj) (hl : w.heap.size ≤ l) (_ : W.heap[l]? = some o) (_ : o.isCells = false) (_ : o.isWalk = false) : KpL b1 b2 W (W.putObj l o') :=
  ⟨World.putObj_heap_other (by omega), World.putObj_heap_other (by omega)⟩
set_option maxHeartbeats 4000000 in
theorem backward1_in (F : Fence) (n : Nat) (h67 : F.fn 110) (hro : F.round = none) (hn : 1 ≤ n) (l Bs b off len cap : Nat) (hlen : len ≤ 1000000000) (k : Nat → Int) (u : Nat → Nat → Int) (sv : Nat → Option Addr × Nat × Nat) (J Jx : List Nat → World → Prop)
    (hY : ∀ pre (x : Nat) W, J pre W → pre.length < len → YieldAt F (n - 1) Tryd.prog l #[.int .i64 (x : Int), .agg (nodeC (k x) (u x) (.slice (sv x).1 (sv x).2.1 (sv x).2.2))] W fun e W' =>
      (e = .returned (.bool true) ∧ J (pre ++ [x]) W' ∧ KpL Bs b W W') ∨ (e = .returned (.bool false) ∧ Jx (pre ++ [x]) W'))
    (W : World) (hBs : W.cell? ⟨Bs, 0, none⟩ = some (.slice (some ⟨b, off, none⟩) len cap)) (hc : ∀ i, i < len → ∀ j y, (nodeC (k i) (u i) (.slice (sv i).1 (sv i).2.1 (sv i).2.2))[j]? = some y → W.cell? ⟨b, off + i * 6 + j, none⟩ = some y) (h0 : J [] W) :
    CallsIn F n Tryd.prog 110 #[.func (.yield l) #[] #[], .pointer (some ⟨Bs, 0, none⟩)] W fun e W' => (∃ v, e = .returned v) ∧
      ((∃ ys, ys = downto len len ∧ J ys W') ∨ (∃ pre, True ∧ Jx pre W')) := by
  refine callsIn_of_wp Tryd.func110 rfl h67 ?_ hro
  simp only [Tryd.ntmps110, List.size_toArray, List.length_cons, List.length_nil, Nat.reduceAdd, Nat.reduceSub, Array.replicate_succ, Array.replicate_zero, List.push_toArray, List.append_toArray, List.nil_append, List.cons_append]
  gi_wp2
  gi_loopw [3] (fun i wr => ∃ (q : Nat), q ≤ len ∧ i = .int .i64 ((len : Int) - 1 - (q : Nat)) ∧ J (downto len q) wr ∧ KpL Bs b W wr)
    (fun i _ => ((intOf i) + 1).toNat)
  case atStart => exact ⟨0, Nat.zero_le _, by simp, h0, rfl, rfl⟩
  case round =>
    obtain ⟨q, hq, rfl, hJs, hkp⟩ := hrel
    have hBs' : wr.cell? ⟨Bs, 0, none⟩ = some (.slice (some ⟨b, off, none⟩) len cap) := hkp.cell1.trans hBs
    by_cases hlt : q < len
    · have hge : 0 ≤ (len : Int) - 1 - (q : Int) := by omega
      obtain ⟨m, hm⟩ : ∃ m : Nat, (len : Int) - 1 - (q : Int) = (m : Int) := ⟨((len : Int) - 1 - (q : Int)).toNat, by omega⟩
      have hml : m < len := by omega
      have hmq : len - 1 - q = m := by omega
      obtain ⟨fn, tmps, assign, body, hy, hR⟩ := hY _ m wr hJs (by rw [downto_len]; exact hlt)
      have hcx : ∀ j y, (nodeC (k m) (u m) (.slice (sv m).1 (sv m).2.1 (sv m).2.2))[j]? = some y → wr.cell? ⟨b, off + m * 6 + j, none⟩ = some y := fun j y h => hkp.cell2.trans (hc m hml j y h)
      have d0 : wr.cell? ⟨b, off + m * 6, none⟩ = some (.int .i64 (k m)) := hcx 0 _ rfl
      have d1 : wr.cell? ⟨b, off + m * 6 + 1, none⟩ = some (.int .u64 (u m 0)) := hcx 1 _ rfl
      have d2 : wr.cell? ⟨b, off + m * 6 + 2, none⟩ = some (.int .u64 (u m 1)) := hcx 2 _ rfl
      have d3 : wr.cell? ⟨b, off + m * 6 + 3, none⟩ = some (.int .u64 (u m 2)) := hcx 3 _ rfl
      have d4 : wr.cell? ⟨b, off + m * 6 + 4, none⟩ = some (.int .u64 (u m 3)) := hcx 4 _ rfl
      have d5 : wr.cell? ⟨b, off + m * 6 + 5, none⟩ = some (.slice (sv m).1 (sv m).2.1 (sv m).2.2) := hcx 5 _ rfl
      unfold nodeC at hy
      rw [hm]
      have hmI : ¬ (m : Int) < 0 := by omega
      have hmI2 : (m : Int) < (len : Int) := by omega
      have hds : downto len (q + 1) = downto len q ++ [m] := by rw [downto_succ, hmq]
      clear hcx
      gi_wp2
      refine hR.mono ?_
      rintro e W3 (⟨rfl, hJ3, hk3⟩ | ⟨rfl, hJx3⟩)
      · gi_wp2
        go_roundw
        case rel => exact ⟨q + 1, by omega, vint5 (by omega), by rw [hds]; exact hJ3, kpL_t hkp hk3⟩
        case measure => first | (simp [intOf]; done) | (simp [intOf]; omega)
      · gi_wp2
        refine bodyPost_ret (results_none rfl _ _ _) rfl ?_
        exact ⟨⟨_, rfl⟩, .inr (by first | exact ⟨_, trivial, hJx3⟩ | exact ⟨_, hJx3⟩)⟩
    · obtain rfl : q = len := by omega
      have hI : ¬ 0 ≤ (q : Int) - 1 - (q : Int) := by omega
      gi_wp2
      go_end0
      exact ⟨⟨_, rfl⟩, .inl (by first | exact hJs | exact ⟨_, rfl, hJs⟩)⟩
set_option maxHeartbeats 1000000 in
theorem backward_any (a : Option Addr) (len cap : Nat) (w : World) :
    Calls Tryd.prog 77 #[.slice a len cap] w fun e w' => e = .returned (.func (.func 110) #[] #[.pointer (some ⟨w.heap.size, 0, none⟩)]) ∧ w' = w.alloc (.cells #[.slice a len cap] 25) := by
  refine (callsIn_wide (n := 1)).1 ?_
  refine callsIn_of_wp Tryd.func77 rfl trivial ?_ rfl
  simp only [Tryd.ntmps77, List.size_toArray, List.length_cons, List.length_nil, Nat.reduceAdd, Nat.reduceSub, Array.replicate_succ, Array.replicate_zero, List.push_toArray, List.append_toArray, List.nil_append, List.cons_append]
  gi_wp2
  go_ret
  exact ⟨rfl, rfl⟩
theorem backward_stops (F : Fence) (n : Nat) (h67 : F.fn 110) (hro : F.round = none) (hn : 1 ≤ n) (Bs b off len cap : Nat) (hlen : len ≤ 1000000000) (k : Nat → Int) (u : Nat → Nat → Int) (sv : Nat → Option Addr × Nat × Nat) (w : World) (h1 : Bs < w.heap.size) (h2 : b < w.heap.size)
    (hBs : w.cell? ⟨Bs, 0, none⟩ = some (.slice (some ⟨b, off, none⟩) len cap)) (hc : ∀ i, i < len → ∀ j y, (nodeC (k i) (u i) (.slice (sv i).1 (sv i).2.1 (sv i).2.2))[j]? = some y → w.cell? ⟨b, off + i * 6 + j, none⟩ = some y) :
    SeqStopsK F n Tryd.prog 110 #[.pointer (some ⟨Bs, 0, none⟩)] (fun x : Nat => #[Value.int .i64 (x : Int), .agg (nodeC (k x) (u x) (.slice (sv x).1 (sv x).2.1 (sv x).2.2))]) (KpL Bs b) (fun ys => ys = downto len len) (fun _ => True) len w := fun l J Jx W hW _ _ hY h0 =>
  backward1_in F n h67 hro hn l Bs b off len cap hlen k u sv J Jx hY W ((hW.cell (p := ⟨Bs, 0, none⟩) h1).trans hBs) (fun i hi j y hy => (hW.cell (p := ⟨b, off + i * 6 + j, none⟩) h2).trans (hc i hi j y hy)) h0
end Go.Proofs.YthglciccejholaaDoor
end
