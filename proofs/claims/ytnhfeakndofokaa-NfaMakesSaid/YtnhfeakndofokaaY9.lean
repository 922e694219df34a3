/- Texts of package regs, one behind the other. -/
import Derived.Test.YtnhfeakndofokaaProg
import Derived.Test.YtnhfeakndofokaaY8
import Derived.WalkKit
import Derived.WalkLawsBesides
import Derived.WalkSpells
import Derived.Outline
import Derived.Lib.Walk
import Derived.Lib.Hide
import Derived.Lib.Slices
import Derived.Lib.Strings
import Derived.RegionTactic
import Derived.LoopTactic
import Derived.Below
import Derived.IntWalk
import Derived.Deep.QuietTactic
import Derived.BigQuiet
import Derived.Deep.MidRow
import Derived.Maps.AppendAt
import Derived.Laws.Rows
import Derived.Laws.Tables
import Derived.Deep.WholeRow
import Derived.Deep.Cut
import Derived.Deep.CutRange
import Derived.Lib.SliceRun
import Derived.Laws.MakeOwn
import Derived.Deep.RegionLaw
import Derived.Deep.RegionLawGrows
section
/- Package nfa. -/
namespace Go.Proofs.Ytnhfeakndofokaa
set_option linter.unusedSimpArgs false
set_option linter.unusedVariables false
set_option maxRecDepth 100000
open Go.RowKit
/- add. -/
theorem ret_i6 {a b : Int} (h : a = b) : Ending.returned (.int .i64 a) = .returned (.int .i64 b) := by rw [h]
theorem Ts.box {B bb : Nat} {P : Nat → Prop} {zs : List Nq} {sl : Value} {w : World} (h : Ts B bb P zs sl w) (hne : sl.ownBlock ≠ some bb) (v : Value) : Ts B bb P zs sl (w.setCell ⟨bb, 0, none⟩ v) := by
  obtain ⟨h3, h4⟩ := h
  refine ⟨fun i hi => (h3 i hi).mono (fun b h => ⟨h.1, by simpa using h.2.1, h.2.2⟩) (fun b h _ => heap_setCell_other w ⟨bb, 0, none⟩ b _ h.2.2.2.1), ?_⟩
  refine World.ownsRow.kept h4 (row := some bb) ⟨rfl, rfl, rfl, by simp, fun k hk hne => heap_setCell_other w _ k _ (fun e => hne (by rw [e]))⟩ ?_
  by_cases hp : sl.ownBlock = none
  · exact .inl hp
  · exact .inr hne
set_option maxHeartbeats 8000000 in
theorem add_any {B : Nat} {P : Nat → Prop} {w0 y : World} {bb : Nat} {ss : List Nq} {sl : Value} {u : Nat → Int} {tg rl : Int} {fr : List Int} {q : Option Addr} {f : Nat} (h : BB B P w0 y bb ss sl) (hlen : ss.length ≤ 1000000000)
    (hfr : IVf (fun b => B ≤ b ∧ b < y.heap.size ∧ some b ≠ sl.ownBlock ∧ b ≠ bb ∧ ¬ P b) y fr (.slice q fr.length f)) :
    Calls Try.prog 54 #[.pointer (some ⟨bb, 0, none⟩), .agg (stC u tg (.slice q fr.length f) rl)] y fun e y' => e = .returned (.int .i64 (ss.length : Nat)) ∧ (∃ sl', BB B P w0 y' bb (ss ++ [(⟨u, tg, fr, rl⟩, q, f)]) sl') ∧ ∀ b, P b → y'.heap[b]? = y.heap[b]? := by
  obtain ⟨i0, hi, hz0, hz1, hz2⟩ := info_parts info49b
  obtain ⟨p, c, rfl⟩ : ∃ p c, sl = .slice p ss.length c := by
    exact row_form7 h.ts.2
  have hb0 := (Below.refl y.heap.size y).alloc (Nat.le_refl _) (.cells (stC u tg (.slice q fr.length f) rl) 49)
  have H1 := Lib.hid (h.up hb0)
  have HB1 := Lib.hid (heap_alloc_last y (.cells (stC u tg (.slice q fr.length f) rl) 49))
  have HFR : Hid (IVf (fun b => B ≤ b ∧ b < y.heap.size ∧ some b ≠ (Value.slice p ss.length c).ownBlock ∧ b ≠ bb ∧ ¬ P b) (y.alloc (.cells (stC u tg (.slice q fr.length f) rl) 49)) fr (.slice q fr.length f)) := Lib.hid (hfr.mono (fun b h => h) (fun b h _ => hb0.block b h.2.1))
  have HPR := Lib.hid h.pr
  have hsz1 : (y.alloc (.cells (stC u tg (.slice q fr.length f) rl) 49)).heap.size = y.heap.size + 1 := by simp
  have HPK : Hid (∀ b, P b → (y.alloc (.cells (stC u tg (.slice q fr.length f) rl) 49)).heap[b]? = y.heap[b]?) := Lib.hid fun b hp => hb0.block b (h.pr b hp).1
  clear h hfr hb0
  unfold stC at *
  go_enter Try.func54, Try.ntmps54
  go_upto_region 1 with fail
  refine at_world (fun z => BB B P w0 z bb ss (.slice p ss.length c) ∧ z.heap[y.heap.size]? = some (.cells (stC u tg (.slice q fr.length f) rl) 49) ∧ IVf (fun b => B ≤ b ∧ b < y.heap.size ∧ some b ≠ (Value.slice p ss.length c).ownBlock ∧ b ≠ bb ∧ ¬ P b) z fr (.slice q fr.length f) ∧ z.heap.size = y.heap.size + 1 ∧ ∀ b, P b → z.heap[b]? = y.heap[b]?) ⟨H1.out, HB1.out, HFR.out, hsz1, HPK.out⟩ fun z hz => ?_
  have H2 := Lib.hid hz.1
  have HFR2 := Lib.hid hz.2.2.1
  have HPK2 := Lib.hid hz.2.2.2.2
  have HSZ := Lib.hid hz.2.2.2.1
  have hbx := hz.2.1
  have cb : z.cell? ⟨bb, 0, none⟩ = some (.slice p ss.length c) := cell_of_row z bb 0 _ 64 (0, 0) hz.1.f
  have e0 : z.cell? ⟨y.heap.size, 0, none⟩ = some (.int .u64 (u 0)) := cell_of_row z y.heap.size 0 _ 49 (0, 0) hbx
  have e1 : z.cell? ⟨y.heap.size, 1, none⟩ = some (.int .u64 (u 1)) := cell_of_row z y.heap.size 1 _ 49 (0, 0) hbx
  have e2 : z.cell? ⟨y.heap.size, 2, none⟩ = some (.int .u64 (u 2)) := cell_of_row z y.heap.size 2 _ 49 (0, 0) hbx
  have e3 : z.cell? ⟨y.heap.size, 3, none⟩ = some (.int .u64 (u 3)) := cell_of_row z y.heap.size 3 _ 49 (0, 0) hbx
  have e4 : z.cell? ⟨y.heap.size, 4, none⟩ = some (.int .i64 tg) := cell_of_row z y.heap.size 4 _ 49 (0, 0) hbx
  have e5 : z.cell? ⟨y.heap.size, 5, none⟩ = some (.slice q fr.length f) := cell_of_row z y.heap.size 5 _ 49 (0, 0) hbx
  have e6 : z.cell? ⟨y.heap.size, 6, none⟩ = some (.int .i64 rl) := cell_of_row z y.heap.size 6 _ 49 (0, 0) hbx
  have hbb : bb < z.heap.size := (Array.getElem?_eq_some_iff.1 hz.1.f).1
  have cb2 : ∀ o, (z.alloc o).cell? ⟨bb, 0, none⟩ = some (.slice p ss.length c) := fun o => (cell_same (heap_alloc_old z o hbb) 0).trans cb
  have X3 := Lib.hid hz.1.ts
  have X4 := Lib.hid (World.ownsRow.alloc hz.1.ts.2 (.cells #[.int .u64 (u 0), .int .u64 (u 1), .int .u64 (u 2), .int .u64 (u 3), .int .i64 tg, .slice q fr.length f, .int .i64 rl] 49))
  have hc0 : ∀ j v, (stC u tg (.slice q fr.length f) rl).toList[j]? = some v → (z.alloc (.cells #[.int .u64 (u 0), .int .u64 (u 1), .int .u64 (u 2), .int .u64 (u 3), .int .i64 tg, .slice q fr.length f, .int .i64 rl] 49)).cell? ((⟨z.heap.size, 0, none⟩ : Addr).add j) = some v := fun j v hj => by
    rw [Addr.add_mid, cell_of_row _ z.heap.size (0 + j) _ 49 (0, 0) (heap_alloc_last z _), Nat.zero_add]
    rw [Array.getElem?_toList] at hj; exact hj
  have HC0 := Lib.hid hc0
  have hzsz := hz.1.sz
  have HYA := Lib.hid (show (z.alloc (.cells #[.int .u64 (u 0), .int .u64 (u 1), .int .u64 (u 2), .int .u64 (u 3), .int .i64 tg, .slice q fr.length f, .int .i64 rl] 49)).heap.size = z.heap.size + 1 by simp)
  clear hz hc0 H1 HB1 HFR HPK hsz1
  go_region_law (refine step_append_own rfl (.tmp 9) (.tmp 11) 22 rfl B 49 i0 _ 7 72 Try.underlying22 hi hz0 hz1 hz2 rfl (by decide) (.slice p ss.length c) ss.length (flat (ss.map zC)) (by simp [Act.eval, Act.put]) X4.out ⟨z.heap.size, 0, none⟩ 1 1 (stC u tg (.slice q fr.length f) rl).toList (by simp [Act.eval, Act.put]) rfl HC0.out (fun v hv => by simp [stC] at hv; rcases hv with rfl | rfl | rfl | rfl | rfl | rfl | rfl <;> rfl) (by unfold maxLen; omega) (by omega) (by have := HYA.out; show B ≤ (z.alloc _).heap.size; omega) ?_; intro v' w7 hown7 hgrow7 _ hat7; obtain ⟨p7, c7, rfl⟩ := row_form7 hown7; have hF7 : w7.heap[bb]? = some (.cells #[.slice p ss.length c] 64) := (hgrow7.block bb (by have := HYA.out; show bb < (z.alloc _).heap.size; omega) (fun e => H2.out.sb e.symm)).trans ((heap_alloc_old z _ hbb).trans H2.out.f); have hF8 : w7.cell? ⟨bb, 0, none⟩ = some (.slice p ss.length c) := cell_of_row w7 bb 0 _ 64 (0, 0) hF7; have hFf : w7.frozen? ⟨bb, 0, none⟩ = false := frozen_of_row w7 bb 0 _ 64 hF7)
  all_goals
    have hg7 : (z.alloc (.cells #[.int .u64 (u 0), .int .u64 (u 1), .int .u64 (u 2), .int .u64 (u 3), .int .i64 tg, .slice q fr.length f, .int .i64 rl] 49)).grownBy w7 (Value.slice p ss.length c).ownBlock := ⟨hgrow7.os, hgrow7.tape, hgrow7.output, hgrow7.size, hgrow7.block⟩
    have hat8 : (Value.slice p7 (ss.length + 1) c7).ownBlock = (Value.slice p ss.length c).ownBlock ∨ (Value.slice p7 (ss.length + 1) c7).ownBlock = some (z.alloc (.cells #[.int .u64 (u 0), .int .u64 (u 1), .int .u64 (u 2), .int .u64 (u 3), .int .i64 tg, .slice q fr.length f, .int .i64 rl] 49)).heap.size := hat7
    have hya := HYA.out
    have hsz0 := HSZ.out
    have hts : Ts B bb P (ss ++ [(⟨u, tg, fr, rl⟩, q, f)]) (.slice p7 (ss.length + 1) c7) w7 := Ts.app (s := (⟨u, tg, fr, rl⟩, q, f)) X3.out rfl (HFR2.out.mono (fun b h => ⟨h.1, by omega, h.2.2⟩) (fun b h _ => rfl)) hown7 hg7 hat8
    have hbel7 : Below B w0 w7 := below_grown (H2.out.bel.alloc H2.out.sz _) hg7 (fun g hg => (World.ownsRow.lt X4.out g hg).1) (by omega)
    have hsz7 := hg7.size
    have hnb : (Value.slice p7 (ss.length + 1) c7).ownBlock ≠ some bb := by
      rcases hat8 with e | e
      · rw [e]; exact H2.out.sb
      · rw [e]; intro h; cases h; omega
    have H8 : Hid (BB B P w0 (w7.setCell ⟨bb, 0, none⟩ (.slice p7 (ss.length + 1) c7)) bb (ss ++ [(⟨u, tg, fr, rl⟩, q, f)]) (.slice p7 (ss.length + 1) c7)) := Lib.hid ⟨hbel7.setCell (p := ⟨bb, 0, none⟩) H2.out.hb _, heap_setCell_same w7 bb 0 _ 64 _ hF7, hts.box hnb _, H2.out.hb, hnb, by simp; omega, fun b hp => by
      have h9 := HPR.out b hp
      refine ⟨by simp; omega, h9.2.1, ?_⟩
      rcases hat8 with e | e
      · rw [e]; exact h9.2.2
      · rw [e]; intro h; cases h; omega⟩
    have HPK3 : Hid (∀ b, P b → (w7.setCell ⟨bb, 0, none⟩ (.slice p7 (ss.length + 1) c7)).heap[b]? = y.heap[b]?) := Lib.hid fun b hp => by
      have h9 := HPR.out b hp
      rw [heap_setCell_other w7 ⟨bb, 0, none⟩ b _ h9.2.1, hg7.block b (by omega) (fun e => h9.2.2 e), heap_alloc_old z _ (by omega), HPK2.out b hp]
    clear hg7 hat8 hat7 hown7 hgrow7 hts hbel7 hnb hF7 hF8 hFf X3 X4 HC0 H2 HFR2 HPK2 cb2
    refine at_worldQ (fun x => BB B P w0 x bb (ss ++ [(⟨u, tg, fr, rl⟩, q, f)]) (.slice p7 (ss.length + 1) c7) ∧ ∀ b, P b → x.heap[b]? = y.heap[b]?) ⟨H8.out, HPK3.out⟩ fun x hx => ?_
    have H9 := Lib.hid hx
    have cx : x.cell? ⟨bb, 0, none⟩ = some (.slice p7 (ss.length + 1) c7) := cell_of_row x bb 0 _ 64 (0, 0) hx.1.f
    clear hx H8 HPK3 e0 e1 e2 e3 e4 e5 e6 cb hbx
    go_wp2_with fail
    go_ret
    exact ⟨ret_i6 (by omega), ⟨_, H9.out.1⟩, H9.out.2⟩
end Go.Proofs.Ytnhfeakndofokaa
end
section
/- Package nfa. -/
namespace Go.Proofs.Ytnhfeakndofokaa
set_option linter.unusedSimpArgs false
set_option linter.unusedVariables false
set_option maxRecDepth 100000
open Go.RowKit
/- The document's Check. -/
set_option maxHeartbeats 16000000 in
theorem refcheck_any {D : Nat → Prop} {w : World} {st : Int} {ss : List Nst} {q : Option Addr} {c : Nat} (hD : ∀ b, D b → b < w.heap.size) (hSV : SV D w ss (.slice q ss.length c)) (hfl : ∀ s ∈ ss, s.fr.length ≤ 9223372036854775806) (hln : ss.length ≤ 9223372036854775806) :
    Calls Try.prog 12 #[nV st q ss.length c] w fun e w' => e = .returned (.int .i64 (chkN st ss)) ∧ Below w.heap.size w w' := by
  have HSV := Lib.hid hSV
  have HFL := Lib.hid hfl
  have HD := Lib.hid hD
  have hz := zero49
  have S0 := Lib.hid ((Sb.start w).alloc (.cells #[.int .i64 st, .slice q ss.length c] 24))
  clear hSV hfl hD
  obtain ⟨R, hR⟩ : ∃ R, chkN st ss = R := ⟨_, rfl⟩
  rw [hR]
  have HR := Lib.hid hR
  clear hR
  unfold nV
  by_cases hbig : 4096 < ss.length
  · have hb : (4096 : Int) < (ss.length : Int) := by omega
    have HRR : Hid ((3 : Int) = R) := Lib.hid (by rw [← HR.out]; unfold chkN tooM; simp [hbig])
    go_enter Try.func12, Try.ntmps12
    go_wp2_with fail
    go_ret
    exact ⟨ret_i6 HRR.out, S0.out.1⟩
  · have hb : ¬ (4096 : Int) < (ss.length : Int) := by omega
    have HT : Hid (tooM ss = decide (16384 < frees ss)) := Lib.hid (by unfold tooM; simp [hbig])
    go_enter Try.func12, Try.ntmps12
    go_wp2_with fail
    go_loopw [3, 4] (fun a i wr => ∃ j : Nat, i = .int .i64 (j : Nat) ∧ j ≤ ss.length ∧ frees (ss.take j) ≤ 16384 ∧ a = .int .i64 (frees (ss.take j) : Nat) ∧ Hid (Sb w wr [(w.heap.size, (.cells #[.int .i64 st, .slice q ss.length c] 24))])) (fun _ i _ => ss.length - (intOf i).toNat)
    case atStart => exact ⟨0, rfl, by omega, by simp [frees], by simp [frees], S0⟩
    case round =>
    clear S0
    obtain ⟨j, rfl, hj, hfr, rfl, HS⟩ := hrel
    obtain ⟨wo, rfl⟩ : ∃ wo : World, wo = wr := ⟨_, rfl⟩
    have cq : wo.cell? ⟨w.heap.size, 1, none⟩ = some (.slice q ss.length c) := HS.out.cell 1
    by_cases hlt : j < ss.length
    · skip
      obtain ⟨q', c', he, hSV⟩ := HSV.out
      cases he
      obtain ⟨bb, o, rfl, hDb, hx⟩ := hSV (by intro e; subst e; simp at hlt)
      obtain ⟨qf, f, hiv, hcell⟩ := hx j hlt
      have hbw := HD.out bb hDb
      have ce : ∀ i y, (stC (ss[j]).u (ss[j]).to (.slice qf (ss[j]).fr.length f) (ss[j]).rl)[i]? = some y → wo.cell? ⟨bb, o + j * 7 + i, none⟩ = some y := fun i y hy => (cell_same (HS.out.1.block bb hbw) _).trans (hcell i y hy)
      have hf1 := frees_take ss j hlt
      have hf2 := frees_take_le ss (j + 1)
      have hfl := HFL.out ss[j] (List.getElem_mem hlt)
      have d5 : wo.cell? ⟨bb, o + j * 7 + 5, none⟩ = some (.slice qf (ss[j]).fr.length f) := ce 5 _ rfl
      generalize (ss[j]).fr = fr at *
      generalize fr.length = frl at *
      generalize frees (ss.take j) = a at *
      have hltI : (j : Int) < (ss.length : Int) := by omega
      have hjI : ¬ (j : Int) < 0 := by omega
      have HA := Lib.hid hf1
      have HA2 := Lib.hid hf2
      clear hx hSV hcell hiv ce hf1 hf2
      by_cases hgt : a + frl ≤ 16384
      · have hg : ¬ ((16384 : Int) - (a : Nat)) < (frl : Int) := by omega
        go_wp2_with fail
        go_roundw
        case rel => exact ⟨j + 1, by go_num, by omega, by have := HA.out; omega, vint6 (by have := HA.out; omega), HS⟩
        case measure => simp [intOf]; omega
      · have hg : ((16384 : Int) - (a : Nat)) < (frl : Int) := by omega
        have HRR : Hid ((3 : Int) = R) := Lib.hid (by
          rw [← HR.out]; unfold chkN
          rw [HT.out, if_pos (by simp; have := HA.out; have := HA2.out; omega)])
        go_wp2_with fail
        go_ret
        exact ⟨ret_i6 HRR.out, HS.out.1⟩
    · obtain rfl : j = ss.length := by omega
      rw [List.take_length] at hfr
      have HCH : Hid ((if mayN st ss = true then (0 : Int) else 2) = R) := Lib.hid (by
        rw [← HR.out]; unfold chkN
        rw [HT.out, if_neg (show ¬ decide (16384 < frees ss) = true by simpa using hfr)])
      have hmd : mayN st ss = ((decide (0 ≤ st) && decide (st < (ss.length : Nat))) && ss.all (stOk ss.length)) := rfl
      have HMD := Lib.hid hmd
      have hltI : ¬ (ss.length : Int) < (ss.length : Int) := by omega
      have c0 : wo.cell? ⟨w.heap.size, 0, none⟩ = some (.int .i64 st) := HS.out.cell 0
      clear hmd HT HR
      by_cases hs0 : st < 0
      · have HRR : Hid ((2 : Int) = R) := Lib.hid (by rw [← HCH.out, HMD.out]; simp; omega)
        go_wp2_with fail
        go_ret
        exact ⟨ret_i6 HRR.out, HS.out.1⟩
      · by_cases hs1 : (ss.length : Int) ≤ st
        · have HRR : Hid ((2 : Int) = R) := Lib.hid (by rw [← HCH.out, HMD.out]; simp; omega)
          go_wp2_with fail
          go_ret
          exact ⟨ret_i6 HRR.out, HS.out.1⟩
        · have HAL0 : Hid ((if ss.all (stOk ss.length) = true then (0 : Int) else 2) = R) := Lib.hid (by
            rw [← HCH.out, HMD.out, show (decide (0 ≤ st) && decide (st < (ss.length : Nat))) = true by simp; omega, Bool.true_and])
          clear HCH HMD
          go_wp2_with fail
          go_loopw [5] (fun i wr => ∃ j : Nat, i = .int .i64 (j : Nat) ∧ j ≤ ss.length ∧ Hid ((ss.take j).all (stOk ss.length) = true) ∧ Hid (Sb w wr [(w.heap.size, (.cells #[.int .i64 st, .slice q ss.length c] 24))])) (fun i _ => ss.length - (intOf i).toNat)
          case atStart => exact ⟨0, rfl, by omega, Lib.hid (by simp), HS⟩
          case round =>
          clear HS cq c0
          obtain ⟨j, rfl, hj, HAL, HS⟩ := hrel
          obtain ⟨wo, rfl⟩ : ∃ wo : World, wo = wr := ⟨_, rfl⟩
          have cq : wo.cell? ⟨w.heap.size, 1, none⟩ = some (.slice q ss.length c) := HS.out.cell 1
          by_cases hlt : j < ss.length
          · skip
            obtain ⟨q', c', he, hSV⟩ := HSV.out
            cases he
            obtain ⟨bb, o, rfl, hDb, hx⟩ := hSV (by intro e; subst e; simp at hlt)
            obtain ⟨qf, f, hiv, hcell⟩ := hx j hlt
            have hbw := HD.out bb hDb
            have ce : ∀ i y, (stC (ss[j]).u (ss[j]).to (.slice qf (ss[j]).fr.length f) (ss[j]).rl)[i]? = some y → wo.cell? ⟨bb, o + j * 7 + i, none⟩ = some y := fun i y hy => (cell_same (HS.out.1.block bb hbw) _).trans (hcell i y hy)
            have hfl := HFL.out ss[j] (List.getElem_mem hlt)
            have hal := all_take (stOk ss.length) ss j hlt
            have hst : stOk ss.length ss[j] = (decide ((ss[j]).to < (ss.length : Nat)) && (decide ((ss[j]).rl < 48) && (ss[j]).fr.all fun x => decide (0 ≤ x) && decide (x < (ss.length : Nat)))) := rfl
            have HNO := Lib.hid fun h => all_no (p := stOk ss.length) (l := ss) hlt h
            rw [HAL.out, Bool.true_and] at hal
            obtain ⟨tg, htg⟩ : ∃ tg, (ss[j]).to = tg := ⟨_, rfl⟩
            obtain ⟨u, huu⟩ : ∃ u, (ss[j]).u = u := ⟨_, rfl⟩
            obtain ⟨rl, hrl⟩ : ∃ rl, (ss[j]).rl = rl := ⟨_, rfl⟩
            rw [htg, hrl] at hst
            rw [htg, huu, hrl] at ce
            generalize hsx : stOk ss.length ss[j] = sok at *
            clear hsx
            generalize (ss[j]).fr = fr at *
            obtain ⟨frl, hfrl⟩ : ∃ frl, fr.length = frl := ⟨_, rfl⟩
            rw [hfrl] at ce hiv hfl
            have HFRL := Lib.hid hfrl
            have HIV : Hid (IV D w fr (.slice qf frl f)) := Lib.hid hiv
            have d0 : wo.cell? ⟨bb, o + j * 7, none⟩ = some (.int .u64 (u 0)) := ce 0 _ rfl
            have d1 : wo.cell? ⟨bb, o + j * 7 + 1, none⟩ = some (.int .u64 (u 1)) := ce 1 _ rfl
            have d2 : wo.cell? ⟨bb, o + j * 7 + 2, none⟩ = some (.int .u64 (u 2)) := ce 2 _ rfl
            have d3 : wo.cell? ⟨bb, o + j * 7 + 3, none⟩ = some (.int .u64 (u 3)) := ce 3 _ rfl
            have d4 : wo.cell? ⟨bb, o + j * 7 + 4, none⟩ = some (.int .i64 tg) := ce 4 _ rfl
            have d5 : wo.cell? ⟨bb, o + j * 7 + 5, none⟩ = some (.slice qf frl f) := ce 5 _ rfl
            have d6 : wo.cell? ⟨bb, o + j * 7 + 6, none⟩ = some (.int .i64 rl) := ce 6 _ rfl
            have hltI : (j : Int) < (ss.length : Int) := by omega
            have hjI : ¬ (j : Int) < 0 := by omega
            have HAL2 := Lib.hid hal
            have HST := Lib.hid hst
            have HS2 := Lib.hid (HS.out.alloc (.cells #[.int .u64 (u 0), .int .u64 (u 1), .int .u64 (u 2), .int .u64 (u 3), .int .i64 tg, .slice qf frl f, .int .i64 rl] 49))
            have cq2 : (wo.alloc (.cells #[.int .u64 (u 0), .int .u64 (u 1), .int .u64 (u 2), .int .u64 (u 3), .int .i64 tg, .slice qf frl f, .int .i64 rl] 49)).cell? ⟨w.heap.size, 1, none⟩ = some (.slice (some ⟨bb, o, none⟩) ss.length c) := HS2.out.tl.cell 1
            clear hx hSV hcell hiv ce htg huu hrl hal hst hfrl HS HAL
            by_cases hto : tg < (ss.length : Int)
            · have hto' : ¬ (ss.length : Int) ≤ tg := by omega
              by_cases hrl : rl < 48
              · have hrl' : ¬ (48 : Int) ≤ rl := by omega
                go_upto_region 19 with fail
                refine at_world (fun z => Sb w z [(wo.heap.size, (.cells #[.int .u64 (u 0), .int .u64 (u 1), .int .u64 (u 2), .int .u64 (u 3), .int .i64 tg, .slice qf frl f, .int .i64 rl] 49)), (w.heap.size, (.cells #[.int .i64 st, .slice (some ⟨bb, o, none⟩) ss.length c] 24))]) HS2.out fun z hz9 => ?_
                have HS3 := Lib.hid hz9
                clear hz9 HS2 d0 d1 d2 d3 d4 d5 d6 cq2 cq
                go_loopw [7] (fun i wr => ∃ k : Nat, i = .int .i64 (k : Nat) ∧ k ≤ frl ∧ Hid ((fr.take k).all (fun x => decide (0 ≤ x) && decide (x < (ss.length : Nat))) = true) ∧ Hid (Sb w wr [(wo.heap.size, (.cells #[.int .u64 (u 0), .int .u64 (u 1), .int .u64 (u 2), .int .u64 (u 3), .int .i64 tg, .slice qf frl f, .int .i64 rl] 49)), (w.heap.size, (.cells #[.int .i64 st, .slice (some ⟨bb, o, none⟩) ss.length c] 24))])) (fun i _ => frl - (intOf i).toNat)
                case atStart => exact ⟨0, rfl, by omega, Lib.hid (by simp), HS3⟩
                case round =>
                clear HS3
                obtain ⟨k, rfl, hk, HK, HS⟩ := hrel
                obtain ⟨wk, rfl⟩ : ∃ wk : World, wk = wr := ⟨_, rfl⟩
                have e5 : wk.cell? ⟨wo.heap.size, 5, none⟩ = some (.slice qf frl f) := HS.out.cell 5
                by_cases hkl : k < frl
                · have hkl' : k < fr.length := by rw [HFRL.out]; exact hkl
                  obtain ⟨p', c', he, hh⟩ := HIV.out
                  injection he with e1 e2 e3
                  subst e1 e3
                  clear e2
                  obtain ⟨bf, of, rfl, hbf, hcf⟩ := hh (by intro e; rw [e] at hkl'; simp at hkl')
                  have hbw2 := HD.out bf hbf
                  have hak := all_take (fun x => decide (0 ≤ x) && decide (x < ((ss.length : Nat) : Int))) fr k hkl'
                  rw [HK.out, Bool.true_and] at hak
                  have cx : wk.cell? ⟨bf, of + k, none⟩ = some (.int .i64 fr[k]) := (cell_same (HS.out.1.block bf hbw2) _).trans (hcf k hkl')
                  have cb1 : wk.cell? ⟨w.heap.size, 1, none⟩ = some (.slice (some ⟨bb, o, none⟩) ss.length c) := HS.out.tl.cell 1
                  have hnok := fun h => all_no (p := fun x => decide (0 ≤ x) && decide (x < ((ss.length : Nat) : Int))) (l := fr) hkl' h
                  generalize fr[k] = x at *
                  have HAK := Lib.hid hak
                  have HNOK := Lib.hid hnok
                  have hkI : ¬ (k : Int) < 0 := by omega
                  have hklI : (k : Int) < (frl : Int) := by omega
                  clear hh hcf hak hnok
                  by_cases hx0 : x < 0
                  · have HRES : Hid ((2 : Int) = R) := Lib.hid (by rw [← HAL0.out, HNO.out (by rw [HST.out, HNOK.out (by simp; omega)]; simp)]; rfl)
                    go_wp2_with fail
                    go_quiet (fail)
                    refine at_worldQ (fun z => Below w.heap.size w z) (below_drewN HS.out.1 _) fun z hz9 => ?_
                    have HZ := Lib.hid hz9
                    clear hz9
                    go_wp2_with fail
                    go_ret
                    exact ⟨ret_i6 HRES.out, HZ.out⟩
                  · by_cases hx1 : (ss.length : Int) ≤ x
                    · have HRES : Hid ((2 : Int) = R) := Lib.hid (by rw [← HAL0.out, HNO.out (by rw [HST.out, HNOK.out (by simp; omega)]; simp)]; rfl)
                      go_wp2_with fail
                      go_quiet (fail)
                      refine at_worldQ (fun z => Below w.heap.size w z) (below_drewN HS.out.1 _) fun z hz9 => ?_
                      have HZ := Lib.hid hz9
                      clear hz9
                      go_wp2_with fail
                      go_ret
                      exact ⟨ret_i6 HRES.out, HZ.out⟩
                    · have HAK2 : Hid ((fr.take (k + 1)).all (fun x => decide (0 ≤ x) && decide (x < (ss.length : Nat))) = true) := Lib.hid (by rw [HAK.out]; simp; omega)
                      have hx0' : ¬ x < 0 := hx0
                      go_wp2_with fail
                      go_quiet (fail)
                      refine at_worldQ (fun z => Sb w z [(wo.heap.size, (.cells #[.int .u64 (u 0), .int .u64 (u 1), .int .u64 (u 2), .int .u64 (u 3), .int .i64 tg, .slice (some ⟨bf, of, none⟩) frl f, .int .i64 rl] 49)), (w.heap.size, (.cells #[.int .i64 st, .slice (some ⟨bb, o, none⟩) ss.length c] 24))]) (HS.out.drewN _) fun z hz9 => ?_
                      have HZ := Lib.hid hz9
                      clear hz9 HS
                      go_wp2_with fail
                      go_roundw
                      case rel => exact ⟨k + 1, by go_num, by omega, HAK2, HZ⟩
                      case measure => simp [intOf]; omega
                · obtain rfl : k = frl := by omega
                  have hall : fr.all (fun x => decide (0 ≤ x) && decide (x < ((ss.length : Nat) : Int))) = true := by
                    have := HK.out
                    rwa [← HFRL.out, List.take_length] at this
                  have hsok : sok = true := by rw [HST.out, hall]; simp [hto, hrl]
                  have HAL3 : Hid ((ss.take (j + 1)).all (stOk ss.length) = true) := Lib.hid (by rw [HAL2.out, hsok])
                  have hklI : ¬ (k : Int) < (k : Int) := by omega
                  have HS4 := Lib.hid HS.out.tl
                  clear hall hsok HK HAL2 HST HNO
                  go_wp2_with fail
                  go_roundw
                  case rel => exact ⟨j + 1, by go_num, by omega, HAL3, HS4⟩
                  case measure => simp [intOf]; omega
              · have hrl' : (48 : Int) ≤ rl := by omega
                have HRES : Hid ((2 : Int) = R) := Lib.hid (by rw [← HAL0.out, HNO.out (by rw [HST.out]; simp [hrl])]; rfl)
                go_wp2_with fail
                go_ret
                exact ⟨ret_i6 HRES.out, HS2.out.1⟩
            · have hto' : (ss.length : Int) ≤ tg := by omega
              have HRES : Hid ((2 : Int) = R) := Lib.hid (by rw [← HAL0.out, HNO.out (by rw [HST.out]; simp [hto])]; rfl)
              go_wp2_with fail
              go_ret
              exact ⟨ret_i6 HRES.out, HS2.out.1⟩
          · obtain rfl : j = ss.length := by omega
            have hall := HAL.out
            rw [List.take_length] at hall
            have HRR : Hid ((0 : Int) = R) := Lib.hid (by rw [← HAL0.out, if_pos hall])
            have hltI : ¬ (ss.length : Int) < (ss.length : Int) := by omega
            clear hall HAL
            go_wp2_with fail
            go_ret
            exact ⟨ret_i6 HRR.out, HS.out.1⟩
end Go.Proofs.Ytnhfeakndofokaa
end
