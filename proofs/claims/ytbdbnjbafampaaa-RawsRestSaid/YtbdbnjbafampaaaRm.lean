/- Package raws. -/
import Derived.Test.YtbdbnjbafampaaaProg
import Derived.Test.YtbdbnjbafampaaaRl
import Derived.Test.YtbdbnjbafampaaaRh
import Derived.WalkKit
import Derived.BigFrame
import Derived.WalkMore
import Derived.ScopeJumps
import Derived.StillTailTactics
import Derived.Stop.BytesEq
import Derived.WalkLawsBesides
import Derived.WalkSpells
import Derived.Outline
import Derived.Lib.Walk
import Derived.Lib.Hide
import Derived.Lib.Slices
import Derived.Lib.Strings
import Derived.RegionTactic
import Derived.LoopTactic
import Derived.Below
import Derived.IntWalk
import Derived.Deep.QuietTactic
import Derived.BigQuiet
import Derived.Deep.MidRow
import Derived.Maps.AppendAt
import Derived.Laws.Rows
import Derived.Laws.Tables
import Derived.Deep.WholeRow
import Derived.Deep.Cut
import Derived.Deep.CutRange
import Derived.Lib.SliceRun
import Derived.Laws.MakeOwn
import Derived.Deep.RegionLaw
import Derived.Deep.RegionLawGrows
import Derived.Deep.RegionHeld3
import Derived.RegionCalls
import Derived.Deep.RegionWith
import Derived.Deep.Light
import Derived.Laws.CopyOwn
import Derived.Laws.ResultCell
namespace Go.Proofs.Ytbdbnjbafampaaa
set_option linter.unusedSimpArgs false
set_option linter.unusedVariables false
set_option maxRecDepth 100000
open Go.RowKit
/- alive. -/
theorem raw1 : rawsF aD aKs 2 ⟨#[97, 97, 98, 99]⟩ = ([(70, 2, 3), (80, 1, 1), (23, 1, 1)], 0) := by kernel_rfl
theorem raw2 : rawsF aD aKs 1 ⟨#[97, 97, 98]⟩ = ([], 2) := by kernel_rfl
theorem KV.less {w : World} {ks : Nat → Int} {n m : Nat} {q : Option Addr} (h : KV w ks n q) (hm : m ≤ n) : KV w ks m q := fun i hi => h i (by omega)
theorem RwO.below {B : Nat} {w w' : World} {l : List (Int × Nat × Nat)} {sl : Value} (h : RwO B w l sl) (hb : Below w.heap.size w w') : RwO B w' l sl := h.up hb
set_option maxHeartbeats 8000000 in
theorem alive10_any (w : World) : Calls Try.prog 38 #[] w fun e w' => e = .returned (.bool true) ∧ Below w.heap.size w w' := by
  have hz26 := (zero_of_info info26r).1
  have S0 := Lib.hid (Sb.start w)
  go_enter Try.func38, Try.ntmps38
  go_wp2_with fail
  refine (ab_any w).mono ?_
  rintro _ w1 ⟨ds, p, q, g, rfl, hd, hm, hk, hb⟩
  have S1 := Lib.hid (S0.out.up hb)
  have HD := Lib.hid hd
  have HM := Lib.hid hm
  have HK := Lib.hid hk
  have HSZ := Lib.hid hd.sz
  have HS2 := Lib.hid ((S1.out.alloc (.cells zero26 26)).setRow (cs' := ds) (by simp))
  have HHE : Hid ((w1.alloc (.cells zero26 26)).heap[w1.heap.size]? = some (.cells zero26 26 (0, 0))) := Lib.hid (heap_alloc_last w1 _)
  have HUP : Hid (Below w1.heap.size w1 ((w1.alloc (.cells zero26 26)).setRow w1.heap.size ds)) := Lib.hid (below_row ((Below.refl _ _).alloc (Nat.le_refl _) _) (Nat.le_refl _) ds)
  clear hd hm hk hb S0
  go_upto_region 2 with (refine wpList_store_row rfl 26 (.tmp 2) (.tmp 10) rfl w1.heap.size ds rfl rfl 26 zero26 HHE.out (by rw [info26, HSZ.out]) (by rw [zero26_size, HSZ.out]) (Array.all_eq_true_iff_forall_mem.2 HD.out.one) ?_)
  obtain ⟨b1, hb1⟩ : ∃ b1, w1.heap.size = b1 := ⟨_, rfl⟩
  rw [hb1] at HS2 ⊢
  rw [hb1] at HUP
  have HM1 : Hid (∀ y, Below b1 w1 y → DM (fun b => b < b1) y aD p q 3 3 ∧ KV y aKs 2 (some ⟨g, 0, none⟩)) := Lib.hid fun y hy => by
    subst hb1
    exact ⟨HM.out.up hy, HK.out.up hy⟩
  refine at_world (fun z => Sb w z [(b1, .cells ds 26)] ∧ Below b1 w1 z) ⟨HS2.out, HUP.out⟩ fun z hz => ?_
  have S2 := Lib.hid hz.1
  have HB2 := Lib.hid hz.2
  have HBX : Hid (BX z b1 ds) := Lib.hid hz.1.heap
  have HC := Lib.hid (rawsof_any (fr := 2) ⟨#[97, 97, 98, 99]⟩ HD.out (HM1.out z hz.2).1 (HM1.out z hz.2).2 (by decide) (by decide))
  rw [raw1] at HC
  clear hz S1 HS2 HHE HUP hb1
  go_wp2_with (refine wpList_load_Dg _ rfl b1 ds rfl HBX.out HSZ.out rfl ?_)
  refine HC.out.mono ?_
  rintro _ w3 ⟨sl, rfl, hro, hb⟩
  have S3 := Lib.hid (S2.out.up hb)
  have HB3 : Hid (Below b1 w1 w3) := Lib.hid (HB2.out.trans (hb.mono (by have := S2.out.lt; omega)))
  have HRO := Lib.hid hro
  clear hb HC HBX hro HB2
  go_upto_region 3 with fail
  refine wp_region_held_drew (S := fun v => Sb w v [(b1, .cells ds 26)] ∧ Below b1 w1 v ∧ RwO z.heap.size v [(70, 2, 3), (80, 1, 1), (23, 1, 1)] sl) (by kernel_rfl) ⟨S3.out.drew, HB3.out.drew, HRO.out.up (Below.refl _ _).drew⟩ (fun hHeld => ?_)
  have HH := Lib.hid hHeld
  refine wpAnyH_take (i := 0) (v := (.slice (some ⟨g, 0, none⟩) 2 2)) rfl (by kernel_rfl) (by kernel_rfl) (by kernel_rfl) (fun _ _ _ h => h) (Or.inl ⟨by rfl, by (intro w hSw; (try dsimp only at hSw); go_simp)⟩) hHeld ?_
  (try simp only [Act.put, List.getElem_toArray, List.getElem_cons_zero, List.getElem_cons_succ, List.setIfInBounds_toArray, List.set_cons_zero, List.set_cons_succ])
  refine wpAnyH_take (i := 1) (v := (.slice (some ⟨g, 0, none⟩) 1 2)) rfl (by kernel_rfl) (by kernel_rfl) (by kernel_rfl) (fun _ _ _ h => h) (Or.inl ⟨by rfl, by (intro w hSw; (try dsimp only at hSw); go_simp)⟩) hHeld ?_
  (try simp only [Act.put, List.getElem_toArray, List.getElem_cons_zero, List.getElem_cons_succ, List.setIfInBounds_toArray, List.set_cons_zero, List.set_cons_succ])
  refine wpAnyH_take (i := 2) (v := .agg ds) rfl (by kernel_rfl) (by kernel_rfl) (by kernel_rfl) (fun _ _ _ h => h) (yieldsIf_load_D (by rfl) (.tmp 2) rfl b1 rfl (fun v hv => hv.1.heap) HSZ.out) hHeld ?_
  (try simp only [Act.put, List.getElem_toArray, List.getElem_cons_zero, List.getElem_cons_succ, List.setIfInBounds_toArray, List.set_cons_zero, List.set_cons_succ])
  refine wpAnyH_ready (rs := [3]) (by kernel_rfl) (by simp) ?_
  refine AllReadyH.cons rfl (fun K hK => ?_) (AllReadyH.nil)
  rw [if_pos (by rfl)]
  go_wp2_with fail
  have HC := Lib.hid (rawsof_any (n := 1) (fr := 2) ⟨#[97, 97, 98]⟩ HD.out (HM1.out _ HH.out.2.1).1 ((HM1.out _ HH.out.2.1).2.less (by decide)) (by decide) (by decide))
  rw [raw2] at HC
  refine HC.out.mono ?_
  rintro _ w4 ⟨sl2, rfl, hro2, hb⟩
  obtain ⟨p2, c2, hsl2⟩ := row_form hro2
  subst hsl2
  have S4 : Hid (Sb w w4 [(b1, .cells ds 26)]) := Lib.hid (HH.out.1.up hb)
  have HB4 : Hid (Below b1 w1 w4) := Lib.hid (HH.out.2.1.trans (hb.mono (by have := HH.out.1.lt; omega)))
  have HRO4 : Hid (RwO z.heap.size w4 [(70, 2, 3), (80, 1, 1), (23, 1, 1)] sl) := Lib.hid (HH.out.2.2.up hb)
  clear hro2 HC HRO S3 HB3
  refine hK.out _ _ ⟨S4.out, HB4.out, HRO4.out⟩ (fun hHeld2 => ?_)
  clear hHeld hK hb HH
  have hHeld := hHeld2
  clear hHeld2
  (try simp only [Act.put, List.getElem_toArray, List.getElem_cons_zero, List.getElem_cons_succ, List.setIfInBounds_toArray, List.set_cons_zero, List.set_cons_succ])
  refine wpAnyH_take (i := 4) (v := (.tuple #[.slice p2 0 c2, .int .i64 2])) rfl (by kernel_rfl) (by kernel_rfl) (by kernel_rfl) (fun _ _ _ h => h) (Or.inl ⟨by rfl, by (intro w hSw; (try dsimp only at hSw); go_simp)⟩) hHeld ?_
  (try simp only [Act.put, List.getElem_toArray, List.getElem_cons_zero, List.getElem_cons_succ, List.setIfInBounds_toArray, List.set_cons_zero, List.set_cons_succ])
  refine wpAnyH_take (i := 5) (v := (.slice p2 0 c2)) rfl (by kernel_rfl) (by kernel_rfl) (by kernel_rfl) (fun _ _ _ h => h) (Or.inl ⟨by rfl, by (intro w hSw; (try dsimp only at hSw); go_simp)⟩) hHeld ?_
  (try simp only [Act.put, List.getElem_toArray, List.getElem_cons_zero, List.getElem_cons_succ, List.setIfInBounds_toArray, List.set_cons_zero, List.set_cons_succ])
  refine wpAnyH_take (i := 6) (v := (.int .i64 2)) rfl (by kernel_rfl) (by kernel_rfl) (by kernel_rfl) (fun _ _ _ h => h) (Or.inl ⟨by rfl, by (intro w hSw; (try dsimp only at hSw); go_simp)⟩) hHeld ?_
  (try simp only [Act.put, List.getElem_toArray, List.getElem_cons_zero, List.getElem_cons_succ, List.setIfInBounds_toArray, List.set_cons_zero, List.set_cons_succ])
  refine wpAnyH_take (i := 7) (v := (.slice p2 0 c2)) rfl (by kernel_rfl) (by kernel_rfl) (by kernel_rfl) (fun _ _ _ h => h) (Or.inl ⟨by rfl, by (intro w hSw; (try dsimp only at hSw); go_simp)⟩) hHeld ?_
  (try simp only [Act.put, List.getElem_toArray, List.getElem_cons_zero, List.getElem_cons_succ, List.setIfInBounds_toArray, List.set_cons_zero, List.set_cons_succ])
  refine wpAnyH_take (i := 8) (v := (.int .i64 2)) rfl (by kernel_rfl) (by kernel_rfl) (by kernel_rfl) (fun _ _ _ h => h) (Or.inl ⟨by rfl, by (intro w hSw; (try dsimp only at hSw); go_simp)⟩) hHeld ?_
  (try simp only [Act.put, List.getElem_toArray, List.getElem_cons_zero, List.getElem_cons_succ, List.setIfInBounds_toArray, List.set_cons_zero, List.set_cons_succ])
  refine wpAnyH_done (by kernel_rfl) ?_ _
  have hxv := HRO4.out.xv
  obtain ⟨p5, c5, rfl⟩ := row_form HRO4.out
  have S5 := Lib.hid (S4.out.alloc (.cells #[.int .i64 70, .int .i64 2, .int .i64 3, .int .i64 80, .int .i64 1, .int .i64 1, .int .i64 23, .int .i64 1, .int .i64 1] 60))
  have HXV := Lib.hid (hxv.up (fun b hb => hb.2.1) ((Below.refl _ _).alloc (Nat.le_refl _) (.cells #[.int .i64 70, .int .i64 2, .int .i64 3, .int .i64 80, .int .i64 1, .int .i64 1, .int .i64 23, .int .i64 1, .int .i64 1] 60)))
  have HX2 : Hid (XV (fun b => b = w4.heap.size) (w4.alloc (.cells #[.int .i64 70, .int .i64 2, .int .i64 3, .int .i64 80, .int .i64 1, .int .i64 1, .int .i64 23, .int .i64 1, .int .i64 1] 60)) [(70, 2, 3), (80, 1, 1), (23, 1, 1)] (.slice (some ⟨w4.heap.size, 0, none⟩) 3 3)) := Lib.hid ⟨_, _, rfl, fun _ => ⟨w4.heap.size, 0, rfl, rfl, fun i hi => by
    have hi3 : i < 3 := hi
    rcases (by omega : i = 0 ∨ i = 1 ∨ i = 2) with rfl | rfl | rfl
    · exact ⟨S5.out.cell 0, S5.out.cell 1, S5.out.cell 2⟩
    · exact ⟨S5.out.cell 3, S5.out.cell 4, S5.out.cell 5⟩
    · exact ⟨S5.out.cell 6, S5.out.cell 7, S5.out.cell 8⟩⟩⟩
  have HSM := Lib.hid (sameraws_any (fun b hb => by have := hb.2.1; simp; omega) (fun b hb => by simp; omega) HXV.out HX2.out (by decide))
  rw [show sameR [(70, 2, 3), (80, 1, 1), (23, 1, 1)] [(70, 2, 3), (80, 1, 1), (23, 1, 1)] = true from decide_eq_true rfl] at HSM
  clear hxv HXV HX2 S4 HB4 HRO4
  go_wp2_with fail
  refine HSM.out.mono ?_
  rintro _ w5 ⟨rfl, hb⟩
  have S6 := Lib.hid (S5.out.up hb)
  clear hb S5 HSM
  go_wp2_with fail
  go_ret
  exact ⟨rfl, S6.out.1⟩
end Go.Proofs.Ytbdbnjbafampaaa
