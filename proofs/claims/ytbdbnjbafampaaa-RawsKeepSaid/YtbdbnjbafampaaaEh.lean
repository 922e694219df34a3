/- Packages dfa, mini, munch. -/
import Derived.Test.YtbdbnjbafampaaaProg
import Derived.Test.YtbdbnjbafampaaaEg
import Derived.WalkKit
import Derived.BigFrame
import Derived.WalkMore
import Derived.ScopeJumps
import Derived.StillTailTactics
import Derived.Stop.BytesEq
import Derived.WalkLawsBesides
import Derived.WalkSpells
import Derived.Outline
import Derived.Lib.Walk
import Derived.Lib.Hide
import Derived.Lib.Slices
import Derived.Lib.Strings
import Derived.RegionTactic
import Derived.LoopTactic
import Derived.Below
import Derived.IntWalk
import Derived.Deep.QuietTactic
import Derived.BigQuiet
import Derived.Deep.MidRow
import Derived.Maps.AppendAt
import Derived.Laws.Rows
import Derived.Laws.Tables
import Derived.Deep.WholeRow
import Derived.Deep.Cut
import Derived.Deep.CutRange
import Derived.Lib.SliceRun
import Derived.Laws.MakeOwn
import Derived.Deep.RegionLaw
import Derived.Deep.RegionLawGrows
import Derived.Deep.RegionHeld3
import Derived.RegionCalls
import Derived.Deep.RegionWith
import Derived.Deep.Light
import Derived.Laws.CopyOwn
import Derived.Laws.ResultCell
namespace Go.Proofs.Ytbdbnjbafampaaa
set_option linter.unusedSimpArgs false
set_option linter.unusedVariables false
set_option maxRecDepth 100000
open Go.RowKit
/- The document's Of. -/
set_option maxHeartbeats 4000000 in
theorem refof_any {D : Nat → Prop} {w : World} {d : Df} {ds : Array Value} {p q : Option Addr} {c f : Nat} (t : ByteArray) (hd : DC d ds p q c f) (hm : DM D w d p q c f) (hmay : MayD d) (ht : t.size ≤ 9223372036854775805) :
    Calls Try.prog 89 #[.agg ds, .string t] w fun e w' => e = .returned (munV (ofF d (bl t))) ∧ Below w.heap.size w w' := by
  have hs0 := ((Sb.start w).alloc (.cells ds 26)).alloc (.cells #[.int .i64 0, .int .i64 0, .int .i64 0] 48)
  have hs1 : (w.alloc (.cells ds 26)).heap.size = w.heap.size + 1 := by simp
  rw [hs1] at hs0
  have S0 := Lib.hid hs0
  have hz48 := zero48
  have HSZ := Lib.hid hd.sz
  have HD := Lib.hid hd
  have HM := Lib.hid hm
  have HMAY := Lib.hid hmay
  have HB0 : Hid (BX ((w.alloc (.cells ds 26)).alloc (.cells #[.int .i64 0, .int .i64 0, .int .i64 0] 48)) w.heap.size ds) := Lib.hid hs0.tl.heap
  have HLK := Lib.hid (reflook_any t hd (hm.up hs0.1) hmay ht)
  obtain ⟨LK, hK⟩ : ∃ LK, lookF d (bl t) = LK := ⟨_, rfl⟩
  rw [hK] at HLK
  obtain ⟨M, hM⟩ : ∃ M, min LK t.size = M := ⟨_, rfl⟩
  have hMle : M ≤ t.size := by omega
  have HLO : Hid (∀ z, Below w.heap.size w z → Calls Try.prog 101 #[.agg ds, .string (t.extract 0 M)] z fun e w' => e = .returned (.tuple #[.int .i64 (longR d ((bl t).take M) M).1, .int .i64 ((longR d ((bl t).take M) M).2 : Nat)]) ∧ Below z.heap.size z w') := Lib.hid fun z hz => by
    have h := reflong_any (w := z) (t.extract 0 M) HD.out (HM.out.up hz) HMAY.out (by simp; omega)
    have e : (t.extract 0 M).size = M := by simp; omega
    rw [bl_take, e] at h
    exact h
  have HR : Hid (ofF d (bl t) = ((longR d ((bl t).take M) M).1, (longR d ((bl t).take M) M).2, LK)) := Lib.hid (by unfold ofF; rw [hK, bl_len, hM])
  obtain ⟨⟨R1, R2⟩, hL⟩ : ∃ R, longR d ((bl t).take M) M = R := ⟨_, rfl⟩
  rw [hL] at HLO HR
  rw [HR.out]
  simp only [] at HLO ⊢
  have hmin : (if (LK : Int) ≤ (t.size : Int) then (LK : Int) else (t.size : Int)) = (M : Int) := by split <;> omega
  have hmin2 : min (LK : Int) (t.size : Int) = (M : Int) := by omega
  have hM0 : (0 : Int) ≤ (M : Int) := by omega
  have hM1 : (M : Int) ≤ (t.size : Int) := by omega
  clear hd hm hmay hs0 hs1 hK hL HR hM
  go_enter Try.func89, Try.ntmps89
  go_wp2_with (refine wpList_load_Dg _ rfl w.heap.size ds rfl HB0.out HSZ.out rfl ?_)
  refine HLK.out.mono ?_
  rintro _ w1 ⟨rfl, hb1⟩
  have S1 := Lib.hid (S0.out.up hb1)
  clear hb1 S0 HB0 HLK
  go_wp2_with fail
  have hs1 := S1.out.drew
  have HS1 := Lib.hid hs1
  refine wp_region_held_drew (S := fun v => Sb w v [(w.heap.size, .cells ds 26)]) (by kernel_rfl) hs1.tl (fun hHeld => ?_)
  clear hs1
  refine wpAnyH_take (i := 0) (v := .agg ds) rfl (by kernel_rfl) (by kernel_rfl) (by kernel_rfl) (fun _ _ _ h => h) (yieldsIf_load_D (by rfl) (.tmp 2) rfl w.heap.size rfl (fun v hv => hv.heap) HSZ.out) hHeld ?_
  (try simp only [Act.put, List.getElem_toArray, List.getElem_cons_zero, List.getElem_cons_succ, List.setIfInBounds_toArray, List.set_cons_zero, List.set_cons_succ])
  refine wpAnyH_take (i := 1) (v := .string t) rfl (by kernel_rfl) (by kernel_rfl) (by kernel_rfl) (fun _ _ _ h => h) (Or.inl ⟨by rfl, by (intro w hSw; (try dsimp only at hSw); go_simp)⟩) hHeld ?_
  (try simp only [Act.put, List.getElem_toArray, List.getElem_cons_zero, List.getElem_cons_succ, List.setIfInBounds_toArray, List.set_cons_zero, List.set_cons_succ])
  refine wpAnyH_take (i := 2) (v := .int .i64 (LK : Nat)) rfl (by kernel_rfl) (by kernel_rfl) (by kernel_rfl) (fun _ _ _ h => h) (Or.inl ⟨by rfl, by (intro w hSw; (try dsimp only at hSw); go_simp)⟩) hHeld ?_
  (try simp only [Act.put, List.getElem_toArray, List.getElem_cons_zero, List.getElem_cons_succ, List.setIfInBounds_toArray, List.set_cons_zero, List.set_cons_succ])
  refine wpAnyH_take (i := 3) (v := .string t) rfl (by kernel_rfl) (by kernel_rfl) (by kernel_rfl) (fun _ _ _ h => h) (Or.inl ⟨by rfl, by (intro w hSw; (try dsimp only at hSw); go_simp)⟩) hHeld ?_
  (try simp only [Act.put, List.getElem_toArray, List.getElem_cons_zero, List.getElem_cons_succ, List.setIfInBounds_toArray, List.set_cons_zero, List.set_cons_succ])
  refine wpAnyH_take (i := 4) (v := .int .i64 (t.size : Nat)) rfl (by kernel_rfl) (by kernel_rfl) (by kernel_rfl) (fun _ _ _ h => h) (Or.inl ⟨by rfl, by (intro w hSw; (try dsimp only at hSw); go_simp)⟩) hHeld ?_
  (try simp only [Act.put, List.getElem_toArray, List.getElem_cons_zero, List.getElem_cons_succ, List.setIfInBounds_toArray, List.set_cons_zero, List.set_cons_succ])
  refine wpAnyH_take (i := 5) (v := .int .i64 (M : Nat)) rfl (by kernel_rfl) (by kernel_rfl) (by kernel_rfl) (fun _ _ _ h => h) (Or.inl ⟨by rfl, by (intro v hv; (try dsimp only at hv); clear hv; go_simp; (try rw [hmin2]); (try rw [hmin]))⟩) hHeld ?_
  (try simp only [Act.put, List.getElem_toArray, List.getElem_cons_zero, List.getElem_cons_succ, List.setIfInBounds_toArray, List.set_cons_zero, List.set_cons_succ])
  refine wpAnyH_take (i := 6) (v := .string (t.extract 0 M)) rfl (by kernel_rfl) (by kernel_rfl) (by kernel_rfl) (fun _ _ _ h => h) (Or.inl ⟨by rfl, by (intro w hSw; (try dsimp only at hSw); go_simp)⟩) hHeld ?_
  (try simp only [Act.put, List.getElem_toArray, List.getElem_cons_zero, List.getElem_cons_succ, List.setIfInBounds_toArray, List.set_cons_zero, List.set_cons_succ])
  refine wpAnyH_ready (rs := [7]) (by kernel_rfl) (by simp) ?_
  refine AllReadyH.cons rfl (fun K hK => ?_) (AllReadyH.nil)
  rw [if_pos (by rfl)]
  go_wp2_with fail
  refine (HLO.out _ HS1.out.1).mono ?_
  rintro _ w2 ⟨rfl, hb⟩
  refine hK.out _ _ ((HS1.out.up hb).tl) (fun hHeld2 => ?_)
  clear hHeld hK
  have hHeld := hHeld2
  clear hHeld2
  (try simp only [Act.put, List.getElem_toArray, List.getElem_cons_zero, List.getElem_cons_succ, List.setIfInBounds_toArray, List.set_cons_zero, List.set_cons_succ])
  refine wpAnyH_take (i := 8) (v := .tuple #[.int .i64 R1, .int .i64 (R2 : Nat)]) rfl (by kernel_rfl) (by kernel_rfl) (by kernel_rfl) (fun _ _ _ h => h) (Or.inl ⟨by rfl, by (intro w hSw; (try dsimp only at hSw); go_simp)⟩) hHeld ?_
  (try simp only [Act.put, List.getElem_toArray, List.getElem_cons_zero, List.getElem_cons_succ, List.setIfInBounds_toArray, List.set_cons_zero, List.set_cons_succ])
  refine wpAnyH_take (i := 9) (v := .int .i64 R1) rfl (by kernel_rfl) (by kernel_rfl) (by kernel_rfl) (fun _ _ _ h => h) (Or.inl ⟨by rfl, by (intro w hSw; (try dsimp only at hSw); go_simp)⟩) hHeld ?_
  (try simp only [Act.put, List.getElem_toArray, List.getElem_cons_zero, List.getElem_cons_succ, List.setIfInBounds_toArray, List.set_cons_zero, List.set_cons_succ])
  refine wpAnyH_take (i := 10) (v := .int .i64 (R2 : Nat)) rfl (by kernel_rfl) (by kernel_rfl) (by kernel_rfl) (fun _ _ _ h => h) (Or.inl ⟨by rfl, by (intro w hSw; (try dsimp only at hSw); go_simp)⟩) hHeld ?_
  (try simp only [Act.put, List.getElem_toArray, List.getElem_cons_zero, List.getElem_cons_succ, List.setIfInBounds_toArray, List.set_cons_zero, List.set_cons_succ])
  refine wpAnyH_take (i := 11) (v := .int .i64 R1) rfl (by kernel_rfl) (by kernel_rfl) (by kernel_rfl) (fun _ _ _ h => h) (Or.inl ⟨by rfl, by (intro w hSw; (try dsimp only at hSw); go_simp)⟩) hHeld ?_
  (try simp only [Act.put, List.getElem_toArray, List.getElem_cons_zero, List.getElem_cons_succ, List.setIfInBounds_toArray, List.set_cons_zero, List.set_cons_succ])
  refine wpAnyH_take (i := 12) (v := .int .i64 (R2 : Nat)) rfl (by kernel_rfl) (by kernel_rfl) (by kernel_rfl) (fun _ _ _ h => h) (Or.inl ⟨by rfl, by (intro w hSw; (try dsimp only at hSw); go_simp)⟩) hHeld ?_
  (try simp only [Act.put, List.getElem_toArray, List.getElem_cons_zero, List.getElem_cons_succ, List.setIfInBounds_toArray, List.set_cons_zero, List.set_cons_succ])
  refine wpAnyH_done (by kernel_rfl) ?_ _
  have HS2 := Lib.hid (HS1.out.up hb)
  clear hb HLO HS1 S1
  have o0 : w2.cell? ⟨w.heap.size + 1, 0, none⟩ = some (.int .i64 0) := HS2.out.cell 0
  have o1 : w2.cell? ⟨w.heap.size + 1, 1, none⟩ = some (.int .i64 0) := HS2.out.cell 1
  have o2 : w2.cell? ⟨w.heap.size + 1, 2, none⟩ = some (.int .i64 0) := HS2.out.cell 2
  have g0 : w2.frozen? ⟨w.heap.size + 1, 0, none⟩ = false := HS2.out.free 0
  have g1 : w2.frozen? ⟨w.heap.size + 1, 1, none⟩ = false := HS2.out.free 1
  have g2 : w2.frozen? ⟨w.heap.size + 1, 2, none⟩ = false := HS2.out.free 2
  have hyp : Hid (Sb w (((w2.setCell ⟨w.heap.size + 1, 0, none⟩ (.int .i64 R1)).setCell ⟨w.heap.size + 1, 1, none⟩ (.int .i64 (R2 : Nat))).setCell ⟨w.heap.size + 1, 2, none⟩ (.int .i64 (LK : Nat))) [(w.heap.size + 1, .cells #[.int .i64 R1, .int .i64 (R2 : Nat), .int .i64 (LK : Nat)] 48)]) := Lib.hid (by
    have h0 := HS2.out.sub (M := [(w.heap.size + 1, .cells #[.int .i64 0, .int .i64 0, .int .i64 0] 48)]) (by simp)
    exact ((h0.set (i := 0) (.int .i64 R1) (by simp)).set (i := 1) (.int .i64 (R2 : Nat)) (by simp)).set (i := 2) (.int .i64 (LK : Nat)) (by simp))
  go_wp2_with fail
  exact bodyPost_ret (v := .agg #[.int .i64 R1, .int .i64 (R2 : Nat), .int .i64 (LK : Nat)]) (results_cell_row rfl _ _ (w.heap.size + 1) 48 _ (0, 0) _ rfl hyp.out.heap Try.underlying48 rfl size48) rfl ⟨rfl, hyp.out.1⟩
end Go.Proofs.Ytbdbnjbafampaaa
