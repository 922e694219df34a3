/- Package grams. -/
import Derived.Test.YtpmkdpjcpimhkaaProg
import Derived.Test.YtpmkdpjcpimhkaaIa0
import Derived.Deep.SlicePairs
import Derived.Deep.Slices
import Derived.Laws.IdiomArrays
import Derived.OpenShut
import Derived.WideBlind
import Derived.Great.BuildSlice
import Derived.WalkKit
import Derived.Maps.OwnSet
import Derived.Maps.OwnOps
import Derived.Maps.Own
import Derived.DeepKeys5
import Derived.BigFrame
import Derived.WalkMore
import Derived.ScopeJumps
import Derived.StillTailTactics
import Derived.Stop.BytesEq
import Derived.WalkLawsBesides
import Derived.WalkSpells
import Derived.Outline
import Derived.Lib.Walk
import Derived.Lib.Hide
import Derived.Lib.Slices
import Derived.Lib.Strings
import Derived.RegionTactic
import Derived.LoopTactic
import Derived.Below
import Derived.IntWalk
import Derived.Deep.QuietTactic
import Derived.BigQuiet
import Derived.Deep.MidRow
import Derived.Maps.AppendAt
import Derived.Laws.Rows
import Derived.Laws.Tables
import Derived.Deep.WholeRow
import Derived.Deep.Cut
import Derived.Deep.CutRange
import Derived.Lib.SliceRun
import Derived.Laws.MakeOwn
import Derived.Deep.RegionLaw
import Derived.Deep.RegionLawGrows
import Derived.Deep.RegionHeld3
import Derived.RegionCalls
import Derived.Deep.RegionWith
import Derived.Deep.Light
import Derived.Laws.CopyOwn
import Derived.Laws.ResultCell
namespace Go.Proofs.Ytpmkdpjcpimhkaa
set_option linter.unusedSimpArgs false
set_option linter.unusedVariables false
set_option maxRecDepth 100000
open Go.RowKit
/- led's round. -/
open Go.Maps
def WV (w : World) (ws : List Way) (p : Option Addr) : Prop := ws ≠ [] → ∃ b o, p = some ⟨b, o, none⟩ ∧ b < w.heap.size ∧ ∀ i (h : i < ws.length), w.cell? ⟨b, o + i * 2, none⟩ = some (.int .i64 ws[i].1) ∧ w.cell? ⟨b, o + i * 2 + 1, none⟩ = some (.int .i64 ws[i].2)
theorem WV.up {w w' : World} {ws : List Way} {p : Option Addr} (h : WV w ws p) (hb : Below w.heap.size w w') : WV w' ws p := fun hn => by
  obtain ⟨b, o, hp, hl, hc⟩ := h hn
  exact ⟨b, o, hp, by have := hb.size; omega, fun i hi => ⟨cell_up (hc i hi).1 hb hl, cell_up (hc i hi).2 hb hl⟩⟩
theorem zero70 : ∀ w, (zeroValue 70).run Try.prog w = .ok (.agg #[.int .i64 0, .int .i64 0]) w := (zero_of_info (show (Try.prog.info? 70).map (fun i => (i.zero, i.size)) = some (some (.agg #[.int .i64 0, .int .i64 0]), 2) by kernel_rfl)).1
theorem pair_cells (w : World) (a b : Value) (t : TypeId) : (w.alloc (.cells #[a, b] t)).cell? ⟨w.heap.size, 0, none⟩ = some a ∧ (w.alloc (.cells #[a, b] t)).cell? ⟨w.heap.size, 1, none⟩ = some b :=
  ⟨(cell_of_row _ w.heap.size 0 _ t (0, 0) (heap_alloc_last w _)).trans rfl, (cell_of_row _ w.heap.size 1 _ t (0, 0) (heap_alloc_last w _)).trans rfl⟩
abbrev bxT (b : Nat) (T : List Nat) : It := .box b (.cells (tC T) 54 (0, 0))
set_option maxHeartbeats 8000000 in
theorem clo70 {w : World} {bw : Nat} {ws : List Way} {T : List Nat} {p : Option Addr} {c : Nat} (hc : w.cell? ⟨bw, 0, none⟩ = some (.slice p ws.length c)) (hv : WV w ws p) (hw : WsOk ws) (hT : TbOk T) (hl : ws.length ≤ 9223372036854775806) :
    Calls Try.prog 70 #[.agg (tC T), .pointer (some ⟨bw, 0, none⟩)] w fun e w' => e = .returned (.agg (tC (ledS ws T))) ∧ Below w.heap.size w w' := by
  have HV := Lib.hid hv
  have HW := Lib.hid hw
  have HT := Lib.hid hT
  have hz5 := zero54
  have hz7 := zero70
  have hbw := blk_lt hc
  obtain ⟨R, hR⟩ : ∃ R, ledS ws T = R := ⟨_, rfl⟩
  have HR : Hid (ledS (ws.drop 0) T = R) := Lib.hid hR
  have hRl : R.length = 64 := by rw [← hR, ledS_len, hT.ln]
  have HRL := Lib.hid hRl
  rw [hR]
  obtain ⟨b2, hb2⟩ : ∃ b, w.heap.size = b := ⟨_, rfl⟩
  have HBE := Lib.hid hb2
  have S0 := Lib.hid ((Sep.start w).allocAt hb2 (.cells (tC T) 54))
  obtain ⟨b3, hb3⟩ : ∃ b, (w.alloc (.cells (tC T) 54)).heap.size = b := ⟨_, rfl⟩
  have S1 := Lib.hid (S0.out.allocAt hb3 (.cells (tC z64) 54))
  have hc2 := cell_up hc (Below.trans S0.out.bel ((Below.refl _ _).alloc (by simp) (.cells (tC z64) 54))) hbw
  clear hR hRl hv hw hT S0
  go_enter Try.func70, Try.ntmps70
  go_upto_region 1 with fail
  refine at_world (fun v => Sep b2 w v [bxT b3 z64, bxT b2 T] ∧ v.cell? ⟨bw, 0, none⟩ = some (.slice p ws.length c)) ⟨HBE.out ▸ S1.out, hc2⟩ fun y1 hy1 => ?_
  obtain ⟨hs1, hc3⟩ := hy1
  have S2 := Lib.hid hs1
  clear hc hc2 hs1 S1 hb2 hb3
  have HV1 := Lib.hid (HV.out.up (HBE.out ▸ S2.out.bel))
  go_upto_region 2 with fail
  clear hc3
  go_loopw [8] (fun i wr => ∃ (j : Nat) (U : List Nat), i = .int .i64 (j : Nat) ∧ j ≤ ws.length ∧ Hid (TbOk U) ∧ Hid (ledS (ws.drop j) U = R) ∧ Hid (Sep b2 w wr [bxT b3 z64, bxT b2 U])) (fun i _ => ws.length - (intOf i).toNat)
  case atStart => exact ⟨0, T, rfl, by omega, HT, HR, S2⟩
  case round =>
  clear S2 HR HT HV1
  obtain ⟨j, U, rfl, hj, HU, HR, HS⟩ := hrel
  obtain ⟨wo, rfl⟩ : ∃ wo : World, wo = wr := ⟨_, rfl⟩
  by_cases hlt : j < ws.length
  · have hltI : (j : Int) < (ws.length : Int) := by omega
    have hjI : ¬ (j : Int) < 0 := by omega
    obtain ⟨bb, o, rfl, hbb, hcx⟩ := (HV.out.up (HBE.out ▸ HS.out.bel)) (by intro e; rw [e] at hlt; simp at hlt)
    obtain ⟨c0, c1⟩ := hcx j hlt
    have hgo : ledS (ws.drop (j + 1)) (led1 U ws[j]) = R := by
      rw [← HR.out, List.drop_eq_getElem_cons hlt]; rfl
    have hx := HW.out ws[j] (List.getElem_mem hlt)
    obtain ⟨x, hxx⟩ : ∃ x, ws[j] = x := ⟨_, rfl⟩
    rw [hxx] at c0 c1 hgo hx
    obtain ⟨xf, xt⟩ := x
    simp only at c0 c1 hx
    obtain ⟨f, rfl⟩ : ∃ f : Nat, (f : Int) = xf := ⟨xf.toNat, by omega⟩
    obtain ⟨t, rfl⟩ : ∃ t : Nat, (t : Int) = xt := ⟨xt.toNat, by omega⟩
    have hgo2 : ledS (ws.drop (j + 1)) (U.set t (U.getD t 0 ||| U.getD f 0)) = R := by
      rw [← hgo]; rfl
    have hf : f < 64 := by omega
    have ht : t < 64 := by omega
    have hU := HU.out
    have hor := b_or (hU.lt t) (hU.lt f)
    have HU2 : Hid (TbOk (U.set t (U.getD t 0 ||| U.getD f 0))) := Lib.hid (up1_ok hU (hU.lt f))
    have HGO := Lib.hid hgo2
    obtain ⟨b5, hb5⟩ : ∃ b, wo.heap.size = b := ⟨_, rfl⟩
    have S3 := Lib.hid (HS.out.allocAt hb5 (.cells #[.int .i64 (f : Nat), .int .i64 (t : Nat)] 70))
    have e0 := (Sep.boxAt S3.out 0).trans rfl
    have e1 := (Sep.boxAt S3.out 1).trans rfl
    have et : (wo.alloc (.cells #[.int .i64 (f : Nat), .int .i64 (t : Nat)] 70)).cell? ⟨b2, t, none⟩ = _ := (Sep.boxAt S3.out.tl.tl t).trans (tC_get U (by rw [hU.ln]; exact ht))
    have ef : (wo.alloc (.cells #[.int .i64 (f : Nat), .int .i64 (t : Nat)] 70)).cell? ⟨b2, f, none⟩ = _ := (Sep.boxAt S3.out.tl.tl f).trans (tC_get U (by rw [hU.ln]; exact hf))
    have eg : (wo.alloc (.cells #[.int .i64 (f : Nat), .int .i64 (t : Nat)] 70)).frozen? ⟨b2, t, none⟩ = false := Sep.fz S3.out.tl.tl t
    have ht0 : ¬ (t : Int) < 0 := by omega
    have hf0 : ¬ (f : Int) < 0 := by omega
    have htI : (t : Int) < 64 := by omega
    have hfI : (f : Int) < 64 := by omega
    clear hcx hgo hgo2 hx hxx hU HR HU hbb
    obtain ⟨ut, hut⟩ : ∃ z, U.getD t 0 = z := ⟨_, rfl⟩
    obtain ⟨uf, huf⟩ : ∃ z, U.getD f 0 = z := ⟨_, rfl⟩
    rw [hut, huf] at hor HU2 HGO
    rw [hut] at et
    rw [huf] at ef
    clear hut huf
    go_upto_region 4 with fail
    obtain ⟨W, hW⟩ : ∃ W, wo.alloc (.cells #[.int .i64 (f : Nat), .int .i64 (t : Nat)] 70) = W := ⟨_, rfl⟩
    simp only [hW] at e0 e1 et ef eg S3 ⊢
    have S4 := Lib.hid (S3.out.setAt [_, _] t (.int .u64 ((ut ||| uf : Nat) : Int)))
    rw [tC_set] at S4
    clear hW hb5 c0 c1
    go_still_tail 10, (by kernel_rfl)
    change wpList _ _ _ _ _ W.drew
    go_wp2
    refine ⟨⟨j + 1, _, by go_num, by omega, HU2, HGO, Lib.hid (Sep.tl (Sep.drew S4.out))⟩, ?_⟩
    simp [intOf]; omega
  · obtain rfl : j = ws.length := by omega
    have hltI : ¬ (ws.length : Int) < (ws.length : Int) := by omega
    have hUR : U = R := by have h := HR.out; rwa [List.drop_length] at h
    subst hUR
    have H2 : Hid (wo.heap[b2]? = some (.cells (tC U) 54)) := Lib.hid HS.out.tl.at.2
    have H3 : Hid (wo.heap[b3]? = some (.cells (tC z64) 54)) := Lib.hid HS.out.at.2
    clear hlt HR
    go_wp2_with (first | (refine wpList_load_T rfl (.tmp 2) rfl b2 U rfl HRL.out H2.out ?_) | (refine wpList_store_row rfl 54 (.tmp 3) (.tmp 23) rfl b3 (tC U) rfl rfl 54 _ H3.out (by rw [info54, tC_size, HRL.out]) (by rw [tC_size, tC_size, HRL.out, z64_ok.ln]) (tC_one _) ?_))
    refine bodyPost_ret (v := .agg (tC U)) (results_T rfl _ _ b3 U rfl (setRow_heap _ b3 _ _ 54 (0, 0) H3.out) HRL.out) rfl ⟨rfl, ?_⟩
    rw [HBE.out]
    exact (HS.out.putRow (tC U)).bel
end Go.Proofs.Ytpmkdpjcpimhkaa
