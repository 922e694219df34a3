/- Package grams. -/
import Derived.Test.YtpmkdpjcpimhkaaProg
import Derived.Test.YtpmkdpjcpimhkaaIa
import Derived.Deep.SlicePairs
import Derived.Deep.Slices
import Derived.Laws.IdiomArrays
import Derived.OpenShut
import Derived.WideBlind
import Derived.Great.BuildSlice
import Derived.WalkKit
import Derived.Maps.OwnSet
import Derived.Maps.OwnOps
import Derived.Maps.Own
import Derived.DeepKeys5
import Derived.BigFrame
import Derived.WalkMore
import Derived.ScopeJumps
import Derived.StillTailTactics
import Derived.Stop.BytesEq
import Derived.WalkLawsBesides
import Derived.WalkSpells
import Derived.Outline
import Derived.Lib.Walk
import Derived.Lib.Hide
import Derived.Lib.Slices
import Derived.Lib.Strings
import Derived.RegionTactic
import Derived.LoopTactic
import Derived.Below
import Derived.IntWalk
import Derived.Deep.QuietTactic
import Derived.BigQuiet
import Derived.Deep.MidRow
import Derived.Maps.AppendAt
import Derived.Laws.Rows
import Derived.Laws.Tables
import Derived.Deep.WholeRow
import Derived.Deep.Cut
import Derived.Deep.CutRange
import Derived.Lib.SliceRun
import Derived.Laws.MakeOwn
import Derived.Deep.RegionLaw
import Derived.Deep.RegionLawGrows
import Derived.Deep.RegionHeld3
import Derived.RegionCalls
import Derived.Deep.RegionWith
import Derived.Deep.Light
import Derived.Laws.CopyOwn
import Derived.Laws.ResultCell
namespace Go.Proofs.Ytpmkdpjcpimhkaa
set_option linter.unusedSimpArgs false
set_option linter.unusedVariables false
set_option maxRecDepth 100000
open Go.RowKit
/- settled over tables; led. -/
open Go.Maps
def sumC (w : World) (b : Nat) : Nat := match w.heap[b]? with
  | some (.cells cs _ _) => (cs.toList.map fun v => (intOf v).toNat).sum
  | _ => 0
theorem sumC_eq {w : World} {b : Nat} {T : List Nat} (h : w.heap[b]? = some (.cells (tC T) 54 (0, 0))) : sumC w b = T.sum := by
  unfold sumC
  rw [h]
  show ((tC T).toList.map fun v => (intOf v).toNat).sum = T.sum
  congr 1
  unfold tC
  rw [List.toList_toArray, List.map_map]
  refine (List.map_congr_left (g := id) fun x _ => ?_).trans (List.map_id _)
  show ((x : Int)).toNat = x
  exact Int.toNat_natCast x
set_option maxHeartbeats 8000000 in
theorem settled_70 {w : World} {b : Nat} {ws : List Way} {T : List Nat} {p : Option Addr} {c : Nat} (hc : w.cell? ⟨b, 0, none⟩ = some (.slice p ws.length c)) (hv : WV w ws p) (hw : WsOk ws) (hT : TbOk T) (hl : ws.length ≤ 9223372036854775806) :
    Calls Try.prog 69 #[.agg (tC T), .func (.func 70) #[] #[.pointer (some ⟨b, 0, none⟩)]] w fun e w' => e = .returned (.agg (tC (tbW (Lead ws T)))) ∧ Below w.heap.size w w' := by
  have hbw := blk_lt hc
  have HC := Lib.hid (fun (z : World) (U : List Nat) (hU : TbOk U) (hz : Below w.heap.size w z) => clo70 (w := z) (T := U) (cell_up hc hz hbw) (hv.up hz) hw hU hl)
  have HW := Lib.hid hw
  have HT := Lib.hid hT
  have hz5 := zero54
  obtain ⟨R, hR⟩ : ∃ R, tbW (Lead ws T) = R := ⟨_, rfl⟩
  have HR := Lib.hid hR
  rw [hR]
  obtain ⟨b2, hb2⟩ : ∃ b, w.heap.size = b := ⟨_, rfl⟩
  have HBE := Lib.hid hb2
  have S0 := Lib.hid ((Sep.start w).allocAt hb2 (.cells (tC T) 54))
  obtain ⟨b4, hb4⟩ : ∃ b, (w.alloc (.cells (tC T) 54)).heap.size = b := ⟨_, rfl⟩
  have S1 := Lib.hid (S0.out.allocAt hb4 (.cells (tC z64) 54))
  clear hR hv hw hT S0 hc hbw
  go_enter Try.func69, Try.ntmps69
  go_wp2_with fail
  refine at_world (fun v => Sep b2 w v [bxT b4 z64, bxT b2 T]) (HBE.out ▸ S1.out) fun y1 hy1 => ?_
  have S2 := Lib.hid hy1
  clear hy1 S1 hb2 hb4
  go_loopw [] (fun wr => ∃ (U : List Nat), Hid (TbOk U) ∧ Hid (∃ k, U = it (ledS ws) k T) ∧ Hid (Sep b2 w wr [bxT b4 z64, bxT b2 U])) (fun wr => 64 * wmax - sumC wr b2)
  case atStart => exact ⟨T, HT, Lib.hid ⟨0, rfl⟩, S2⟩
  case round =>
  clear S2
  obtain ⟨U, HU, HK, HS⟩ := hrel
  obtain ⟨wo, rfl⟩ : ∃ wo : World, wo = wr := ⟨_, rfl⟩
  have H2 : Hid (wo.heap[b2]? = some (.cells (tC U) 54)) := Lib.hid HS.out.tl.at.2
  have HUL := Lib.hid HU.out.ln
  go_wp2_with (refine wpList_load_T rfl (.tmp 2) rfl b2 U rfl HUL.out H2.out ?_)
  refine (HC.out wo U HU.out (HBE.out ▸ HS.out.bel)).mono ?_
  rintro _ w1 ⟨rfl, hb1⟩
  have HS1 := Lib.hid (HS.out.up hb1)
  have HU1 := Lib.hid (ledS_ok ws U HU.out)
  have HCA := Lib.hid (ledS_cases ws U HW.out HU.out.ln)
  obtain ⟨V, hV⟩ : ∃ V, ledS ws U = V := ⟨_, rfl⟩
  have HVE := Lib.hid hV
  rw [hV] at HU1 HCA ⊢
  have HVL := Lib.hid HU1.out.ln
  obtain ⟨b5, hb5⟩ : ∃ b, w1.heap.size = b := ⟨_, rfl⟩
  have S3 := Lib.hid (HS1.out.allocAt hb5 (.cells (tC z64) 54))
  have H5 : Hid ((w1.alloc (.cells (tC z64) 54)).heap[b5]? = some (.cells (tC z64) 54)) := Lib.hid S3.out.at.2
  clear hb1 hV H2
  go_upto_region 2 with (refine wpList_store_row rfl 54 (.tmp 5) (.tmp 8) rfl b5 (tC V) rfl rfl 54 _ H5.out (by rw [info54, tC_size, HVL.out]) (by rw [tC_size, tC_size, HVL.out, z64_ok.ln]) (tC_one _) ?_)
  refine at_world (fun v => Sep b2 w v [bxT b5 V, bxT b4 z64, bxT b2 U]) (S3.out.putRow (tC V)) fun y2 hy2 => ?_
  have S4 := Lib.hid hy2
  have H5 : Hid (y2.heap[b5]? = some (.cells (tC V) 54)) := Lib.hid S4.out.at.2
  have H4 : Hid (y2.heap[b4]? = some (.cells (tC z64) 54)) := Lib.hid S4.out.tl.at.2
  have H2 : Hid (y2.heap[b2]? = some (.cells (tC U) 54)) := Lib.hid S4.out.tl.tl.at.2
  clear hy2 S3 HS1 hb5
  by_cases hVU : V = U
  · have HVU := Lib.hid hVU
    have hd : decide (V = U) = true := decide_eq_true hVU
    have HD := Lib.hid hd
    clear hd hVU
    go_wp2_with (first | (refine wpList_load_T rfl (.tmp 5) rfl b5 V rfl HVL.out H5.out ?_) | (refine wpList_load_T rfl (.tmp 2) rfl b2 U rfl HUL.out H2.out ?_) | (refine wpList_eql54 rfl _ _ _ rfl V U rfl rfl HVL.out HUL.out true HD.out ?_) | (refine wpList_store_row rfl 54 (.tmp 4) (.tmp 12) rfl b4 (tC U) rfl rfl 54 _ H4.out (by rw [info54, tC_size, HUL.out]) (by rw [tC_size, tC_size, HUL.out, z64_ok.ln]) (tC_one _) ?_))
    have hUR : U = R := by
      obtain ⟨k, hk⟩ := HK.out
      rw [← HR.out, hk]
      exact led_sem HW.out HT.out (by rw [← hk, HVE.out, HVU.out])
    subst hUR
    refine bodyPost_ret (v := .agg (tC U)) (results_T rfl _ _ b4 U rfl (setRow_heap _ b4 _ _ 54 (0, 0) H4.out) HUL.out) rfl ⟨rfl, ?_⟩
    rw [HBE.out]
    exact (S4.out.tl.putRow (tC U)).bel
  · have hd : decide (V = U) = false := decide_eq_false hVU
    have HD := Lib.hid hd
    have HLT : Hid (U.sum < V.sum) := Lib.hid (HCA.out.elim (fun h => absurd h hVU) id)
    have HK2 : Hid (∃ k, V = it (ledS ws) k T) := Lib.hid (by
      obtain ⟨k, hk⟩ := HK.out
      exact ⟨k + 1, by rw [it_succ, ← hk]; exact HVE.out.symm⟩)
    clear hd hVU HCA
    go_wp2_with (first | (refine wpList_load_T rfl (.tmp 5) rfl b5 V rfl HVL.out H5.out ?_) | (refine wpList_load_T rfl (.tmp 2) rfl b2 U rfl HUL.out H2.out ?_) | (refine wpList_eql54 rfl _ _ _ rfl V U rfl rfl HVL.out HUL.out false HD.out ?_) | (refine wpList_store_row rfl 54 (.tmp 2) (.tmp 13) rfl b2 (tC V) rfl rfl 54 _ H2.out (by rw [info54, tC_size, HVL.out]) (by rw [tC_size, tC_size, HUL.out, HVL.out]) (tC_one _) ?_))
    have S5 := Lib.hid (S4.out.perm (List.perm_append_comm (l₁ := [_, _]) (l₂ := [_])) |>.putRow (tC V))
    simp only [Act.put, List.getElem_toArray, List.getElem_cons_zero, List.getElem_cons_succ, List.setIfInBounds_toArray, List.set_cons_zero, List.set_cons_succ]
    go_roundw
    case rel => exact ⟨V, HU1, HK2, Lib.hid (S5.out.perm (List.perm_append_comm (l₁ := [_]) (l₂ := [_, _])) |>.tl)⟩
    case measure =>
      rw [sumC_eq (T := V) S5.out.at.2, sumC_eq (T := U) HS.out.tl.at.2]
      have h1 := HLT.out
      have h2 := sum_le V wmax (fun s => Nat.le_of_lt (HU1.out.lt s))
      rw [HVL.out] at h2
      omega
end Go.Proofs.Ytpmkdpjcpimhkaa
