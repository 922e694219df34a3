/- Package grams. -/
import Derived.Test.YtpmkdpjcpimhkaaProg
import Derived.Test.YtpmkdpjcpimhkaaIb
import Derived.Deep.SlicePairs
import Derived.Deep.Slices
import Derived.Laws.IdiomArrays
import Derived.OpenShut
import Derived.WideBlind
import Derived.Great.BuildSlice
import Derived.WalkKit
import Derived.Maps.OwnSet
import Derived.Maps.OwnOps
import Derived.Maps.Own
import Derived.DeepKeys5
import Derived.BigFrame
import Derived.WalkMore
import Derived.ScopeJumps
import Derived.StillTailTactics
import Derived.Stop.BytesEq
import Derived.WalkLawsBesides
import Derived.WalkSpells
import Derived.Outline
import Derived.Lib.Walk
import Derived.Lib.Hide
import Derived.Lib.Slices
import Derived.Lib.Strings
import Derived.RegionTactic
import Derived.LoopTactic
import Derived.Below
import Derived.IntWalk
import Derived.Deep.QuietTactic
import Derived.BigQuiet
import Derived.Deep.MidRow
import Derived.Maps.AppendAt
import Derived.Laws.Rows
import Derived.Laws.Tables
import Derived.Deep.WholeRow
import Derived.Deep.Cut
import Derived.Deep.CutRange
import Derived.Lib.SliceRun
import Derived.Laws.MakeOwn
import Derived.Deep.RegionLaw
import Derived.Deep.RegionLawGrows
import Derived.Deep.RegionHeld3
import Derived.RegionCalls
import Derived.Deep.RegionWith
import Derived.Deep.Light
import Derived.Laws.CopyOwn
import Derived.Laws.ResultCell
namespace Go.Proofs.Ytpmkdpjcpimhkaa
set_option linter.unusedSimpArgs false
set_option linter.unusedVariables false
set_option maxRecDepth 100000
open Go.RowKit
/- led. -/
open Go.Maps
set_option maxHeartbeats 8000000 in
theorem led_any {w : World} {ws : List Way} {T : List Nat} {p : Option Addr} {c : Nat} (hv : WV w ws p) (hw : WsOk ws) (hT : TbOk T) (hl : ws.length ≤ 9223372036854775806) :
    Calls Try.prog 66 #[.agg (tC T), .slice p ws.length c] w fun e w' => e = .returned (.agg (tC (tbW (Lead ws T)))) ∧ Below w.heap.size w w' := by
  have hz5 := zero54
  have hmf : ∀ (fn : Fn) (first cap : Array Value) (w : World), (Instr.makeFunc fn first cap).run Try.prog w = .ok (.func fn first cap) w := fun _ _ _ _ => rfl
  obtain ⟨b2, hb2⟩ : ∃ b, w.heap.size = b := ⟨_, rfl⟩
  have HBE := Lib.hid hb2
  have S0 := Lib.hid ((Sep.start w).allocAt hb2 (.cells (tC T) 54))
  obtain ⟨b3, hb3⟩ : ∃ b, (w.alloc (.cells (tC T) 54)).heap.size = b := ⟨_, rfl⟩
  have S1 := Lib.hid (S0.out.allocAt hb3 (.cells #[.slice p ws.length c] 68))
  obtain ⟨b4, hb4⟩ : ∃ b, ((w.alloc (.cells (tC T) 54)).alloc (.cells #[.slice p ws.length c] 68)).heap.size = b := ⟨_, rfl⟩
  have S2 := Lib.hid (S1.out.allocAt hb4 (.cells (tC z64) 54))
  have HTL := Lib.hid hT.ln
  have HC := Lib.hid (fun (y : World) (hy : Below w.heap.size w y) (hc : y.cell? ⟨b3, 0, none⟩ = some (.slice p ws.length c)) => settled_70 hc (hv.up hy) hw hT hl)
  have HRL := Lib.hid (tbW_len (Lead ws T))
  generalize tbW (Lead ws T) = R at HC HRL ⊢
  generalize ws.length = n at S1 S2 hb4 HC ⊢
  clear hv hw hT hl S0 S1
  go_enter Try.func66, Try.ntmps66
  go_upto_region 1 with fail
  refine at_world (fun v => Sep b2 w v [bxT b4 z64, .box b3 (.cells #[.slice p n c] 68 (0, 0)), bxT b2 T]) (HBE.out ▸ S2.out) fun y1 hy1 => ?_
  have S3 := Lib.hid hy1
  have H2 : Hid (y1.heap[b2]? = some (.cells (tC T) 54)) := Lib.hid S3.out.tl.tl.at.2
  clear hy1 S2 hb2 hb3 hb4
  go_wp2_with (refine wpList_load_T rfl (.tmp 2) rfl b2 T rfl HTL.out H2.out ?_)
  refine (HC.out y1 (HBE.out ▸ S3.out.bel) ((S3.out.tl.boxAt 0).trans rfl)).mono ?_
  rintro _ w1 ⟨rfl, hb1⟩
  have S4 := Lib.hid (S3.out.up hb1)
  have H4 : Hid (w1.heap[b4]? = some (.cells (tC z64) 54)) := Lib.hid S4.out.at.2
  clear hb1 H2
  go_wp2_with (refine wpList_store_row rfl 54 (.tmp 4) (.tmp 7) rfl b4 (tC R) rfl rfl 54 _ H4.out (by rw [info54, tC_size, HRL.out]) (by rw [tC_size, tC_size, HRL.out, z64_ok.ln]) (tC_one _) ?_)
  refine bodyPost_ret (v := .agg (tC R)) (results_T rfl _ _ b4 R rfl (setRow_heap _ b4 _ _ 54 (0, 0) H4.out) HRL.out) rfl ⟨rfl, ?_⟩
  rw [HBE.out]
  exact (S4.out.putRow (tC R)).bel
end Go.Proofs.Ytpmkdpjcpimhkaa
