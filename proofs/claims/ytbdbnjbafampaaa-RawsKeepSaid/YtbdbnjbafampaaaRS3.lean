/- Rules, their twins: as in layer 6. -/
import Derived.Test.YtbdbnjbafampaaaProg
import Derived.Test.YtbdbnjbafampaaaBa
import Derived.Test.YtbdbnjbafampaaaRS2
import Derived.WalkKit
import Derived.BigFrame
import Derived.WalkMore
import Derived.ScopeJumps
import Derived.StillTailTactics
import Derived.Stop.BytesEq
import Derived.WalkLawsBesides
import Derived.WalkSpells
import Derived.Outline
import Derived.Lib.Walk
import Derived.Lib.Hide
import Derived.Lib.Slices
import Derived.Lib.Strings
import Derived.RegionTactic
import Derived.LoopTactic
import Derived.Below
import Derived.IntWalk
import Derived.Deep.QuietTactic
import Derived.BigQuiet
import Derived.Deep.MidRow
import Derived.Maps.AppendAt
import Derived.Laws.Rows
import Derived.Laws.Tables
import Derived.Deep.WholeRow
import Derived.Deep.Cut
import Derived.Deep.CutRange
import Derived.Lib.SliceRun
import Derived.Laws.MakeOwn
import Derived.Deep.RegionLaw
import Derived.Deep.RegionLawGrows
import Derived.Deep.RegionHeld3
import Derived.RegionCalls
import Derived.Deep.RegionWith
import Derived.Deep.Light
import Derived.Laws.CopyOwn
import Derived.Laws.ResultCell
import Derived.Deep.SlicePairs
import Derived.Deep.Slices
import Derived.Laws.Entries
import Derived.Laws.IdiomArrays
import Derived.OpenShut
import Derived.WideBlind
namespace Go.Proofs.Ytbdbnjbafampaaa.R6
set_option linter.unusedSimpArgs false
set_option linter.unusedVariables false
set_option maxRecDepth 100000
open Go.RowKit
set_option maxHeartbeats 16000000 in
theorem leftrules_any {D E : Nat → Prop} {w : World} {ts : List RT} {kds : Nat → Int} {q : Option Addr} {f g cap : Nat} (hD : ∀ b, D b → b < w.heap.size) (hE : ∀ b, E b → b < w.heap.size) (hT : TRul D w ts kds g cap) (hln : ts.length ≤ 1000000) (hwid : ∀ t ∈ ts, wid t ≤ 1000000)
    (hR : ∀ j (hj : j < ts.length), ∃ b o, q = some ⟨b, o, none⟩ ∧ E b ∧ ∃ (k : Int) (u : Nat → Int) (p : Option Addr) (n c : Nat), RV E w ts[j] (.agg #[.int .i64 k, .int .u64 (u 0), .int .u64 (u 1), .int .u64 (u 2), .int .u64 (u 3), .slice p n c]) ∧
    w.cell? ⟨b, o + j * 7, none⟩ = some (.int .i64 (kds j)) ∧ w.cell? ⟨b, o + j * 7 + 1, none⟩ = some (.int .i64 k) ∧ w.cell? ⟨b, o + j * 7 + 2, none⟩ = some (.int .u64 (u 0)) ∧ w.cell? ⟨b, o + j * 7 + 3, none⟩ = some (.int .u64 (u 1)) ∧ w.cell? ⟨b, o + j * 7 + 4, none⟩ = some (.int .u64 (u 2)) ∧ w.cell? ⟨b, o + j * 7 + 5, none⟩ = some (.int .u64 (u 3)) ∧ w.cell? ⟨b, o + j * 7 + 6, none⟩ = some (.slice p n c)) :
    Calls Try.prog 37 #[.slice (some ⟨g, 0, none⟩) ts.length cap, .slice q ts.length f] w fun e w' => e = .returned (.bool true) ∧ Below w.heap.size w w' := by
  have HT := Lib.hid hT
  have HR := Lib.hid hR
  have HD := Lib.hid hD
  have HE := Lib.hid hE
  have HWID := Lib.hid hwid
  have hcap := hT.cap
  have hgl := hT.lt
  have i1 : ¬ (cap : Int) < ((ts.length : Nat) : Int) + 3 := by omega
  have i2 : ((ts.length : Nat) : Int) + 3 ≤ (cap : Int) := by omega
  have i3 : (0 : Int) ≤ ((ts.length : Nat) : Int) + 3 := by omega
  have S0 := Lib.hid (Below.refl w.heap.size w)
  clear hT hR hD hE hwid
  go_enter Try.func37, Try.ntmps37
  go_wp2_with fail
  go_loopw [6] (fun i wr => ∃ m : Nat, m ≤ 3 ∧ i = .int .i64 (m : Nat) ∧ Hid (Below w.heap.size w wr)) (fun i _ => 3 - (intOf i).toNat)
  case atStart => exact ⟨0, by omega, rfl, S0⟩
  clear S0
  case round =>
    obtain ⟨m, hm3, rfl, HS⟩ := hrel
    by_cases hlt : m < 3
    · have hlt3 : (m : Int) < 3 := by omega
      have hmk := HT.out.mks m hlt
      obtain ⟨q9, hq9⟩ : ∃ q : Int, -7000 - (m : Int) = q := ⟨_, rfl⟩
      rw [hq9] at hmk
      have hqw : IntKind.i64.wrap (-7000 - (m : Int)) = q9 := by rw [IntWalk.i64_in _ (by omega)]; exact hq9
      have hiw : IntKind.i64.wrap (((ts.length : Nat) : Int) + (m : Int)) = ((ts.length : Nat) : Int) + (m : Int) := IntWalk.i64_in _ (by omega)
      have hi0 : (0 : Int) ≤ ((ts.length : Nat) : Int) + (m : Int) := by omega
      have hi1 : ((ts.length : Nat) : Int) + (m : Int) < ((ts.length : Nat) : Int) + 3 := by omega
      have d0 : wr.cell? ⟨g, (ts.length + m) * 7, none⟩ = some (.int .i64 q9) := (HS.out.cell (p := ⟨g, (ts.length + m) * 7, none⟩) hgl).trans hmk
      clear hmk hq9
      go_wp2_with fail
      go_roundw
      case rel => exact ⟨m + 1, by omega, by go_num, HS⟩
      case measure => simp [intOf]; omega
    · obtain rfl : m = 3 := by omega
      have hlt3 : ¬ (3 : Int) < 3 := by omega
      go_wp2_with fail
      go_loopw [7] (fun i wq => ∃ j : Nat, j ≤ ts.length ∧ i = .int .i64 (j : Nat) ∧ Hid (Below w.heap.size w wq)) (fun i _ => ts.length - (intOf i).toNat)
      case atStart => exact ⟨0, by omega, rfl, HS⟩
      clear HS hlt3 hlt
      case round =>
        obtain ⟨j, hj, rfl, HS⟩ := hrel
        obtain ⟨wo, rfl⟩ : ∃ wo : World, wo = wr := ⟨_, rfl⟩
        by_cases hlt : j < ts.length
        · have hltI : (j : Int) < (ts.length : Int) := by omega
          have hjI : ¬ (j : Int) < 0 := by omega
          obtain ⟨b, o, rfl, hEb, k2, u2, p2, n2, c2, hv', c0, c1, c2', c3, c4, c5, c6⟩ := HR.out j hlt
          obtain ⟨k1, u1, p1, n1, cc1, hv, hcl⟩ := HT.out.el j hlt
          have hbl := HE.out b hEb
          have ct : ∀ i y, (rcel (kds j) k1 u1 (.slice p1 n1 cc1))[i]? = some y → wo.cell? ⟨g, j * 7 + i, none⟩ = some y := fun i y hy => (HS.out.cell (p := ⟨g, j * 7 + i, none⟩) hgl).trans (hcl i y hy)
          have a5 : wo.cell? ⟨g, j * 7, none⟩ = some (.int .i64 (kds j)) := ct 0 _ rfl
          have d0 : wo.cell? ⟨g, j * 7 + 1, none⟩ = some (.int .i64 k1) := ct 1 _ rfl
          have d1 : wo.cell? ⟨g, j * 7 + 2, none⟩ = some (.int .u64 (u1 0)) := ct 2 _ rfl
          have d2 : wo.cell? ⟨g, j * 7 + 3, none⟩ = some (.int .u64 (u1 1)) := ct 3 _ rfl
          have d3 : wo.cell? ⟨g, j * 7 + 4, none⟩ = some (.int .u64 (u1 2)) := ct 4 _ rfl
          have d4 : wo.cell? ⟨g, j * 7 + 5, none⟩ = some (.int .u64 (u1 3)) := ct 5 _ rfl
          have d5 : wo.cell? ⟨g, j * 7 + 6, none⟩ = some (.slice p1 n1 cc1) := ct 6 _ rfl
          have hcb : ∀ i, wo.cell? ⟨b, i, none⟩ = w.cell? ⟨b, i, none⟩ := fun i => cell_same (HS.out.block b hbl) _
          have q6 : wo.cell? ⟨b, o + j * 7, none⟩ = some (.int .i64 (kds j)) := (hcb _).trans c0
          have e0 : wo.cell? ⟨b, o + j * 7 + 1, none⟩ = some (.int .i64 k2) := (hcb _).trans c1
          have e1 : wo.cell? ⟨b, o + j * 7 + 2, none⟩ = some (.int .u64 (u2 0)) := (hcb _).trans c2'
          have e2 : wo.cell? ⟨b, o + j * 7 + 3, none⟩ = some (.int .u64 (u2 1)) := (hcb _).trans c3
          have e3 : wo.cell? ⟨b, o + j * 7 + 4, none⟩ = some (.int .u64 (u2 2)) := (hcb _).trans c4
          have e4 : wo.cell? ⟨b, o + j * 7 + 5, none⟩ = some (.int .u64 (u2 3)) := (hcb _).trans c5
          have e5 : wo.cell? ⟨b, o + j * 7 + 6, none⟩ = some (.slice p2 n2 c2) := (hcb _).trans c6
          have z1 : g < wo.heap.size := Nat.lt_of_lt_of_le hgl HS.out.size
          have z2 : b < wo.heap.size := Nat.lt_of_lt_of_le hbl HS.out.size
          have hmem := List.getElem_mem hlt
          have HK : Hid (∀ z, Below wo.heap.size wo z → Calls Try.prog 65 #[.agg #[.int .i64 k1, .int .u64 (u1 0), .int .u64 (u1 1), .int .u64 (u1 2), .int .u64 (u1 3), .slice p1 n1 cc1], .agg #[.int .i64 k2, .int .u64 (u2 0), .int .u64 (u2 1), .int .u64 (u2 2), .int .u64 (u2 3), .slice p2 n2 c2]] z fun e w' => e = .returned (.bool true) ∧ Below z.heap.size z w') := Lib.hid fun z hb => by
            have hk : ∀ x, x < w.heap.size → z.heap[x]? = w.heap[x]? := fun x hx => (hb.block x (Nat.lt_of_lt_of_le hx HS.out.size)).trans (HS.out.block x hx)
            have hsz := Nat.le_trans HS.out.size hb.size
            exact left_any (w := z) (D := D) (E := E) (dep ts[j]) ts[j] (Nat.le_refl _) (HWID.out _ hmem) (fun x hx => Nat.lt_of_lt_of_le (HD.out x hx) hsz) (fun x hx => Nat.lt_of_lt_of_le (HE.out x hx) hsz) (TW.mono (fun b h => h) (fun x hx _ => hk x (HD.out x hx)) hv) (RV.mono (fun b h => h) (fun x hx _ => hk x (HE.out x hx)) hv')
          generalize kds j = kd at *
          clear ct hcl hcb c0 c1 c2' c3 c4 c5 c6 hv hv' hmem
          go_upto_region 12 with fail
          go_region_held3 (fun w' => w'.cell? ⟨g, j * 7, none⟩ = some (.int .i64 kd) ∧ w'.cell? ⟨b, o + j * 7, none⟩ = some (.int .i64 kd) ∧ w'.cell? ⟨g, j * 7 + 1, none⟩ = some (.int .i64 k1) ∧ w'.cell? ⟨g, j * 7 + 2, none⟩ = some (.int .u64 (u1 0)) ∧ w'.cell? ⟨g, j * 7 + 3, none⟩ = some (.int .u64 (u1 1)) ∧ w'.cell? ⟨g, j * 7 + 4, none⟩ = some (.int .u64 (u1 2)) ∧ w'.cell? ⟨g, j * 7 + 5, none⟩ = some (.int .u64 (u1 3)) ∧ w'.cell? ⟨g, j * 7 + 6, none⟩ = some (.slice p1 n1 cc1) ∧ w'.cell? ⟨b, o + j * 7 + 1, none⟩ = some (.int .i64 k2) ∧ w'.cell? ⟨b, o + j * 7 + 2, none⟩ = some (.int .u64 (u2 0)) ∧ w'.cell? ⟨b, o + j * 7 + 3, none⟩ = some (.int .u64 (u2 1)) ∧ w'.cell? ⟨b, o + j * 7 + 4, none⟩ = some (.int .u64 (u2 2)) ∧ w'.cell? ⟨b, o + j * 7 + 5, none⟩ = some (.int .u64 (u2 3)) ∧ w'.cell? ⟨b, o + j * 7 + 6, none⟩ = some (.slice p2 n2 c2) ∧ g < w'.heap.size ∧ b < w'.heap.size ∧ g < w'.heap.size ∧ b < w'.heap.size ∧ Below wo.heap.size wo w')
            (first | assumption | exact ⟨a5, q6, d0, d1, d2, d3, d4, d5, e0, e1, e2, e3, e4, e5, z1, z2, z1, z2, below_drewN (Below.refl _ _) 1⟩ | exact keepT (by assumption) hb)
            (first | (go_at_call 65; refine (HK.out _ (keepT_k (by assumption))).mono ?_; rintro _ wq ⟨rfl, hb⟩))
          all_goals
            rename_i hHeld
            have HS2 := Lib.hid (HS.out.trans ((keepT_k hHeld).mono HS.out.size))
            clear hHeld hb HK HS a5 q6 d0 d1 d2 d3 d4 d5 e0 e1 e2 e3 e4 e5 z1 z2
            go_wp2_with fail
            go_roundw
            case rel => exact ⟨j + 1, by omega, by go_num, HS2⟩
            case measure => simp [intOf]; omega
        · obtain rfl : j = ts.length := by omega
          have hlt3 : ¬ ((ts.length : Nat) : Int) < ((ts.length : Nat) : Int) := by omega
          go_wp2_with fail
          go_ret
          exact ⟨rfl, HS.out⟩
end Go.Proofs.Ytbdbnjbafampaaa.R6
