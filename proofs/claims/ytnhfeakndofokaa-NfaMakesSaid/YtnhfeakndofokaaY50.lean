/- Texts of package regs, one behind the other. -/
import Derived.Test.YtnhfeakndofokaaProg
import Derived.Test.YtnhfeakndofokaaY47
import Derived.Test.YtnhfeakndofokaaP75
import Derived.Test.YtnhfeakndofokaaMp
import Derived.WalkKit
import Derived.WalkLawsBesides
import Derived.WalkSpells
import Derived.Outline
import Derived.Lib.Walk
import Derived.Lib.Hide
import Derived.Lib.Slices
import Derived.Lib.Strings
import Derived.RegionTactic
import Derived.LoopTactic
import Derived.Below
import Derived.IntWalk
import Derived.Deep.QuietTactic
import Derived.BigQuiet
import Derived.Deep.MidRow
import Derived.Maps.AppendAt
import Derived.Laws.Rows
import Derived.Laws.Tables
import Derived.Deep.WholeRow
import Derived.Deep.Cut
import Derived.Deep.CutRange
import Derived.Lib.SliceRun
import Derived.Laws.MakeOwn
import Derived.Deep.RegionLaw
import Derived.Deep.RegionLawGrows
import Derived.Deep.RegionHeld3
import Derived.RegionCalls
import Derived.Deep.RegionWith
import Derived.Deep.Light
import Derived.Laws.CopyOwn
import Derived.Laws.ResultCell
import Derived.Test.YtnhfeakndofokaaY40
import Derived.Test.YtnhfeakndofokaaY48
import Derived.Test.YtnhfeakndofokaaY44
import Derived.Test.YtnhfeakndofokaaN49
section
/- Package nfa. -/
namespace Go.Proofs.Ytnhfeakndofokaa
set_option linter.unusedSimpArgs false
set_option linter.unusedVariables false
set_option maxRecDepth 100000
open Go.RowKit
/- TwinRules: the walk. -/
theorem rcel_one (kd k : Int) (u : Nat → Int) (p : Option Addr) (n c : Nat) : ∀ y ∈ (rcel kd k u (.slice p n c)).toList, y.oneCell' = true := fun y hy => by
  simp [rcel] at hy
  rcases hy with rfl | rfl | rfl | rfl | rfl | rfl | rfl <;> rfl
set_option maxHeartbeats 16000000 in
theorem twinrules_any {D : Nat → Prop} {w : World} {ts : List RT} {q : Option Addr} {f : Nat} (hD : ∀ b, D b → b < w.heap.size) (hR : RuV D w ts (.slice q ts.length f)) (hln : ts.length ≤ 1000) (hwid : ∀ t ∈ ts, wid t ≤ 1000000) :
    Calls Try.prog 17 #[.slice q ts.length f] w fun e w' => (∃ g cap, e = .returned (.slice (some ⟨g, 0, none⟩) ts.length cap) ∧ TRul (fun b => w.heap.size ≤ b ∧ b < w'.heap.size) w' ts (kdO q w) g cap) ∧ Below w.heap.size w w' := by
  obtain ⟨i0, hi, hz0, hz1, hz2⟩ := info_parts info58b
  have HR := Lib.hid fun z (hb : Below w.heap.size w z) j (hj : j < ts.length) => rule_cellsK hD hR hb hj
  have HD := Lib.hid fun z (hb : Below w.heap.size w z) b (h : D b) => Nat.lt_of_lt_of_le (hD b h) hb.size
  have HWID := Lib.hid hwid
  have hz := zero27l
  have hz58 := zero58
  have S0 := Lib.hid (Below.refl w.heap.size w)
  obtain ⟨kds, hkds⟩ : ∃ kds, kdO q w = kds := ⟨_, rfl⟩
  rw [hkds] at HR ⊢
  have HT0 : Hid (ThH w.heap.size (epL kds ts 0) (.slice none 0 0) w) := Lib.hid (ThH.nil _ _)
  clear hR hD hwid hkds
  go_enter Try.func17, Try.ntmps17
  go_wp2_with fail
  go_loopw [3, 4] (fun sl i wr => ∃ j : Nat, i = .int .i64 (j : Nat) ∧ j ≤ ts.length ∧ Hid (ThH w.heap.size (epL kds ts j) sl wr) ∧ Hid (Below w.heap.size w wr)) (fun _ i _ => ts.length - (intOf i).toNat)
  case atStart => exact ⟨0, rfl, by omega, HT0, S0⟩
  case round =>
    clear S0 HT0
    obtain ⟨j, rfl, hj, HT, HS⟩ := hrel
    obtain ⟨wo, rfl⟩ : ∃ wo : World, wo = wr := ⟨_, rfl⟩
    obtain ⟨a, cc, hsl⟩ := HT.out.slice
    rw [epL_len] at hsl
    subst hsl
    by_cases hlt : j < ts.length
    · obtain ⟨b, o, rfl, hDb, k, u, p, n, c, hv, d0, d1, d2, d3, d4, d5, d6⟩ := HR.out wo HS.out j hlt
      have hmem := List.getElem_mem hlt
      have hblt := HD.out wo HS.out b hDb
      have hltI : (j : Int) < (ts.length : Int) := by omega
      have hjI : ¬ (j : Int) < 0 := by omega
      have HES := Lib.hid (epL_succ kds hlt)
      have HC := Lib.hid (twin_any (w := wo.drewN 1) (D := D) (dep ts[j]) ts[j] (Nat.le_refl _) (HWID.out _ hmem) (HD.out wo HS.out) (RV.mono (w := wo) (w' := wo.drewN 1) (fun b h => h) (fun b h _ => rfl) hv))
      have hbx := HS.out.size
      generalize hts : ts[j] = t at *
      have HTS := Lib.hid hts
      clear hv hmem hts
      go_upto_region 5 with fail
      go_region_law (first | (go_simp; go_at_call 37; refine HC.out.mono ?_; rintro _ y5 ⟨⟨v', rfl, ht⟩, hb5⟩; obtain ⟨k6, u6, p6, n6, c6, rfl⟩ := ht.form2; have hb6 : Below wo.heap.size wo y5 := (below_drewN (Below.refl wo.heap.size wo) 1).trans hb5; have e0 : y5.cell? ⟨b, o + j * 7, none⟩ = some (.int .i64 (kds j)) := (hb6.cell (p := ⟨b, o + j * 7, none⟩) hblt).trans d0; have hTT := HT.out.up hb6; have hown := hTT.own; obtain ⟨hm0, xs, x1, x2, x3, x4⟩ := hTT; rw [epL_len] at x4; have X4 := World.ownsRow.alloc x4 (.cells #[.int .i64 (kds j), .int .i64 k6, .int .u64 (u6 0), .int .u64 (u6 1), .int .u64 (u6 2), .int .u64 (u6 3), .slice p6 n6 c6] 58); have HC0 : ∀ jj y, (rcel (kds j) k6 u6 (.slice p6 n6 c6)).toList[jj]? = some y → (y5.alloc (.cells #[.int .i64 (kds j), .int .i64 k6, .int .u64 (u6 0), .int .u64 (u6 1), .int .u64 (u6 2), .int .u64 (u6 3), .slice p6 n6 c6] 58)).cell? ((⟨y5.heap.size, 0, none⟩ : Addr).add jj) = some y := (fun jj y hy => (by rw [Addr.add_mid, cell_of_row _ y5.heap.size (0 + jj) _ 58 (0, 0) (heap_alloc_last y5 _), Nat.zero_add]; rw [Array.getElem?_toList] at hy; exact hy)); have hsz5 : (y5.alloc (.cells #[.int .i64 (kds j), .int .i64 k6, .int .u64 (u6 0), .int .u64 (u6 1), .int .u64 (u6 2), .int .u64 (u6 3), .slice p6 n6 c6] 58)).heap.size = y5.heap.size + 1 := by simp) | (refine step_append_own rfl (.tmp 12) (.tmp 25) 32 rfl w.heap.size 58 i0 _ 7 72 Try.underlying32 hi hz0 hz1 hz2 rfl (by decide) (.slice a j cc) j (flat7 xs) (by simp [Act.eval, Act.put]) X4 ⟨y5.heap.size, 0, none⟩ 1 1 (rcel (kds j) k6 u6 (.slice p6 n6 c6)).toList (by simp [Act.eval, Act.put]) rfl HC0 (rcel_one _ _ _ _ _ _) (by unfold maxLen; omega) (by omega) (by have := hb6.size; omega) ?_; intro v' w7 hown7 hgrow7 _ hat7))
      all_goals
        simp only [Act.put, List.getElem_toArray, List.getElem_cons_zero, List.getElem_cons_succ, List.setIfInBounds_toArray, List.set_cons_zero, List.set_cons_succ]
        have HTA : Hid (ThH w.heap.size (epL kds ts (j + 1)) v' w7) := Lib.hid (by
          rw [HES.out]
          exact ThH.app (lo := wo.heap.size) (w := y5) (x := rcel (kds j) k6 u6 (.slice p6 n6 c6)) hm0 (rtwE_mono _ _) rfl x1 x2 x3 rfl hbx (fun g hg => by have := (HT.out.own g hg).2; omega) ⟨k6, u6, p6, n6, c6, rfl, ht⟩ (by rw [epL_len]; exact hown7) hgrow7 hat7)
        have HBA : Hid (Below w.heap.size w w7) := Lib.hid (below_grown6 ((HS.out.trans (hb6.mono HS.out.size)).alloc (by have := hb6.size; omega) _) hgrow7 (fun g hg => (World.ownsRow.lt X4 g hg).1) (by have := hb6.size; rw [hsz5]; omega))
        clear hown7 hgrow7 hat7 X4 HC0 x1 x2 x3 x4 hm0 hown ht hb5 hb6 e0 hsz5 HT HS HC HES d0 d1 d2 d3 d4 d5 d6
        go_wp2_with fail
        go_roundw
        case rel => exact ⟨j + 1, by go_num, by omega, HTA, HBA⟩
        case measure => simp [intOf]; omega
    · obtain rfl : j = ts.length := by omega
      have hltI : ¬ ((ts.length : Nat) : Int) < ((ts.length : Nat) : Int) := by omega
      go_wp2_with fail
      go_loopw [3, 5] (fun sl i wq => ∃ m : Nat, m ≤ 3 ∧ i = .int .i64 (m : Nat) ∧ Hid (ThH w.heap.size (epL kds ts ts.length ++ ([rmkE 0, rmkE 1, rmkE 2].take m)) sl wq) ∧ Hid (Below w.heap.size w wq)) (fun _ i _ => 3 - (intOf i).toNat)
      case atStart => exact ⟨0, by omega, rfl, by simpa using HT, HS⟩
      clear HT HS hltI hlt
      case round =>
        obtain ⟨m, hm, rfl, HT, HS⟩ := hrel
        obtain ⟨wo2, rfl⟩ : ∃ wo : World, wo = wr := ⟨_, rfl⟩
        obtain ⟨a, cc, hsl⟩ := HT.out.slice
        have hlm : (epL kds ts ts.length ++ ([rmkE 0, rmkE 1, rmkE 2].take m)).length = ts.length + m := by simp [epL_len]; omega
        rw [hlm] at hsl
        subst hsl
        by_cases hlt : m < 3
        · obtain ⟨q9, hq, hq2⟩ : ∃ q : Int, rcel (-7000 - (m : Int)) 0 u0 (.slice none 0 0) = rcel q 0 u0 (.slice none 0 0) ∧ q = -7000 - (m : Int) := ⟨_, rfl, rfl⟩
          have hlt3 : (m : Int) < 3 := by omega
          have hqw : IntKind.i64.wrap (-7000 - (m : Int)) = q9 := by rw [IntWalk.i64_in _ (by omega)]; exact hq2.symm
          have hown := HT.out.own
          obtain ⟨hm0, xs, x1, x2, x3, x4⟩ := HT.out
          rw [hlm] at x4
          have X1 := Lib.hid x1
          have X2 := Lib.hid x2
          have X3 := Lib.hid x3
          have X4 := Lib.hid (World.ownsRow.alloc x4 (.cells #[.int .i64 q9, .int .i64 0, .int .u64 0, .int .u64 0, .int .u64 0, .int .u64 0, .slice none 0 0] 58))
          have HC0 : Hid (∀ j u, (rcel q9 0 u0 (.slice none 0 0)).toList[j]? = some u → (wo2.alloc (.cells #[.int .i64 q9, .int .i64 0, .int .u64 0, .int .u64 0, .int .u64 0, .int .u64 0, .slice none 0 0] 58)).cell? ((⟨wo2.heap.size, 0, none⟩ : Addr).add j) = some u) := Lib.hid fun j u hj => by
            rw [Addr.add_mid, cell_of_row _ wo2.heap.size (0 + j) _ 58 (0, 0) (heap_alloc_last wo2 _), Nat.zero_add]
            rw [Array.getElem?_toList] at hj; exact hj
          have HM0 := Lib.hid hm0
          have HO := Lib.hid hown
          have HQ := Lib.hid hq
          have hwl := HS.out.size
          have HA : Hid (Below wo2.heap.size wo2 (wo2.alloc (.cells #[.int .i64 q9, .int .i64 0, .int .u64 0, .int .u64 0, .int .u64 0, .int .u64 0, .slice none 0 0] 58))) := Lib.hid ((Below.refl _ _).alloc (Nat.le_refl _) _)
          clear x1 x2 x3 x4 hm0 hown HT hq hq2
          go_wp2_with (at_builtin; refine wpList_append_own_at _ rfl (.tmp 31) (.tmp 35) 32 rfl w.heap.size 58 i0 _ 7 72 Try.underlying32 hi hz0 hz1 hz2 rfl (by decide) (.slice a (ts.length + m) cc) (ts.length + m) (flat7 xs) rfl ?c0 ⟨wo2.heap.size, 0, none⟩ 1 1 (rcel q9 0 u0 (.slice none 0 0)).toList rfl rfl ?c1 ?c2 ?c3 ?c4 ?c5 ?_)
          case c0 => exact X4.out
          case c1 => first | exact HC0.out | exact fun j u hu => by rw [← Array.getElem?_toList] at hu; exact hu
          case c2 => exact rcel_one _ _ _ _ _ _
          case c3 => unfold maxLen; omega
          case c4 => omega
          case c5 => first | exact Nat.le_trans hwl HA.out.size | exact Nat.le_trans hwl (Nat.le_succ _)
          intro v' w8 hown8 hgrow8 _ hat8
          have htk : epL kds ts ts.length ++ ([rmkE 0, rmkE 1, rmkE 2].take (m + 1)) = (epL kds ts ts.length ++ ([rmkE 0, rmkE 1, rmkE 2].take m)) ++ [rmkE m] := by
            rcases (by omega : m = 0 ∨ m = 1 ∨ m = 2) with rfl | rfl | rfl <;> simp
          have HTA : Hid (ThH w.heap.size (epL kds ts ts.length ++ ([rmkE 0, rmkE 1, rmkE 2].take (m + 1))) v' w8) := Lib.hid (by
            rw [htk]
            exact ThH.app (lo := wo2.heap.size) (w := wo2) (x := rcel q9 0 u0 (.slice none 0 0)) HM0.out (rmkE_mono m) rfl X1.out X2.out X3.out rfl hwl (fun g hg => (HO.out g hg).2) (show _ = rcel _ _ _ _ from HQ.out.symm) (by rw [hlm]; exact hown8) hgrow8 (by simpa using hat8))
          have HBA : Hid (Below w.heap.size w w8) := Lib.hid (below_grown6 (HS.out.trans (HA.out.mono hwl)) hgrow8 (fun g hg => (World.ownsRow.lt X4.out g hg).1) (Nat.le_trans hwl HA.out.size))
          clear hown8 hgrow8 hat8 htk X1 X2 X3 X4 HC0 HA HM0 HO HQ HS
          go_wp2_with fail
          go_roundw
          case rel => exact ⟨m + 1, by omega, by go_num, HTA, HBA⟩
          case measure => simp [intOf]; omega
        · obtain rfl : m = 3 := by omega
          obtain ⟨g, cap, hsl, htr⟩ := HT.out.twins
          have ha : a = some ⟨g, 0, none⟩ ∧ cc = cap := by simpa using hsl
          obtain ⟨rfl, rfl⟩ := ha
          have HW := Lib.hid htr
          have hcap := htr.cap
          have i1 : ((ts.length : Nat) : Int) ≤ (cc : Int) := by omega
          have i0' : (0 : Int) ≤ ((ts.length : Nat) : Int) := by omega
          clear htr hsl HT
          go_wp2_with fail
          go_ret
          exact ⟨⟨g, cc, rfl, HW.out⟩, HS.out⟩
end Go.Proofs.Ytnhfeakndofokaa
end
section
/- Package nfa. -/
namespace Go.Proofs.Ytnhfeakndofokaa
set_option linter.unusedSimpArgs false
set_option linter.unusedVariables false
set_option maxRecDepth 100000
open Go.RowKit
/- LeftRules: the walk. -/
set_option maxHeartbeats 16000000 in
theorem leftrules_any {D E : Nat → Prop} {w : World} {ts : List RT} {kds : Nat → Int} {q : Option Addr} {f g cap : Nat} (hD : ∀ b, D b → b < w.heap.size) (hE : ∀ b, E b → b < w.heap.size) (hT : TRul D w ts kds g cap) (hln : ts.length ≤ 1000) (hwid : ∀ t ∈ ts, wid t ≤ 1000000)
    (hR : ∀ j (hj : j < ts.length), ∃ b o, q = some ⟨b, o, none⟩ ∧ E b ∧ ∃ (k : Int) (u : Nat → Int) (p : Option Addr) (n c : Nat), RV E w ts[j] (.agg #[.int .i64 k, .int .u64 (u 0), .int .u64 (u 1), .int .u64 (u 2), .int .u64 (u 3), .slice p n c]) ∧
    w.cell? ⟨b, o + j * 7, none⟩ = some (.int .i64 (kds j)) ∧ w.cell? ⟨b, o + j * 7 + 1, none⟩ = some (.int .i64 k) ∧ w.cell? ⟨b, o + j * 7 + 2, none⟩ = some (.int .u64 (u 0)) ∧ w.cell? ⟨b, o + j * 7 + 3, none⟩ = some (.int .u64 (u 1)) ∧ w.cell? ⟨b, o + j * 7 + 4, none⟩ = some (.int .u64 (u 2)) ∧ w.cell? ⟨b, o + j * 7 + 5, none⟩ = some (.int .u64 (u 3)) ∧ w.cell? ⟨b, o + j * 7 + 6, none⟩ = some (.slice p n c)) :
    Calls Try.prog 18 #[.slice (some ⟨g, 0, none⟩) ts.length cap, .slice q ts.length f] w fun e w' => e = .returned (.bool true) ∧ Below w.heap.size w w' := by
  have HT := Lib.hid hT
  have HR := Lib.hid hR
  have HD := Lib.hid hD
  have HE := Lib.hid hE
  have HWID := Lib.hid hwid
  have hcap := hT.cap
  have hgl := hT.lt
  have i1 : ¬ (cap : Int) < ((ts.length : Nat) : Int) + 3 := by omega
  have i2 : ((ts.length : Nat) : Int) + 3 ≤ (cap : Int) := by omega
  have i3 : (0 : Int) ≤ ((ts.length : Nat) : Int) + 3 := by omega
  have S0 := Lib.hid (Below.refl w.heap.size w)
  clear hT hR hD hE hwid
  go_enter Try.func18, Try.ntmps18
  go_wp2_with fail
  go_loopw [6] (fun i wr => ∃ m : Nat, m ≤ 3 ∧ i = .int .i64 (m : Nat) ∧ Hid (Below w.heap.size w wr)) (fun i _ => 3 - (intOf i).toNat)
  case atStart => exact ⟨0, by omega, rfl, S0⟩
  clear S0
  case round =>
    obtain ⟨m, hm3, rfl, HS⟩ := hrel
    by_cases hlt : m < 3
    · have hlt3 : (m : Int) < 3 := by omega
      have hmk := HT.out.mks m hlt
      obtain ⟨q9, hq9⟩ : ∃ q : Int, -7000 - (m : Int) = q := ⟨_, rfl⟩
      rw [hq9] at hmk
      have hqw : IntKind.i64.wrap (-7000 - (m : Int)) = q9 := by rw [IntWalk.i64_in _ (by omega)]; exact hq9
      have hiw : IntKind.i64.wrap (((ts.length : Nat) : Int) + (m : Int)) = ((ts.length : Nat) : Int) + (m : Int) := IntWalk.i64_in _ (by omega)
      have hi0 : (0 : Int) ≤ ((ts.length : Nat) : Int) + (m : Int) := by omega
      have hi1 : ((ts.length : Nat) : Int) + (m : Int) < ((ts.length : Nat) : Int) + 3 := by omega
      have d0 : wr.cell? ⟨g, (ts.length + m) * 7, none⟩ = some (.int .i64 q9) := (HS.out.cell (p := ⟨g, (ts.length + m) * 7, none⟩) hgl).trans hmk
      clear hmk hq9
      go_wp2_with fail
      go_roundw
      case rel => exact ⟨m + 1, by omega, by go_num, HS⟩
      case measure => simp [intOf]; omega
    · obtain rfl : m = 3 := by omega
      have hlt3 : ¬ (3 : Int) < 3 := by omega
      go_wp2_with fail
      go_loopw [7] (fun i wq => ∃ j : Nat, j ≤ ts.length ∧ i = .int .i64 (j : Nat) ∧ Hid (Below w.heap.size w wq)) (fun i _ => ts.length - (intOf i).toNat)
      case atStart => exact ⟨0, by omega, rfl, HS⟩
      clear HS hlt3 hlt
      case round =>
        obtain ⟨j, hj, rfl, HS⟩ := hrel
        obtain ⟨wo, rfl⟩ : ∃ wo : World, wo = wr := ⟨_, rfl⟩
        by_cases hlt : j < ts.length
        · have hltI : (j : Int) < (ts.length : Int) := by omega
          have hjI : ¬ (j : Int) < 0 := by omega
          obtain ⟨b, o, rfl, hEb, k2, u2, p2, n2, c2, hv', c0, c1, c2', c3, c4, c5, c6⟩ := HR.out j hlt
          obtain ⟨k1, u1, p1, n1, cc1, hv, hcl⟩ := HT.out.el j hlt
          have hbl := HE.out b hEb
          have ct : ∀ i y, (rcel (kds j) k1 u1 (.slice p1 n1 cc1))[i]? = some y → wo.cell? ⟨g, j * 7 + i, none⟩ = some y := fun i y hy => (HS.out.cell (p := ⟨g, j * 7 + i, none⟩) hgl).trans (hcl i y hy)
          have a5 : wo.cell? ⟨g, j * 7, none⟩ = some (.int .i64 (kds j)) := ct 0 _ rfl
          have d0 : wo.cell? ⟨g, j * 7 + 1, none⟩ = some (.int .i64 k1) := ct 1 _ rfl
          have d1 : wo.cell? ⟨g, j * 7 + 2, none⟩ = some (.int .u64 (u1 0)) := ct 2 _ rfl
          have d2 : wo.cell? ⟨g, j * 7 + 3, none⟩ = some (.int .u64 (u1 1)) := ct 3 _ rfl
          have d3 : wo.cell? ⟨g, j * 7 + 4, none⟩ = some (.int .u64 (u1 2)) := ct 4 _ rfl
          have d4 : wo.cell? ⟨g, j * 7 + 5, none⟩ = some (.int .u64 (u1 3)) := ct 5 _ rfl
          have d5 : wo.cell? ⟨g, j * 7 + 6, none⟩ = some (.slice p1 n1 cc1) := ct 6 _ rfl
          have hcb : ∀ i, wo.cell? ⟨b, i, none⟩ = w.cell? ⟨b, i, none⟩ := fun i => cell_same (HS.out.block b hbl) _
          have q6 : wo.cell? ⟨b, o + j * 7, none⟩ = some (.int .i64 (kds j)) := (hcb _).trans c0
          have e0 : wo.cell? ⟨b, o + j * 7 + 1, none⟩ = some (.int .i64 k2) := (hcb _).trans c1
          have e1 : wo.cell? ⟨b, o + j * 7 + 2, none⟩ = some (.int .u64 (u2 0)) := (hcb _).trans c2'
          have e2 : wo.cell? ⟨b, o + j * 7 + 3, none⟩ = some (.int .u64 (u2 1)) := (hcb _).trans c3
          have e3 : wo.cell? ⟨b, o + j * 7 + 4, none⟩ = some (.int .u64 (u2 2)) := (hcb _).trans c4
          have e4 : wo.cell? ⟨b, o + j * 7 + 5, none⟩ = some (.int .u64 (u2 3)) := (hcb _).trans c5
          have e5 : wo.cell? ⟨b, o + j * 7 + 6, none⟩ = some (.slice p2 n2 c2) := (hcb _).trans c6
          have z1 : g < wo.heap.size := Nat.lt_of_lt_of_le hgl HS.out.size
          have z2 : b < wo.heap.size := Nat.lt_of_lt_of_le hbl HS.out.size
          have hmem := List.getElem_mem hlt
          have HK : Hid (∀ z, Below wo.heap.size wo z → Calls Try.prog 38 #[.agg #[.int .i64 k1, .int .u64 (u1 0), .int .u64 (u1 1), .int .u64 (u1 2), .int .u64 (u1 3), .slice p1 n1 cc1], .agg #[.int .i64 k2, .int .u64 (u2 0), .int .u64 (u2 1), .int .u64 (u2 2), .int .u64 (u2 3), .slice p2 n2 c2]] z fun e w' => e = .returned (.bool true) ∧ Below z.heap.size z w') := Lib.hid fun z hb => by
            have hk : ∀ x, x < w.heap.size → z.heap[x]? = w.heap[x]? := fun x hx => (hb.block x (Nat.lt_of_lt_of_le hx HS.out.size)).trans (HS.out.block x hx)
            have hsz := Nat.le_trans HS.out.size hb.size
            exact left_any (w := z) (D := D) (E := E) (dep ts[j]) ts[j] (Nat.le_refl _) (HWID.out _ hmem) (fun x hx => Nat.lt_of_lt_of_le (HD.out x hx) hsz) (fun x hx => Nat.lt_of_lt_of_le (HE.out x hx) hsz) (TW.mono (fun b h => h) (fun x hx _ => hk x (HD.out x hx)) hv) (RV.mono (fun b h => h) (fun x hx _ => hk x (HE.out x hx)) hv')
          generalize kds j = kd at *
          clear ct hcl hcb c0 c1 c2' c3 c4 c5 c6 hv hv' hmem
          go_upto_region 12 with fail
          go_region_held3 (fun w' => w'.cell? ⟨g, j * 7, none⟩ = some (.int .i64 kd) ∧ w'.cell? ⟨b, o + j * 7, none⟩ = some (.int .i64 kd) ∧ w'.cell? ⟨g, j * 7 + 1, none⟩ = some (.int .i64 k1) ∧ w'.cell? ⟨g, j * 7 + 2, none⟩ = some (.int .u64 (u1 0)) ∧ w'.cell? ⟨g, j * 7 + 3, none⟩ = some (.int .u64 (u1 1)) ∧ w'.cell? ⟨g, j * 7 + 4, none⟩ = some (.int .u64 (u1 2)) ∧ w'.cell? ⟨g, j * 7 + 5, none⟩ = some (.int .u64 (u1 3)) ∧ w'.cell? ⟨g, j * 7 + 6, none⟩ = some (.slice p1 n1 cc1) ∧ w'.cell? ⟨b, o + j * 7 + 1, none⟩ = some (.int .i64 k2) ∧ w'.cell? ⟨b, o + j * 7 + 2, none⟩ = some (.int .u64 (u2 0)) ∧ w'.cell? ⟨b, o + j * 7 + 3, none⟩ = some (.int .u64 (u2 1)) ∧ w'.cell? ⟨b, o + j * 7 + 4, none⟩ = some (.int .u64 (u2 2)) ∧ w'.cell? ⟨b, o + j * 7 + 5, none⟩ = some (.int .u64 (u2 3)) ∧ w'.cell? ⟨b, o + j * 7 + 6, none⟩ = some (.slice p2 n2 c2) ∧ g < w'.heap.size ∧ b < w'.heap.size ∧ g < w'.heap.size ∧ b < w'.heap.size ∧ Below wo.heap.size wo w')
            (first | assumption | exact ⟨a5, q6, d0, d1, d2, d3, d4, d5, e0, e1, e2, e3, e4, e5, z1, z2, z1, z2, below_drewN (Below.refl _ _) 1⟩ | exact keepT (by assumption) hb)
            (first | (go_at_call 38; refine (HK.out _ (keepT_k (by assumption))).mono ?_; rintro _ wq ⟨rfl, hb⟩))
          all_goals
            rename_i hHeld
            have HS2 := Lib.hid (HS.out.trans ((keepT_k hHeld).mono HS.out.size))
            clear hHeld hb HK HS a5 q6 d0 d1 d2 d3 d4 d5 e0 e1 e2 e3 e4 e5 z1 z2
            go_wp2_with fail
            go_roundw
            case rel => exact ⟨j + 1, by omega, by go_num, HS2⟩
            case measure => simp [intOf]; omega
        · obtain rfl : j = ts.length := by omega
          have hlt3 : ¬ ((ts.length : Nat) : Int) < ((ts.length : Nat) : Int) := by omega
          go_wp2_with fail
          go_ret
          exact ⟨rfl, HS.out⟩
end Go.Proofs.Ytnhfeakndofokaa
end
section
/- Package nfa. -/
namespace Go.Proofs.Ytnhfeakndofokaa
set_option linter.unusedSimpArgs false
set_option linter.unusedVariables false
set_option maxRecDepth 100000
open Go.RowKit
/- Whole tells what the rules' automaton accepts. -/
theorem ltR_one (t : RT) : LtR [t] = Lt t := by
  funext w
  rw [LtR]
  apply propext
  constructor
  · rintro ⟨a, b, rfl, h1, h2⟩
    rw [LtR] at h2
    subst h2; simpa using h1
  · intro h; exact ⟨w, [], by simp, h, by rw [LtR]⟩
mutual
theorem lt_lg : ∀ (t : RT) (w : List UInt8), mayB t = true → (Lt t w ↔ Lg t w)
  | .mk k u ps, w, hm => by
    rw [mayB, Bool.and_eq_true, Bool.and_eq_true] at hm
    have hR := lt_lgR ps
    have hC := lt_lgC ps
    have hone : ps.length = 1 → LtR ps = LgH ps := fun h1 => by
      match ps, h1 with
      | [t], _ =>
        rw [ltR_one, lgH_one]
        funext w
        have := hR w hm.2
        rw [ltR_one, lgR_one] at this
        exact propext this
    rw [Lt, Lg]
    rcases fits_kind hm.1.1 with rfl | rfl | rfl | rfl | rfl | ⟨rfl, e1⟩ | ⟨rfl, e1⟩ | ⟨rfl, e1⟩
    · simp
    · simp
    · simp [hasU, fOf]
    · simp; exact hR w hm.2
    · simp; exact hC w hm.2
    · simp [hone e1]
    · simp [hone e1]
    · simp [hone e1]
theorem lt_lgR : ∀ (ps : List RT) (w : List UInt8), mayL ps = true → (LtR ps w ↔ LgR ps w)
  | [], w, _ => by rw [LtR, LgR]
  | t :: ts, w, hm => by
    rw [mayL, Bool.and_eq_true] at hm
    have h1 := fun w => lt_lg t w hm.1
    have h2 := fun w => lt_lgR ts w hm.2
    rw [LtR, LgR]
    simp only [h1, h2]
theorem lt_lgC : ∀ (ps : List RT) (w : List UInt8), mayL ps = true → (LtC ps w ↔ LgC ps w)
  | [], w, _ => by rw [LtC, LgC]
  | t :: ts, w, hm => by
    rw [mayL, Bool.and_eq_true] at hm
    have h1 := fun w => lt_lg t w hm.1
    have h2 := fun w => lt_lgC ts w hm.2
    rw [LtC, LgC]
    simp only [h1, h2]
end
open Classical in
theorem whole_any {D : Nat → Prop} {t : RT} {x : List UInt8} {v : Value} {w : World} (hx : x.length ≤ 900) (hD : ∀ b, D b → b < w.heap.size) (h : RV D w t v) (hc : checkE t = 0) (ho : okT t) :
    Calls Try.prog 44 #[v, .string (bs x)] w fun e w' => e = .returned (.bool (decide (Lt t x))) ∧ Below w.heap.size w w' := by
  have hm := checkE_may hc
  have hs := checkE_sz hc
  have hw := wid_sz t
  have := whole_walk hx hD h (ends_any hx (dep t) t (Nat.le_refl _) (by omega) hm ho)
  have e : edF t x (fun j => decide (j = 0)) x.length = decide (Lt t x) := by
    rw [Bool.eq_iff_iff, ed_whole, decide_eq_true_eq, lt_lg t x hm]
  rwa [e] at this
end Go.Proofs.Ytnhfeakndofokaa
end
section
/- Package nfa. -/
namespace Go.Proofs.Ytnhfeakndofokaa
set_option linter.unusedSimpArgs false
set_option linter.unusedVariables false
set_option maxRecDepth 100000
open Go.RowKit
/- The document's Match. -/
open Classical in
noncomputable def ltB (t : RT) (x : List UInt8) : Bool := decide (Lt t x)
open Classical in
noncomputable def mtB (ts : List RT) (x : List UInt8) (r : Nat) : Bool := decide (∃ t, ts[r]? = some t ∧ Lt t x)
theorem mtB_lt {ts : List RT} {x : List UInt8} {j : Nat} (hj : j < ts.length) : mtB ts x j = ltB ts[j] x := by
  unfold mtB ltB
  rw [decide_eq_decide, List.getElem?_eq_getElem hj]
  constructor
  · rintro ⟨t, ht, hl⟩; cases ht; exact hl
  · intro h; exact ⟨_, rfl, h⟩
noncomputable def accP (ts : List RT) (x : List UInt8) (j : Nat) : List Int := ((List.range j).filter (mtB ts x)).map fun (r : Nat) => (r : Int)
theorem accP_all (ts : List RT) (x : List UInt8) : accP ts x ts.length = accT ts x := by
  unfold accP accT
  congr 1
  exact List.filter_congr fun r _ => by unfold mtB; exact decide_eq_decide.2 Iff.rfl
theorem accP_succ {ts : List RT} {x : List UInt8} {j : Nat} (hj : j < ts.length) : accP ts x (j + 1) = accP ts x j ++ (if ltB ts[j] x = true then [(j : Int)] else []) := by
  unfold accP
  rw [List.range_succ, List.filter_append, List.map_append, ← mtB_lt hj]
  congr 1
  cases h : mtB ts x j with
  | true => rw [List.filter_cons_of_pos h, List.filter_nil]; rfl
  | false => rw [List.filter_cons_of_neg (by rw [h]; exact Bool.false_ne_true), List.filter_nil]; rfl
theorem accP_len (ts : List RT) (x : List UInt8) (j : Nat) : (accP ts x j).length ≤ j := by
  unfold accP
  rw [List.length_map]
  exact Nat.le_trans (List.length_filter_le _ _) (by simp)
theorem own_up {w w' : World} {B : Nat} {e : TypeId} {size : Nat} {v : Value} {n : Nat} {xs : List Value} (h : w.ownsRow B e size v n xs) (hb : Below w.heap.size w w') : w'.ownsRow B e size v n xs :=
  World.ownsRow.kept (row := none) h ⟨hb.os, hb.tape, hb.output, hb.size, fun k hk _ => hb.block k hk⟩ (by cases v.ownBlock <;> simp)
set_option maxHeartbeats 8000000 in
theorem match_any {D : Nat → Prop} {w : World} {ts : List RT} {q : Option Addr} {f : Nat} {x : List UInt8} (hD : ∀ b, D b → b < w.heap.size) (hR : RuV D w ts (.slice q ts.length f)) (hln : ts.length ≤ 48) (hck : ∀ t ∈ ts, checkE t = 0) (hok : ∀ t ∈ ts, okT t) (hx : x.length ≤ 900) :
    Calls Try.prog 22 #[.slice q ts.length f, .string (bs x)] w fun e w' => (∃ p c, e = .returned (.slice p (accT ts x).length c) ∧ IV (fun b => b < w'.heap.size) w' (accT ts x) (.slice p (accT ts x).length c)) ∧ Below w.heap.size w w' := by
  obtain ⟨i3, hj, hj0, hj1, hj2⟩ := info_parts info3
  have HR := Lib.hid fun z (hb : Below w.heap.size w z) => hR.upb hD hb
  have HD := Lib.hid fun z (hb : Below w.heap.size w z) b (h : D b) => Nat.lt_of_lt_of_le (hD b h) hb.size
  have HCK := Lib.hid hck
  have HOK := Lib.hid hok
  have S0 := Lib.hid (Below.refl w.heap.size w)
  have HO0 : Hid (w.ownsRow w.heap.size 3 1 (.slice none 0 0) (accP ts x 0).length ((accP ts x 0).map fun y => .int .i64 y)) := Lib.hid ⟨rfl, .inl ⟨rfl, rfl⟩⟩
  clear hR hD hck hok
  go_enter Try.func22, Try.ntmps22
  go_wp2_with fail
  go_loopw [5, 6] (fun v i wr => ∃ j : Nat, i = .int .i64 (j : Nat) ∧ j ≤ ts.length ∧ Hid (wr.ownsRow w.heap.size 3 1 v (accP ts x j).length ((accP ts x j).map fun y => .int .i64 y)) ∧ Hid (Below w.heap.size w wr)) (fun _ i _ => ts.length - (intOf i).toNat)
  case atStart => exact ⟨0, rfl, by omega, HO0, S0⟩
  case round =>
    clear S0 HO0
    obtain ⟨j, rfl, hj9, HO, HS⟩ := hrel
    obtain ⟨wo, rfl⟩ : ∃ wo : World, wo = wr := ⟨_, rfl⟩
    by_cases hlt : j < ts.length
    · obtain ⟨b, o, rfl, hDb, kd, k, u, p, n, c, hv, d0, d1, d2, d3, d4, d5, d6⟩ := rule_cells (HR.out wo HS.out) hlt
      have hmem := List.getElem_mem hlt
      have HC : Hid (Calls Try.prog 44 #[_, .string (bs x)] wo fun e w' => e = .returned (.bool (ltB ts[j] x)) ∧ Below wo.heap.size wo w') := Lib.hid (whole_any (x := x) hx (HD.out wo HS.out) hv (HCK.out _ hmem) (HOK.out _ hmem))
      have HY := Lib.hid (accP_succ (x := x) hlt)
      have hpl := accP_len ts x j
      have hltI : (j : Int) < (ts.length : Int) := by omega
      have hjI : ¬ (j : Int) < 0 := by omega
      clear hv hmem
      go_wp2_with fail
      refine HC.out.mono ?_
      rintro _ y1 ⟨rfl, hb1⟩
      have S3 := Lib.hid (HS.out.trans (hb1.mono HS.out.size))
      have HO1 := Lib.hid (own_up HO.out hb1)
      clear hb1 HS HC d0 d1 d2 d3 d4 d5 d6 HO
      generalize ltB ts[j] x = dm at *
      cases dm with
      | true =>
        have HY2 : Hid (accP ts x (j + 1) = accP ts x j ++ [(j : Int)]) := Lib.hid HY.out
        clear HY
        have X4 := Lib.hid (World.ownsRow.alloc HO1.out (.cells #[.int .i64 (j : Nat)] 3))
        have hwl := S3.out.size
        have HA : Hid (Below y1.heap.size y1 (y1.alloc (.cells #[.int .i64 (j : Nat)] 3))) := Lib.hid ((Below.refl _ _).alloc (Nat.le_refl _) _)
        obtain ⟨xs9, hx9⟩ : ∃ xs, (accP ts x j).map (fun y => (Value.int .i64 y)) = xs := ⟨_, rfl⟩
        rw [hx9] at X4
        have HX9 := Lib.hid hx9
        clear hx9
        generalize accP ts x j = aj at *
        go_wp2_with (at_builtin; refine wpList_append_own_at _ rfl (.tmp 20) (.tmp 22) 39 rfl w.heap.size 3 i3 (.int .i64 0) 1 8 Try.underlying39 hj hj0 hj1 hj2 rfl (by decide) _ aj.length _ rfl X4.out ⟨y1.heap.size, 0, none⟩ 1 1 [.int .i64 (j : Nat)] rfl rfl ?c1 ?c2 ?c3 ?c4 ?c5 ?_)
        case c1 => exact cell_one_new _ _ _
        case c2 => simp [Value.oneCell']
        case c3 => unfold maxLen; omega
        case c4 => omega
        case c5 => exact Nat.le_trans hwl HA.out.size
        intro v' w7 hown7 hgrow7 _ hat7
        have HTA : Hid (w7.ownsRow w.heap.size 3 1 v' (accP ts x (j + 1)).length ((accP ts x (j + 1)).map fun y => .int .i64 y)) := Lib.hid (by
          rw [HY2.out, List.map_append, List.length_append, HX9.out]; exact hown7)
        have HBA : Hid (Below w.heap.size w w7) := Lib.hid (below_grown6 (S3.out.trans (HA.out.mono hwl)) hgrow7 (fun g hg => (X4.out.lt g hg).1) (Nat.le_trans hwl HA.out.size))
        clear hown7 hgrow7 hat7 X4 HA HX9 HO1 S3 HY2
        go_wp2_with fail
        go_roundw
        case rel => exact ⟨j + 1, by go_num, by omega, HTA, HBA⟩
        case measure => simp [intOf]; omega
      | false =>
        have HN2 := Lib.hid HO1.out
        rw [show accP ts x j = accP ts x (j + 1) by rw [HY.out]; simp] at HN2
        clear HY HO1
        go_wp2_with fail
        go_roundw
        case rel => exact ⟨j + 1, by go_num, by omega, HN2, S3⟩
        case measure => simp [intOf]; omega
    · obtain rfl : j = ts.length := by omega
      have hltI : ¬ ((ts.length : Nat) : Int) < ((ts.length : Nat) : Int) := by omega
      rw [accP_all] at HO
      have hw9 := own_iv HO.out
      obtain ⟨pw, cw, hvw, _⟩ := id hw9
      have HV := Lib.hid (hw9.mono (E := fun b => b < wo.heap.size) (fun b h => h.2.1) (fun b _ _ => rfl))
      clear hw9
      go_wp2_with fail
      go_ret
      exact ⟨⟨pw, cw, by first | rfl | rw [hvw], by first | exact HV.out | (rw [← hvw]; exact HV.out)⟩, HS.out⟩
end Go.Proofs.Ytnhfeakndofokaa
end
