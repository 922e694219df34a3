/- Package relex. -/
import Derived.Test.YtemkppjdfjoipaaProg
import Derived.Test.YtemkppjdfjoipaaW26
import Derived.Deep.SlicePairs
import Derived.Deep.Slices
import Derived.Laws.IdiomArrays
import Derived.OpenShut
import Derived.WideBlind
import Derived.Great.BuildSlice
import Derived.WalkKit
import Derived.Maps.OwnSet
import Derived.Maps.OwnOps
import Derived.Maps.Own
import Derived.DeepKeys5
import Derived.BigFrame
import Derived.WalkMore
import Derived.ScopeJumps
import Derived.StillTailTactics
import Derived.Stop.BytesEq
import Derived.WalkLawsBesides
import Derived.WalkSpells
import Derived.Outline
import Derived.Lib.Walk
import Derived.Lib.Hide
import Derived.Lib.Slices
import Derived.Lib.Strings
import Derived.RegionTactic
import Derived.LoopTactic
import Derived.Below
import Derived.IntWalk
import Derived.Deep.QuietTactic
import Derived.BigQuiet
import Derived.Deep.MidRow
import Derived.Maps.AppendAt
import Derived.Laws.Rows
import Derived.Laws.Tables
import Derived.Deep.WholeRow
import Derived.Deep.Cut
import Derived.Deep.CutRange
import Derived.Lib.SliceRun
import Derived.Laws.MakeOwn
import Derived.Deep.RegionLaw
import Derived.Deep.RegionLawGrows
import Derived.Deep.RegionHeld3
import Derived.RegionCalls
import Derived.Deep.RegionWith
import Derived.Deep.Light
import Derived.Laws.CopyOwn
import Derived.Laws.ResultCell
namespace Go.Proofs.Ytemkppjdfjoipaa.I1.X
set_option linter.unusedSimpArgs false
set_option linter.unusedVariables false
set_option maxRecDepth 100000
open Go.RowKit
/- copiedMarks. -/
def csT (vs : List Value) (ms : List Mk) : Array Value := (mkL vs ms).toArray
def CmP (w0 : World) (B : Nat) (X : List It) (n : Nat) (ms : List Mk) (e : Ending) (w' : World) : Prop :=
  ∃ bT bR, e = .returned (.slice (some ⟨bT, 0, none⟩) n n) ∧ Sep B w0 w' (.box bT (.cells (csT (vsR bR 0 ms) ms) 36 (0, 0)) :: .box bR (.cells (zi (zcols ms)).toArray 3 (0, 0)) :: X)
/-- The room, cut behind what was copied. -/
def RoomV (bR all k : Nat) (v : Value) : Prop := ∃ o, v = .slice (some ⟨bR, o, none⟩) (all - k) (all - k) ∧ (k < all → o = k)
theorem mkA_one (q : Option Addr) (n f : Nat) (m : Mk) : ∀ u ∈ (mkA (.slice q n f) m).toList, u.oneCell' = true := by
  intro u hu
  simp only [mkA, List.mem_cons, List.mem_nil_iff, or_false] at hu
  rcases hu with rfl | rfl | rfl | rfl | rfl <;> rfl
theorem mkL_one : ∀ {vs : List Value} {ms : List Mk}, (∀ v ∈ vs, ∃ q n f, v = .slice q n f) → ∀ u ∈ mkL vs ms, u.oneCell' = true
  | [], ms, _, u, hu => by simp [mkL] at hu
  | v :: vs, [], _, u, hu => by simp [mkL] at hu
  | v :: vs, m :: ms, h, u, hu => by
    simp only [mkL, List.zipWith_cons_cons, List.flatMap_cons, List.mem_append] at hu
    rcases hu with e | e
    · obtain ⟨q, n, f, rfl⟩ := h v (List.mem_cons_self ..)
      exact mkA_one q n f m u e
    · exact mkL_one (fun x hx => h x (List.mem_cons_of_mem _ hx)) u e
set_option maxHeartbeats 32000000 in
theorem copmarks_any {N B : Nat} {w0 w : World} {X : List It} {ms : List Mk} {p : Option Addr} {c : Nat} (hN : N ≤ B) (hmv : MV (Lt N) w ms (.slice p ms.length c)) (hne : ms ≠ []) (hpos : ∀ m ∈ ms, 0 < m.cols.length) (hlen : ms.length ≤ 1000000) (hall : clen ms ≤ 1000000000) (hsep : Sep B w0 w X) :
    Calls Try.prog 70 #[.slice p ms.length c] w (CmP w0 B X ms.length ms) := by
  have hz36 := zero24
  obtain ⟨bs, os, vs0, rfl, hbs, hvl, hvs, hrow⟩ := mv_row hmv hne
  have HROW := Lib.hid hrow
  have HVS := Lib.hid hvs
  have HVL := Lib.hid hvl
  have HMV := Lib.hid hmv
  have HPOS := Lib.hid hpos
  have HALL := Lib.hid hall
  have HNE := Lib.hid hne
  have S0 := Lib.hid hsep
  have hBw := hsep.sz
  have hbsB : bs < w.heap.size := by have : bs < N := hbs; omega
  have HBS : Hid (bs < N) := Lib.hid hbs
  have HLB : Hid (∀ y L, Sep B w0 y L → ∀ b, b < N → ∀ o v, w.cell? ⟨b, o, none⟩ = some v → y.cell? ⟨b, o, none⟩ = some v) := Lib.hid fun y L hy b hb o v h => (cell_same ((hy.bel.block b (by omega)).trans (hsep.bel.block b (by omega)).symm) _).trans h
  obtain ⟨n, hn⟩ : ∃ n, ms.length = n := ⟨_, rfl⟩
  have HNL := Lib.hid hn
  rw [hn] at hlen HMV ⊢
  have hnp : 0 < n := by have := List.length_pos_iff.2 hne; omega
  clear hmv hne hpos hall hsep hrow hvs hvl hbs hn
  go_enter Try.func70, Try.ntmps70
  go_wp2_with fail
  go_loopw [3, 13] (fun a i wr => ∃ j : Nat, i = .int .i64 (j : Nat) ∧ j ≤ n ∧ a = .int .i64 (clen (ms.take j) : Nat) ∧ Hid (Sep B w0 wr X)) (fun _ i _ => n - (intOf i).toNat)
  case atStart => exact ⟨0, rfl, by omega, rfl, S0⟩
  case round =>
    obtain ⟨j, rfl, hj, rfl, HS⟩ := hrel
    clear S0
    obtain ⟨wo, rfl⟩ : ∃ wo : World, wo = wr := ⟨_, rfl⟩
    by_cases hlt : j < n
    · have hjl : j < ms.length := by rw [HNL.out]; exact hlt
      obtain ⟨-, b1, o1, q5, f5, he, hb1, hiv, k0, k1, k2, k3, k4⟩ := mv_get HMV.out hjl
      injection he with he
      injection he with e1 e2 e3
      subst e1 e2
      have hct := clen_take ms hjl
      have hcl := clen_le ms (j + 1)
      have hal := HALL.out
      obtain ⟨m, hm⟩ : ∃ m, ms[j] = m := ⟨_, rfl⟩
      rw [hm] at k0 k1 k2 k3 k4 hct
      have d0 := HLB.out wo _ HS.out bs HBS.out _ _ k0
      have d1 := HLB.out wo _ HS.out bs HBS.out _ _ k1
      have d2 := HLB.out wo _ HS.out bs HBS.out _ _ k2
      have d3 := HLB.out wo _ HS.out bs HBS.out _ _ k3
      have d4 := HLB.out wo _ HS.out bs HBS.out _ _ k4
      obtain ⟨t1, ht1⟩ : ∃ t, clen (ms.take j) = t := ⟨_, rfl⟩
      obtain ⟨t2, ht2⟩ : ∃ t, clen (ms.take (j + 1)) = t := ⟨_, rfl⟩
      rw [ht1, ht2] at hct
      rw [ht2] at hcl
      rw [ht1]
      have HT2 := Lib.hid ht2
      have hjI : (j : Int) < (n : Int) := by omega
      have hj0 : ¬ (j : Int) < 0 := by omega
      have ss : IntKind.i64.wrap ((t1 : Int) + (m.cols.length : Nat)) = ((t2 : Nat) : Int) := by rw [IntWalk.i64_in _ (by omega), hct]; push_cast; rfl
      obtain ⟨b5, hb5⟩ : ∃ b, wo.heap.size = b := ⟨_, rfl⟩
      have SA := Lib.hid (HS.out.allocAt hb5 (.cells #[.slice q5 m.cols.length f5, .int .i64 m.opn, .int .i64 m.col, .bool m.fresh, .int .i64 m.lead] 36))
      clear hiv k0 k1 k2 k3 k4 ht1 ht2 hct hcl hal hjl hm
      obtain ⟨lc, hlc⟩ : ∃ l, m.cols.length = l := ⟨_, rfl⟩
      rw [hlc] at d0 SA ss
      go_upto_region 5 with fail
      refine at_world (fun y => Sep B w0 y (.box b5 (.cells #[.slice q5 lc f5, .int .i64 m.opn, .int .i64 m.col, .bool m.fresh, .int .i64 m.lead] 36 (0, 0)) :: X)) SA.out fun y hy => ?_
      have y0 : y.cell? ⟨b5, 0, none⟩ = some (.slice q5 lc f5) := hy.boxAt 0
      have SY := Lib.hid hy.tl
      clear hy SA d0 d1 d2 d3 d4 HS
      go_wp2_with fail
      go_roundw
      case rel => exact ⟨j + 1, by go_num, by omega, by rw [HT2.out], SY⟩
      case measure => simp [intOf]; omega
    · obtain rfl : j = n := by omega
      have hjI : ¬ (j : Int) < (j : Int) := by omega
      have hcf : clen (ms.take j) = clen ms := by rw [← HNL.out, List.take_length]
      rw [hcf]
      have hal := HALL.out
      have HCL : Hid (clen (ms.take 0) = 0) := Lib.hid rfl
      obtain ⟨all, hallE⟩ : ∃ a, clen ms = a := ⟨_, rfl⟩
      have HAE := Lib.hid hallE
      rw [hallE] at hal ⊢
      clear hallE hcf
      have hm1 := make36 j hlen
      have hm2 := make3 all (by omega)
      have hal0 : ¬ (all : Int) < 0 := by omega
      go_upto_region 7 with fail
      obtain ⟨b6, hb6⟩ : ∃ b, wo.heap.size = b := ⟨_, rfl⟩
      have HB6 := Lib.hid hb6
      have SG1 := Lib.hid (((HS.out.allocAt hb6 (.cells (madeCells (Value.agg zA).cells (j * 5)) 36)).allocAt (b := b6 + 1) (by simp [hb6]) (.cells (zR all).toArray 3)).drew.swap)
      have SG2 := Lib.hid (((HS.out.allocAt hb6 (.cells (zR all).toArray 3)).allocAt (b := b6 + 1) (by simp [hb6]) (.cells (madeCells (Value.agg zA).cells (j * 5)) 36)).drew)
      clear HS
      go_region
      · refine at_worldQ (fun y => Sep B w0 y (.box b6 (.cells (madeCells (Value.agg zA).cells (j * 5)) 36 (0, 0)) :: .box (b6 + 1) (.cells (zR all).toArray 3 (0, 0)) :: X)) SG1.out fun y hy => ?_
        obtain ⟨b7, hb7⟩ : ∃ b, b6 + 1 = b := ⟨_, rfl⟩
        rw [hb7] at hy ⊢
        have S1 := Lib.hid hy
        clear hy SG1 SG2 hb7 HB6 hb6
        have hcur : (madeCells (Value.agg zA).cells (j * 5)).toList.length = j * 5 := by simp [madeCells]
        have hvl5 : (mkL vs0 ms).length = j * 5 := by rw [mkL_len HVL.out, HNL.out]
        have HSRC : Hid (∀ i v, (mkL vs0 ms)[i]? = some v → y.cell? ((⟨bs, os, none⟩ : Addr).add i) = some v) := Lib.hid fun i v hv => by
          rw [Addr.add_mid]; exact HLB.out y _ S1.out bs HBS.out _ _ (HROW.out i v hv)
        have S1' : Hid (Sep B w0 y (.box b6 (.cells (madeCells (Value.agg zA).cells (j * 5)).toList.toArray 36 (0, 0)) :: .box b7 (.cells (zR all).toArray 3 (0, 0)) :: X)) := Lib.hid (by rw [Array.toArray_toList]; exact S1.out)
        have hfit5 : 0 + (mkL vs0 ms).length ≤ (madeCells (Value.agg zA).cells (j * 5)).toList.length := by rw [hcur, hvl5]; omega
        go_wp2_with (refine wp_copyS rfl (.tmp 28) (.tmp 29) 24 24 rfl 36 5 Try.underlying24 (by kernel_rfl) ⟨bs, os, none⟩ j j j c rfl rfl _ 36 S1'.out (mkL vs0 ms) (Nat.min_self j) hvl5 HSRC.out hfit5 (mkL_one HVS.out) ?_)
        intro w2 hs2
        have S2 : Hid (Sep B w0 w2 (.box b6 (.cells (mkL (vsJ b7 ms vs0 0) ms).toArray 36 (0, 0)) :: .box b7 (.cells (rmJ ms all 0).toArray 3 (0, 0)) :: X)) := Lib.hid (by
          have e1 : rmJ ms all 0 = zR all := by simp [rmJ, zcols, zi, clen]
          have e2 : vsJ b7 ms vs0 0 = vs0 := by simp [vsJ, vsR]
          rw [e1, e2]
          have e3 : List.drop (j * 5) (madeCells zA (j * 5)).toList = [] := List.drop_eq_nil_of_le (by simp [madeCells])
          rw [e3, List.append_nil] at hs2
          exact hs2)
        clear hs2 S1 S1' HSRC hcur hvl5 hfit5
        have HR0 : Hid (RoomV b7 all (clen (ms.take 0)) (.slice (some ⟨b7, 0, none⟩) all all)) := Lib.hid ⟨0, rfl, fun _ => rfl⟩
        go_wp2_with fail
        go_loopw [7, 8, 10, 33] (fun rv _ _ i wr => ∃ k : Nat, i = .int .i64 (k : Nat) ∧ k ≤ j ∧ Hid (RoomV b7 all (clen (ms.take k)) rv) ∧ Hid (Sep B w0 wr (.box b6 (.cells (mkL (vsJ b7 ms vs0 k) ms).toArray 36 (0, 0)) :: .box b7 (.cells (rmJ ms all k).toArray 3 (0, 0)) :: X))) (fun _ _ _ i _ => j - (intOf i).toNat)
        case atStart => exact ⟨0, rfl, by omega, HR0, S2⟩
        case round =>
          obtain ⟨k, rfl, hk, HRV, HS⟩ := hrel
          clear S2 HR0
          obtain ⟨wo, rfl⟩ : ∃ wo : World, wo = wr := ⟨_, rfl⟩
          by_cases hlt : k < j
          · have hkl : k < ms.length := by rw [HNL.out]; exact hlt
            obtain ⟨-, b1, o1, q5, f5, he, hb1, hiv, k0, k1, k2, k3, k4⟩ := mv_get HMV.out hkl
            injection he with he
            injection he with e1 e2 e3
            subst e1 e2
            have hct := clen_take ms hkl
            have hcl := clen_le ms (k + 1)
            have hal2 := HALL.out
            have hpos := HPOS.out ms[k] (List.getElem_mem _)
            have hrs := rmJ_succ hkl HAE.out
            have hvs := @vsJ_succ b7 ms vs0 k HVL.out hkl
            have hvl := @vsJ_len b7 ms vs0 k HVL.out (Nat.le_of_lt hkl)
            have hms := fun v => mkL_set (vsJ b7 ms vs0 k) ms k v hvl hkl
            obtain ⟨v9, hmg⟩ : ∃ v, (mkL (vsJ b7 ms vs0 k) ms)[k * 5]? = some v := ⟨_, by have := mkL_get hvl k hkl 0 (by omega); rw [Nat.add_zero] at this; rw [this]; rfl⟩
            have hrl : (rmJ ms all k).length = all := by
              unfold rmJ zR
              rw [List.length_append, zi_length, zcols_len, List.length_replicate]
              have := clen_le ms k
              have := HAE.out
              omega
            have hae := HAE.out
            obtain ⟨m, hm⟩ : ∃ m, ms[k] = m := ⟨_, rfl⟩
            rw [hm] at k0 k1 k2 k3 k4 hct hpos hrs hvs hiv
            have d0 := HLB.out wo _ HS.out bs HBS.out _ _ k0
            have d1 := HLB.out wo _ HS.out bs HBS.out _ _ k1
            have d2 := HLB.out wo _ HS.out bs HBS.out _ _ k2
            have d3 := HLB.out wo _ HS.out bs HBS.out _ _ k3
            have d4 := HLB.out wo _ HS.out bs HBS.out _ _ k4
            obtain ⟨t1, ht1⟩ : ∃ t, clen (ms.take k) = t := ⟨_, rfl⟩
            obtain ⟨t2, ht2⟩ : ∃ t, clen (ms.take (k + 1)) = t := ⟨_, rfl⟩
            rw [ht1, ht2] at hct
            rw [ht2, hae] at hcl
            rw [ht1] at hrs hvs HRV
            have HT2 := Lib.hid ht2
            obtain ⟨or_, rfl, hor⟩ := HRV.out
            have hor2 : or_ = t1 := hor (by omega)
            subst hor2
            have HRS := Lib.hid hrs
            have HVS2 := Lib.hid hvs
            have HMS := Lib.hid hms
            have HMG := Lib.hid hmg
            have HRL := Lib.hid hrl
            have HIV := Lib.hid hiv
            obtain ⟨R, hR⟩ : ∃ R, all - or_ = R := ⟨_, rfl⟩
            rw [hR]
            have hjI : (k : Int) < (j : Int) := by omega
            have hj0 : ¬ (k : Int) < 0 := by omega
            obtain ⟨b9, hb9⟩ : ∃ b, wo.heap.size = b := ⟨_, rfl⟩
            have SA := Lib.hid (HS.out.allocAt hb9 (.cells #[.slice q5 m.cols.length f5, .int .i64 m.opn, .int .i64 m.col, .bool m.fresh, .int .i64 m.lead] 36))
            clear hiv k0 k1 k2 k3 k4 ht1 ht2 hkl hm hrs hvs hvl hms hmg hrl HRV hor hal2
            obtain ⟨lc, hlc⟩ : ∃ l, m.cols.length = l := ⟨_, rfl⟩
            rw [hlc] at d0 SA hct hpos HVS2 HIV
            go_upto_region 12 with fail
            refine at_world (fun y => Sep B w0 y (.box b9 (.cells #[.slice q5 lc f5, .int .i64 m.opn, .int .i64 m.col, .bool m.fresh, .int .i64 m.lead] 36 (0, 0)) :: .box b6 (.cells (mkL (vsJ b7 ms vs0 k) ms).toArray 36 (0, 0)) :: .box b7 (.cells (rmJ ms all k).toArray 3 (0, 0)) :: X)) SA.out fun y hy => ?_
            have y0 : y.cell? ⟨b9, 0, none⟩ = some (.slice q5 lc f5) := hy.boxAt 0
            have SY := Lib.hid (hy.tl.swap)
            have hgv := IV.gv HIV.out (by intro e; have := congrArg List.length e; rw [zi_length, hlc] at this; simp at this; omega)
            obtain ⟨bc, oc, rfl, hbc, hcc⟩ := hgv
            have HSRC : Hid (∀ i v, (zi m.cols)[i]? = some v → y.cell? ((⟨bc, oc, none⟩ : Addr).add i) = some v) := Lib.hid fun i v hv => by
              rw [Addr.add_mid]; exact HLB.out y _ SY.out bc hbc _ _ (hcc i v hv)
            have hzl : (zi m.cols).length = lc := by rw [zi_length, hlc]
            have hzf : or_ + (zi m.cols).length ≤ (rmJ ms all k).length := by rw [hzl, HRL.out]; omega
            have hmin : Nat.min lc R = lc := Nat.min_eq_left (by omega)
            clear hy SA d0 d1 d2 d3 d4 HS hcc hbc HIV
            have hzm : (zi m.cols).length = lc * 1 := by rw [hzl, Nat.mul_one]
            go_wp2_with (refine wp_copyS rfl (.tmp 38) (.tmp 40) 25 25 rfl 3 1 Try.underlying25 (by kernel_rfl) ⟨bc, oc, none⟩ R R lc f5 rfl rfl _ 3 SY.out (zi m.cols) hmin hzm HSRC.out hzf (zi_one m.cols) ?_)
            intro w2 hs2
            have S3 : Hid (Sep B w0 w2 (.box b6 (.cells (mkL (vsJ b7 ms vs0 k) ms).toArray 36 (0, 0)) :: .box b7 (.cells (rmJ ms all (k + 1)).toArray 3 (0, 0)) :: X)) := Lib.hid (by have e := HRS.out; rw [hzl, List.append_assoc] at e; rw [e] at hs2; exact hs2.swap)
            clear hs2 SY HSRC HRS y0 hzf hzm hzl
            have i1 : (lc : Int) ≤ (R : Int) := by omega
            have i2 : (0 : Int) ≤ (lc : Int) := by omega
            have i3 : (0 : Int) ≤ 0 := by omega
            have w3 : w2.cell? ⟨b6, k * 5, none⟩ = some v9 := by
              have e := S3.out.boxAt (k * 5)
              rw [List.getElem?_toArray, HMG.out] at e
              exact e
            have w4 : w2.frozen? ⟨b6, k * 5, none⟩ = false := S3.out.fz (k * 5)
            clear HMG
            have S4 : Hid (Sep B w0 ((w2.setCell ⟨b6, k * 5, none⟩ (.slice (some ⟨b7, or_, none⟩) lc lc)).drew) (.box b6 (.cells (mkL (vsJ b7 ms vs0 (k + 1)) ms).toArray 36 (0, 0)) :: .box b7 (.cells (rmJ ms all (k + 1)).toArray 3 (0, 0)) :: X)) := Lib.hid (by
              have e := (S3.out.setc (k * 5) (.slice (some ⟨b7, or_, none⟩) lc lc)).drew
              rw [List.setIfInBounds_toArray, HMS.out, HVS2.out] at e
              exact e)
            clear HMS HVS2
            by_cases hRe : R = lc
            · subst hRe
              have HR2 : Hid (RoomV b7 all (clen (ms.take (k + 1))) (.slice (some ⟨b7, or_, none⟩) 0 0)) := Lib.hid (by rw [HT2.out]; exact ⟨or_, by rw [show all - t2 = 0 by omega], fun h => by omega⟩)
              go_upto_region 13 with fail
              go_region
              refine at_worldQ (fun y => Sep B w0 y (.box b6 (.cells (mkL (vsJ b7 ms vs0 (k + 1)) ms).toArray 36 (0, 0)) :: .box b7 (.cells (rmJ ms all (k + 1)).toArray 3 (0, 0)) :: X)) S4.out fun y9 hy9 => ?_
              have S5 := Lib.hid hy9
              clear hy9 S4 S3 w3 w4
              go_wp2_with fail
              go_roundw
              case rel => exact ⟨k + 1, by go_num, by omega, HR2, S5⟩
              case measure => simp [intOf]; omega
            · have HR2 : Hid (RoomV b7 all (clen (ms.take (k + 1))) (.slice (some ⟨b7, or_ + lc, none⟩) (R - lc) (R - lc))) := Lib.hid (by rw [HT2.out]; exact ⟨or_ + lc, by rw [show all - t2 = R - lc by omega], fun h => by omega⟩)
              go_upto_region 13 with fail
              go_region
              refine at_worldQ (fun y => Sep B w0 y (.box b6 (.cells (mkL (vsJ b7 ms vs0 (k + 1)) ms).toArray 36 (0, 0)) :: .box b7 (.cells (rmJ ms all (k + 1)).toArray 3 (0, 0)) :: X)) S4.out fun y9 hy9 => ?_
              have S5 := Lib.hid hy9
              clear hy9 S4 S3 w3 w4
              go_wp2_with fail
              go_roundw
              case rel => exact ⟨k + 1, by go_num, by omega, HR2, S5⟩
              case measure => simp [intOf]; omega
          · obtain rfl : k = j := by omega
            have hjI : ¬ (k : Int) < (k : Int) := by omega
            go_wp2_with fail
            go_ret
            refine ⟨b6, b7, rfl, ?_⟩
            have e := HS.out
            unfold csT
            rw [← HNL.out, vsJ_end HVL.out] at e
            have e2 : rmJ ms all ms.length = zi (zcols ms) := by unfold rmJ; rw [List.take_length, HAE.out]; simp [zR]
            rw [e2] at e
            exact e
      · refine at_worldQ (fun y => Sep B w0 y (.box (b6 + 1) (.cells (madeCells (Value.agg zA).cells (j * 5)) 36 (0, 0)) :: .box b6 (.cells (zR all).toArray 3 (0, 0)) :: X)) SG2.out fun y hy => ?_
        obtain ⟨b7, hb7⟩ : ∃ b, b6 + 1 = b := ⟨_, rfl⟩
        rw [hb7] at hy ⊢
        have S1 := Lib.hid hy
        clear hy SG1 SG2 hb7 HB6 hb6
        have hcur : (madeCells (Value.agg zA).cells (j * 5)).toList.length = j * 5 := by simp [madeCells]
        have hvl5 : (mkL vs0 ms).length = j * 5 := by rw [mkL_len HVL.out, HNL.out]
        have HSRC : Hid (∀ i v, (mkL vs0 ms)[i]? = some v → y.cell? ((⟨bs, os, none⟩ : Addr).add i) = some v) := Lib.hid fun i v hv => by
          rw [Addr.add_mid]; exact HLB.out y _ S1.out bs HBS.out _ _ (HROW.out i v hv)
        have S1' : Hid (Sep B w0 y (.box b7 (.cells (madeCells (Value.agg zA).cells (j * 5)).toList.toArray 36 (0, 0)) :: .box b6 (.cells (zR all).toArray 3 (0, 0)) :: X)) := Lib.hid (by rw [Array.toArray_toList]; exact S1.out)
        have hfit5 : 0 + (mkL vs0 ms).length ≤ (madeCells (Value.agg zA).cells (j * 5)).toList.length := by rw [hcur, hvl5]; omega
        go_wp2_with (refine wp_copyS rfl (.tmp 28) (.tmp 29) 24 24 rfl 36 5 Try.underlying24 (by kernel_rfl) ⟨bs, os, none⟩ j j j c rfl rfl _ 36 S1'.out (mkL vs0 ms) (Nat.min_self j) hvl5 HSRC.out hfit5 (mkL_one HVS.out) ?_)
        intro w2 hs2
        have S2 : Hid (Sep B w0 w2 (.box b7 (.cells (mkL (vsJ b6 ms vs0 0) ms).toArray 36 (0, 0)) :: .box b6 (.cells (rmJ ms all 0).toArray 3 (0, 0)) :: X)) := Lib.hid (by
          have e1 : rmJ ms all 0 = zR all := by simp [rmJ, zcols, zi, clen]
          have e2 : vsJ b6 ms vs0 0 = vs0 := by simp [vsJ, vsR]
          rw [e1, e2]
          have e3 : List.drop (j * 5) (madeCells zA (j * 5)).toList = [] := List.drop_eq_nil_of_le (by simp [madeCells])
          rw [e3, List.append_nil] at hs2
          exact hs2)
        clear hs2 S1 S1' HSRC hcur hvl5 hfit5
        have HR0 : Hid (RoomV b6 all (clen (ms.take 0)) (.slice (some ⟨b6, 0, none⟩) all all)) := Lib.hid ⟨0, rfl, fun _ => rfl⟩
        go_wp2_with fail
        go_loopw [7, 8, 10, 33] (fun rv _ _ i wr => ∃ k : Nat, i = .int .i64 (k : Nat) ∧ k ≤ j ∧ Hid (RoomV b6 all (clen (ms.take k)) rv) ∧ Hid (Sep B w0 wr (.box b7 (.cells (mkL (vsJ b6 ms vs0 k) ms).toArray 36 (0, 0)) :: .box b6 (.cells (rmJ ms all k).toArray 3 (0, 0)) :: X))) (fun _ _ _ i _ => j - (intOf i).toNat)
        case atStart => exact ⟨0, rfl, by omega, HR0, S2⟩
        case round =>
          obtain ⟨k, rfl, hk, HRV, HS⟩ := hrel
          clear S2 HR0
          obtain ⟨wo, rfl⟩ : ∃ wo : World, wo = wr := ⟨_, rfl⟩
          by_cases hlt : k < j
          · have hkl : k < ms.length := by rw [HNL.out]; exact hlt
            obtain ⟨-, b1, o1, q5, f5, he, hb1, hiv, k0, k1, k2, k3, k4⟩ := mv_get HMV.out hkl
            injection he with he
            injection he with e1 e2 e3
            subst e1 e2
            have hct := clen_take ms hkl
            have hcl := clen_le ms (k + 1)
            have hal2 := HALL.out
            have hpos := HPOS.out ms[k] (List.getElem_mem _)
            have hrs := rmJ_succ hkl HAE.out
            have hvs := @vsJ_succ b6 ms vs0 k HVL.out hkl
            have hvl := @vsJ_len b6 ms vs0 k HVL.out (Nat.le_of_lt hkl)
            have hms := fun v => mkL_set (vsJ b6 ms vs0 k) ms k v hvl hkl
            obtain ⟨v9, hmg⟩ : ∃ v, (mkL (vsJ b6 ms vs0 k) ms)[k * 5]? = some v := ⟨_, by have := mkL_get hvl k hkl 0 (by omega); rw [Nat.add_zero] at this; rw [this]; rfl⟩
            have hrl : (rmJ ms all k).length = all := by
              unfold rmJ zR
              rw [List.length_append, zi_length, zcols_len, List.length_replicate]
              have := clen_le ms k
              have := HAE.out
              omega
            have hae := HAE.out
            obtain ⟨m, hm⟩ : ∃ m, ms[k] = m := ⟨_, rfl⟩
            rw [hm] at k0 k1 k2 k3 k4 hct hpos hrs hvs hiv
            have d0 := HLB.out wo _ HS.out bs HBS.out _ _ k0
            have d1 := HLB.out wo _ HS.out bs HBS.out _ _ k1
            have d2 := HLB.out wo _ HS.out bs HBS.out _ _ k2
            have d3 := HLB.out wo _ HS.out bs HBS.out _ _ k3
            have d4 := HLB.out wo _ HS.out bs HBS.out _ _ k4
            obtain ⟨t1, ht1⟩ : ∃ t, clen (ms.take k) = t := ⟨_, rfl⟩
            obtain ⟨t2, ht2⟩ : ∃ t, clen (ms.take (k + 1)) = t := ⟨_, rfl⟩
            rw [ht1, ht2] at hct
            rw [ht2, hae] at hcl
            rw [ht1] at hrs hvs HRV
            have HT2 := Lib.hid ht2
            obtain ⟨or_, rfl, hor⟩ := HRV.out
            have hor2 : or_ = t1 := hor (by omega)
            subst hor2
            have HRS := Lib.hid hrs
            have HVS2 := Lib.hid hvs
            have HMS := Lib.hid hms
            have HMG := Lib.hid hmg
            have HRL := Lib.hid hrl
            have HIV := Lib.hid hiv
            obtain ⟨R, hR⟩ : ∃ R, all - or_ = R := ⟨_, rfl⟩
            rw [hR]
            have hjI : (k : Int) < (j : Int) := by omega
            have hj0 : ¬ (k : Int) < 0 := by omega
            obtain ⟨b9, hb9⟩ : ∃ b, wo.heap.size = b := ⟨_, rfl⟩
            have SA := Lib.hid (HS.out.allocAt hb9 (.cells #[.slice q5 m.cols.length f5, .int .i64 m.opn, .int .i64 m.col, .bool m.fresh, .int .i64 m.lead] 36))
            clear hiv k0 k1 k2 k3 k4 ht1 ht2 hkl hm hrs hvs hvl hms hmg hrl HRV hor hal2
            obtain ⟨lc, hlc⟩ : ∃ l, m.cols.length = l := ⟨_, rfl⟩
            rw [hlc] at d0 SA hct hpos HVS2 HIV
            go_upto_region 12 with fail
            refine at_world (fun y => Sep B w0 y (.box b9 (.cells #[.slice q5 lc f5, .int .i64 m.opn, .int .i64 m.col, .bool m.fresh, .int .i64 m.lead] 36 (0, 0)) :: .box b7 (.cells (mkL (vsJ b6 ms vs0 k) ms).toArray 36 (0, 0)) :: .box b6 (.cells (rmJ ms all k).toArray 3 (0, 0)) :: X)) SA.out fun y hy => ?_
            have y0 : y.cell? ⟨b9, 0, none⟩ = some (.slice q5 lc f5) := hy.boxAt 0
            have SY := Lib.hid (hy.tl.swap)
            have hgv := IV.gv HIV.out (by intro e; have := congrArg List.length e; rw [zi_length, hlc] at this; simp at this; omega)
            obtain ⟨bc, oc, rfl, hbc, hcc⟩ := hgv
            have HSRC : Hid (∀ i v, (zi m.cols)[i]? = some v → y.cell? ((⟨bc, oc, none⟩ : Addr).add i) = some v) := Lib.hid fun i v hv => by
              rw [Addr.add_mid]; exact HLB.out y _ SY.out bc hbc _ _ (hcc i v hv)
            have hzl : (zi m.cols).length = lc := by rw [zi_length, hlc]
            have hzf : or_ + (zi m.cols).length ≤ (rmJ ms all k).length := by rw [hzl, HRL.out]; omega
            have hmin : Nat.min lc R = lc := Nat.min_eq_left (by omega)
            clear hy SA d0 d1 d2 d3 d4 HS hcc hbc HIV
            have hzm : (zi m.cols).length = lc * 1 := by rw [hzl, Nat.mul_one]
            go_wp2_with (refine wp_copyS rfl (.tmp 38) (.tmp 40) 25 25 rfl 3 1 Try.underlying25 (by kernel_rfl) ⟨bc, oc, none⟩ R R lc f5 rfl rfl _ 3 SY.out (zi m.cols) hmin hzm HSRC.out hzf (zi_one m.cols) ?_)
            intro w2 hs2
            have S3 : Hid (Sep B w0 w2 (.box b7 (.cells (mkL (vsJ b6 ms vs0 k) ms).toArray 36 (0, 0)) :: .box b6 (.cells (rmJ ms all (k + 1)).toArray 3 (0, 0)) :: X)) := Lib.hid (by have e := HRS.out; rw [hzl, List.append_assoc] at e; rw [e] at hs2; exact hs2.swap)
            clear hs2 SY HSRC HRS y0 hzf hzm hzl
            have i1 : (lc : Int) ≤ (R : Int) := by omega
            have i2 : (0 : Int) ≤ (lc : Int) := by omega
            have i3 : (0 : Int) ≤ 0 := by omega
            have w3 : w2.cell? ⟨b7, k * 5, none⟩ = some v9 := by
              have e := S3.out.boxAt (k * 5)
              rw [List.getElem?_toArray, HMG.out] at e
              exact e
            have w4 : w2.frozen? ⟨b7, k * 5, none⟩ = false := S3.out.fz (k * 5)
            clear HMG
            have S4 : Hid (Sep B w0 ((w2.setCell ⟨b7, k * 5, none⟩ (.slice (some ⟨b6, or_, none⟩) lc lc)).drew) (.box b7 (.cells (mkL (vsJ b6 ms vs0 (k + 1)) ms).toArray 36 (0, 0)) :: .box b6 (.cells (rmJ ms all (k + 1)).toArray 3 (0, 0)) :: X)) := Lib.hid (by
              have e := (S3.out.setc (k * 5) (.slice (some ⟨b6, or_, none⟩) lc lc)).drew
              rw [List.setIfInBounds_toArray, HMS.out, HVS2.out] at e
              exact e)
            clear HMS HVS2
            by_cases hRe : R = lc
            · subst hRe
              have HR2 : Hid (RoomV b6 all (clen (ms.take (k + 1))) (.slice (some ⟨b6, or_, none⟩) 0 0)) := Lib.hid (by rw [HT2.out]; exact ⟨or_, by rw [show all - t2 = 0 by omega], fun h => by omega⟩)
              go_upto_region 13 with fail
              go_region
              refine at_worldQ (fun y => Sep B w0 y (.box b7 (.cells (mkL (vsJ b6 ms vs0 (k + 1)) ms).toArray 36 (0, 0)) :: .box b6 (.cells (rmJ ms all (k + 1)).toArray 3 (0, 0)) :: X)) S4.out fun y9 hy9 => ?_
              have S5 := Lib.hid hy9
              clear hy9 S4 S3 w3 w4
              go_wp2_with fail
              go_roundw
              case rel => exact ⟨k + 1, by go_num, by omega, HR2, S5⟩
              case measure => simp [intOf]; omega
            · have HR2 : Hid (RoomV b6 all (clen (ms.take (k + 1))) (.slice (some ⟨b6, or_ + lc, none⟩) (R - lc) (R - lc))) := Lib.hid (by rw [HT2.out]; exact ⟨or_ + lc, by rw [show all - t2 = R - lc by omega], fun h => by omega⟩)
              go_upto_region 13 with fail
              go_region
              refine at_worldQ (fun y => Sep B w0 y (.box b7 (.cells (mkL (vsJ b6 ms vs0 (k + 1)) ms).toArray 36 (0, 0)) :: .box b6 (.cells (rmJ ms all (k + 1)).toArray 3 (0, 0)) :: X)) S4.out fun y9 hy9 => ?_
              have S5 := Lib.hid hy9
              clear hy9 S4 S3 w3 w4
              go_wp2_with fail
              go_roundw
              case rel => exact ⟨k + 1, by go_num, by omega, HR2, S5⟩
              case measure => simp [intOf]; omega
          · obtain rfl : k = j := by omega
            have hjI : ¬ (k : Int) < (k : Int) := by omega
            go_wp2_with fail
            go_ret
            refine ⟨b7, b6, rfl, ?_⟩
            have e := HS.out
            unfold csT
            rw [← HNL.out, vsJ_end HVL.out] at e
            have e2 : rmJ ms all ms.length = zi (zcols ms) := by unfold rmJ; rw [List.take_length, HAE.out]; simp [zR]
            rw [e2] at e
            exact e
end Go.Proofs.Ytemkppjdfjoipaa.I1.X
