/- Packages dfa, mini, munch. -/
import Derived.Test.YtbdbnjbafampaaaProg
import Derived.Test.YtbdbnjbafampaaaEf
import Derived.WalkKit
import Derived.BigFrame
import Derived.WalkMore
import Derived.ScopeJumps
import Derived.StillTailTactics
import Derived.Stop.BytesEq
import Derived.WalkLawsBesides
import Derived.WalkSpells
import Derived.Outline
import Derived.Lib.Walk
import Derived.Lib.Hide
import Derived.Lib.Slices
import Derived.Lib.Strings
import Derived.RegionTactic
import Derived.LoopTactic
import Derived.Below
import Derived.IntWalk
import Derived.Deep.QuietTactic
import Derived.BigQuiet
import Derived.Deep.MidRow
import Derived.Maps.AppendAt
import Derived.Laws.Rows
import Derived.Laws.Tables
import Derived.Deep.WholeRow
import Derived.Deep.Cut
import Derived.Deep.CutRange
import Derived.Lib.SliceRun
import Derived.Laws.MakeOwn
import Derived.Deep.RegionLaw
import Derived.Deep.RegionLawGrows
import Derived.Deep.RegionHeld3
import Derived.RegionCalls
import Derived.Deep.RegionWith
import Derived.Deep.Light
import Derived.Laws.CopyOwn
import Derived.Laws.ResultCell
namespace Go.Proofs.Ytbdbnjbafampaaa
set_option linter.unusedSimpArgs false
set_option linter.unusedVariables false
set_option maxRecDepth 100000
open Go.RowKit
/- The document's Look, Longest, Of. -/
theorem bl_take (t : ByteArray) (k : Nat) : bl (t.extract 0 k) = (bl t).take k := by
  unfold bl
  rw [ByteArray.data_extract]
  simp
theorem ext_len (t : ByteArray) (k : Nat) (h : t.size ≤ 9223372036854775806) : (t.extract 0 k).size ≤ 9223372036854775806 := by
  simp; omega
set_option maxHeartbeats 4000000 in
theorem reflook_any {D : Nat → Prop} {w : World} {d : Df} {ds : Array Value} {p q : Option Addr} {c f : Nat} (t : ByteArray) (hd : DC d ds p q c f) (hm : DM D w d p q c f) (hmay : MayD d) (ht : t.size ≤ 9223372036854775805) :
    Calls Try.prog 100 #[.agg ds, .string t] w fun e w' => e = .returned (.int .i64 (lookF d (bl t) : Nat)) ∧ Below w.heap.size w w' := by
  have S0 := Lib.hid ((Sb.start w).alloc (.cells ds 26))
  have HSZ := Lib.hid hd.sz
  have HST := Lib.hid hd.st
  have HD := Lib.hid hd
  have HM := Lib.hid hm
  have HMAY := Lib.hid hmay
  obtain ⟨R, hR⟩ : ∃ R, lookF d (bl t) = R := ⟨_, rfl⟩
  rw [hR]
  have HR : Hid (lookR d (bl t) t.size 1 = R) := Lib.hid (by rw [← hR]; unfold lookF; rw [bl_len])
  clear hd hm hmay hR
  go_enter Try.func100, Try.ntmps100
  go_wp2_with fail
  go_loopw [5] (fun i wr => ∃ (j m : Nat), i = .int .i64 (j : Nat) ∧ 1 ≤ j ∧ j + m = t.size + 1 ∧ Hid (lookR d (bl t) m j = R) ∧ Hid (Sb w wr [(w.heap.size, .cells ds 26)])) (fun i _ => t.size + 1 - (intOf i).toNat)
  case atStart => exact ⟨1, t.size, rfl, by omega, by omega, HR, S0⟩
  case round =>
  clear S0 HR
  obtain ⟨j, m, rfl, hj, hjm, HW, HS⟩ := hrel
  by_cases hlt : j ≤ t.size
  · obtain ⟨m', rfl⟩ : ∃ m', m = m' + 1 := ⟨m - 1, by omega⟩
    have HW2 : Hid ((if stopAt d (bl t) j = true then j else lookR d (bl t) m' (j + 1)) = R) := HW
    have HSA : Hid (stopAt d (bl t) j = (decide (walkD d d.st ((bl t).take j) < 0) || !onD d (walkD d d.st ((bl t).take j)))) := Lib.hid rfl
    have hwl := walkD_lt HMAY.out ((bl t).take j) d.st (by have := HMAY.out.s0; omega) HMAY.out.s1
    have HWK : Hid (∀ z, Below w.heap.size w z → Calls Try.prog 108 #[.agg ds, .int .i64 d.st, .string (t.extract 0 j)] z fun e w' => e = .returned (.int .i64 (walkD d d.st ((bl t).take j))) ∧ Below z.heap.size z w') := Lib.hid fun z hz => by
      rw [← bl_take]
      exact refwalk_any d.st _ HD.out (HM.out.up hz) HMAY.out HMAY.out.s1 (by have := HMAY.out.s0; omega) (ext_len t j (by omega))
    have HWL := Lib.hid hwl
    have hjI : (j : Int) ≤ (t.size : Int) := by omega
    have hjI0 : (0 : Int) ≤ (j : Int) := by omega
    clear hwl HW
    generalize walkD d d.st ((bl t).take j) = s at *
    generalize stopAt d (bl t) j = sa at *
    have HGO : Hid (∀ z, Below w.heap.size w z → ∀ n : Nat, s = (n : Int) → Calls Try.prog 109 #[.agg ds, .int .i64 (n : Nat)] z fun e w' => e = .returned (.bool (onD d s)) ∧ Below z.heap.size z w') := Lib.hid fun z hz n hn => by
      subst hn
      exact refgoes_any n HD.out (HM.out.up hz) HMAY.out (by have := HWL.out.1; omega)
    go_wp2_with fail
    have hs1 := HS.out.drew
    have HS1 := Lib.hid hs1
    refine wp_region_held_drew (S := fun v => Sb w v [(w.heap.size, .cells ds 26)]) (by kernel_rfl) hs1 (fun hHeld => ?_)
    clear hs1
    refine wpAnyH_take (i := 0) (v := .agg ds) rfl (by kernel_rfl) (by kernel_rfl) (by kernel_rfl) (fun _ _ _ h => h) (yieldsIf_load_D (by rfl) (.tmp 2) rfl w.heap.size rfl (fun v hv => hv.heap) HSZ.out) hHeld ?_
    (try simp only [Act.put, List.getElem_toArray, List.getElem_cons_zero, List.getElem_cons_succ, List.setIfInBounds_toArray, List.set_cons_zero, List.set_cons_succ])
    refine wpAnyH_take (i := 1) (v := .pointer (some ⟨w.heap.size, 0, none⟩)) rfl (by kernel_rfl) (by kernel_rfl) (by kernel_rfl) (fun _ _ _ h => h) (Or.inl ⟨by rfl, by (intro w hSw; (try dsimp only at hSw); go_simp)⟩) hHeld ?_
    (try simp only [Act.put, List.getElem_toArray, List.getElem_cons_zero, List.getElem_cons_succ, List.setIfInBounds_toArray, List.set_cons_zero, List.set_cons_succ])
    refine wpAnyH_take (i := 2) (v := .int .i64 d.st) rfl (by kernel_rfl) (by kernel_rfl) (by kernel_rfl) (fun _ _ _ h => h) (Or.inl ⟨by rfl, by (intro v hv; have h0 : v.cell? ⟨w.heap.size, 0, none⟩ = some (.int .i64 d.st) := (Sb.cell hv 0).trans HST.out; (try dsimp only at hv); clear hv; go_simp)⟩) hHeld ?_
    (try simp only [Act.put, List.getElem_toArray, List.getElem_cons_zero, List.getElem_cons_succ, List.setIfInBounds_toArray, List.set_cons_zero, List.set_cons_succ])
    refine wpAnyH_take (i := 3) (v := .string t) rfl (by kernel_rfl) (by kernel_rfl) (by kernel_rfl) (fun _ _ _ h => h) (Or.inl ⟨by rfl, by (intro w hSw; (try dsimp only at hSw); go_simp)⟩) hHeld ?_
    (try simp only [Act.put, List.getElem_toArray, List.getElem_cons_zero, List.getElem_cons_succ, List.setIfInBounds_toArray, List.set_cons_zero, List.set_cons_succ])
    refine wpAnyH_take (i := 4) (v := .int .i64 (j : Nat)) rfl (by kernel_rfl) (by kernel_rfl) (by kernel_rfl) (fun _ _ _ h => h) (Or.inl ⟨by rfl, by (intro w hSw; (try dsimp only at hSw); go_simp)⟩) hHeld ?_
    (try simp only [Act.put, List.getElem_toArray, List.getElem_cons_zero, List.getElem_cons_succ, List.setIfInBounds_toArray, List.set_cons_zero, List.set_cons_succ])
    refine wpAnyH_take (i := 5) (v := .string (t.extract 0 j)) rfl (by kernel_rfl) (by kernel_rfl) (by kernel_rfl) (fun _ _ _ h => h) (Or.inl ⟨by rfl, by (intro w hSw; (try dsimp only at hSw); go_simp)⟩) hHeld ?_
    (try simp only [Act.put, List.getElem_toArray, List.getElem_cons_zero, List.getElem_cons_succ, List.setIfInBounds_toArray, List.set_cons_zero, List.set_cons_succ])
    refine wpAnyH_ready (rs := [6]) (by kernel_rfl) (by simp) ?_
    refine AllReadyH.cons rfl (fun K hK => ?_) (AllReadyH.nil)
    rw [if_pos (by rfl)]
    go_wp2_with fail
    refine (HWK.out _ HS1.out.1).mono ?_
    rintro _ w2 ⟨rfl, hb⟩
    refine hK.out _ _ (HS1.out.up hb) (fun hHeld2 => ?_)
    clear hHeld hK
    have hHeld := hHeld2
    clear hHeld2
    (try simp only [Act.put, List.getElem_toArray, List.getElem_cons_zero, List.getElem_cons_succ, List.setIfInBounds_toArray, List.set_cons_zero, List.set_cons_succ])
    refine wpAnyH_take (i := 7) (v := .int .i64 s) rfl (by kernel_rfl) (by kernel_rfl) (by kernel_rfl) (fun _ _ _ h => h) (Or.inl ⟨by rfl, by (intro w hSw; (try dsimp only at hSw); go_simp)⟩) hHeld ?_
    (try simp only [Act.put, List.getElem_toArray, List.getElem_cons_zero, List.getElem_cons_succ, List.setIfInBounds_toArray, List.set_cons_zero, List.set_cons_succ])
    refine wpAnyH_done (by kernel_rfl) ?_ _
    have HS2 := Lib.hid (HS1.out.up hb)
    clear hb HWK HS1 HS
    by_cases hs0 : s < 0
    · have HF : Hid (j = R) := Lib.hid (by rw [← HW2.out, HSA.out]; simp [hs0])
      go_wp2_with fail
      go_ret
      exact ⟨by rw [← HF.out]; rfl, HS2.out.1⟩
    · obtain ⟨n, hn⟩ : ∃ n : Nat, s = (n : Int) := ⟨s.toNat, by omega⟩
      have HCC := Lib.hid (HGO.out _ HS2.out.1 n hn)
      have HSA2 : Hid (sa = !onD d s) := Lib.hid (by rw [HSA.out]; simp [hs0])
      obtain ⟨on, hon⟩ : ∃ on, onD d s = on := ⟨_, rfl⟩
      rw [hon] at HCC HSA2
      clear HGO HSA hon
      subst hn
      have HBX : Hid (BX w2 w.heap.size ds) := Lib.hid HS2.out.heap
      go_wp2_with (refine wpList_load_Dg _ rfl w.heap.size ds rfl HBX.out HSZ.out rfl ?_)
      refine HCC.out.mono ?_
      rintro _ w3 ⟨rfl, hb3⟩
      have HS3 := Lib.hid (HS2.out.up hb3)
      clear hb3 HCC HS2 HBX
      cases on with
      | true =>
        have HF : Hid (lookR d (bl t) m' (j + 1) = R) := Lib.hid (by rw [← HW2.out, HSA2.out]; simp)
        clear HW2 HSA2
        go_wp2_with fail
        go_roundw
        case rel => exact ⟨j + 1, m', by go_num, by omega, by omega, HF, HS3⟩
        case measure => simp [intOf]; omega
      | false =>
        have HF : Hid (j = R) := Lib.hid (by rw [← HW2.out, HSA2.out]; simp)
        clear HW2 HSA2
        go_wp2_with fail
        go_ret
        exact ⟨by rw [← HF.out]; rfl, HS3.out.1⟩
  · obtain rfl : m = 0 := by omega
    have hj9 : j = t.size + 1 := by omega
    have HF : Hid (t.size + 1 = R) := Lib.hid (by have := HW.out; rw [lookR] at this; omega)
    have hjI : ¬ (j : Int) ≤ (t.size : Int) := by omega
    clear HW hj9
    go_wp2_with fail
    go_ret
    exact ⟨by rw [← HF.out]; rfl, HS.out.1⟩
set_option maxHeartbeats 4000000 in
theorem reflong_any {D : Nat → Prop} {w : World} {d : Df} {ds : Array Value} {p q : Option Addr} {c f : Nat} (t : ByteArray) (hd : DC d ds p q c f) (hm : DM D w d p q c f) (hmay : MayD d) (ht : t.size ≤ 9223372036854775805) :
    Calls Try.prog 101 #[.agg ds, .string t] w fun e w' => e = .returned (.tuple #[.int .i64 (longR d (bl t) t.size).1, .int .i64 ((longR d (bl t) t.size).2 : Nat)]) ∧ Below w.heap.size w w' := by
  have S0 := Lib.hid ((Sb.start w).alloc (.cells ds 26))
  have HSZ := Lib.hid hd.sz
  have HST := Lib.hid hd.st
  have HD := Lib.hid hd
  have HM := Lib.hid hm
  have HMAY := Lib.hid hmay
  obtain ⟨⟨R1, R2⟩, hR⟩ : ∃ R, longR d (bl t) t.size = R := ⟨_, rfl⟩
  rw [hR]
  simp only []
  have HR := Lib.hid hR
  clear hd hm hmay hR
  go_enter Try.func101, Try.ntmps101
  go_wp2_with fail
  go_loopw [6] (fun i wr => ∃ (j : Nat), i = .int .i64 (j : Nat) ∧ j ≤ t.size ∧ Hid (longR d (bl t) j = (R1, R2)) ∧ Hid (Sb w wr [(w.heap.size, .cells ds 26)])) (fun i _ => (intOf i).toNat)
  case atStart => exact ⟨t.size, rfl, by omega, HR, S0⟩
  case round =>
  clear S0 HR
  obtain ⟨j, rfl, hj, HW, HS⟩ := hrel
  by_cases hlt : 0 < j
  · obtain ⟨i, rfl⟩ : ∃ i, j = i + 1 := ⟨j - 1, by omega⟩
    have HW2 : Hid ((if 0 ≤ rlAt d (walkD d d.st ((bl t).take (i + 1))) then (rlAt d (walkD d d.st ((bl t).take (i + 1))), i + 1) else longR d (bl t) i) = (R1, R2)) := HW
    have hwl := walkD_lt HMAY.out ((bl t).take (i + 1)) d.st (by have := HMAY.out.s0; omega) HMAY.out.s1
    have HWK : Hid (∀ z, Below w.heap.size w z → Calls Try.prog 108 #[.agg ds, .int .i64 d.st, .string (t.extract 0 (i + 1))] z fun e w' => e = .returned (.int .i64 (walkD d d.st ((bl t).take (i + 1)))) ∧ Below z.heap.size z w') := Lib.hid fun z hz => by
      rw [← bl_take]
      exact refwalk_any d.st _ HD.out (HM.out.up hz) HMAY.out HMAY.out.s1 (by have := HMAY.out.s0; omega) (ext_len t (i + 1) (by omega))
    have HRL : Hid (∀ z, Below w.heap.size w z → Calls Try.prog 49 #[.agg ds, .int .i64 (walkD d d.st ((bl t).take (i + 1)))] z fun e w' => e = .returned (.int .i64 (rlAt d (walkD d d.st ((bl t).take (i + 1))))) ∧ Below z.heap.size z w') := Lib.hid fun z hz => refruleat_any _ HD.out (HM.out.up hz) HMAY.out hwl.1
    obtain ⟨J, hJ⟩ : ∃ J, i + 1 = J := ⟨_, rfl⟩
    rw [hJ] at HWK HRL HW2 hj ⊢
    have HJ := Lib.hid hJ
    have hiJ : (J : Int) - 1 = (i : Int) := by omega
    have hjI : (J : Int) ≤ (t.size : Int) := by omega
    have hjI0 : (0 : Int) ≤ (J : Int) := by omega
    have hjI1 : (0 : Int) < (J : Int) := by omega
    clear hwl HW hJ hlt
    generalize walkD d d.st ((bl t).take J) = s at *
    generalize rlAt d s = r at *
    go_wp2_with fail
    have hs1 := HS.out.drew
    have HS1 := Lib.hid hs1
    refine wp_region_held_drew (S := fun v => Sb w v [(w.heap.size, .cells ds 26)]) (by kernel_rfl) hs1 (fun hHeld => ?_)
    clear hs1
    refine wpAnyH_take (i := 0) (v := .agg ds) rfl (by kernel_rfl) (by kernel_rfl) (by kernel_rfl) (fun _ _ _ h => h) (yieldsIf_load_D (by rfl) (.tmp 2) rfl w.heap.size rfl (fun v hv => hv.heap) HSZ.out) hHeld ?_
    (try simp only [Act.put, List.getElem_toArray, List.getElem_cons_zero, List.getElem_cons_succ, List.setIfInBounds_toArray, List.set_cons_zero, List.set_cons_succ])
    refine wpAnyH_take (i := 1) (v := .agg ds) rfl (by kernel_rfl) (by kernel_rfl) (by kernel_rfl) (fun _ _ _ h => h) (yieldsIf_load_D (by rfl) (.tmp 2) rfl w.heap.size rfl (fun v hv => hv.heap) HSZ.out) hHeld ?_
    (try simp only [Act.put, List.getElem_toArray, List.getElem_cons_zero, List.getElem_cons_succ, List.setIfInBounds_toArray, List.set_cons_zero, List.set_cons_succ])
    refine wpAnyH_take (i := 2) (v := .pointer (some ⟨w.heap.size, 0, none⟩)) rfl (by kernel_rfl) (by kernel_rfl) (by kernel_rfl) (fun _ _ _ h => h) (Or.inl ⟨by rfl, by (intro w hSw; (try dsimp only at hSw); go_simp)⟩) hHeld ?_
    (try simp only [Act.put, List.getElem_toArray, List.getElem_cons_zero, List.getElem_cons_succ, List.setIfInBounds_toArray, List.set_cons_zero, List.set_cons_succ])
    refine wpAnyH_take (i := 3) (v := .int .i64 d.st) rfl (by kernel_rfl) (by kernel_rfl) (by kernel_rfl) (fun _ _ _ h => h) (Or.inl ⟨by rfl, by (intro v hv; have h0 : v.cell? ⟨w.heap.size, 0, none⟩ = some (.int .i64 d.st) := (Sb.cell hv 0).trans HST.out; (try dsimp only at hv); clear hv; go_simp)⟩) hHeld ?_
    (try simp only [Act.put, List.getElem_toArray, List.getElem_cons_zero, List.getElem_cons_succ, List.setIfInBounds_toArray, List.set_cons_zero, List.set_cons_succ])
    refine wpAnyH_take (i := 4) (v := .string t) rfl (by kernel_rfl) (by kernel_rfl) (by kernel_rfl) (fun _ _ _ h => h) (Or.inl ⟨by rfl, by (intro w hSw; (try dsimp only at hSw); go_simp)⟩) hHeld ?_
    (try simp only [Act.put, List.getElem_toArray, List.getElem_cons_zero, List.getElem_cons_succ, List.setIfInBounds_toArray, List.set_cons_zero, List.set_cons_succ])
    refine wpAnyH_take (i := 5) (v := .int .i64 (J : Nat)) rfl (by kernel_rfl) (by kernel_rfl) (by kernel_rfl) (fun _ _ _ h => h) (Or.inl ⟨by rfl, by (intro w hSw; (try dsimp only at hSw); go_simp)⟩) hHeld ?_
    (try simp only [Act.put, List.getElem_toArray, List.getElem_cons_zero, List.getElem_cons_succ, List.setIfInBounds_toArray, List.set_cons_zero, List.set_cons_succ])
    refine wpAnyH_take (i := 6) (v := .string (t.extract 0 J)) rfl (by kernel_rfl) (by kernel_rfl) (by kernel_rfl) (fun _ _ _ h => h) (Or.inl ⟨by rfl, by (intro w hSw; (try dsimp only at hSw); go_simp)⟩) hHeld ?_
    (try simp only [Act.put, List.getElem_toArray, List.getElem_cons_zero, List.getElem_cons_succ, List.setIfInBounds_toArray, List.set_cons_zero, List.set_cons_succ])
    refine wpAnyH_ready (rs := [7]) (by kernel_rfl) (by simp) ?_
    refine AllReadyH.cons rfl (fun K hK => ?_) (AllReadyH.nil)
    rw [if_pos (by rfl)]
    go_wp2_with fail
    refine (HWK.out _ HS1.out.1).mono ?_
    rintro _ w2 ⟨rfl, hb⟩
    refine hK.out _ _ (HS1.out.up hb) (fun hHeld2 => ?_)
    clear hHeld hK
    have hHeld := hHeld2
    clear hHeld2
    (try simp only [Act.put, List.getElem_toArray, List.getElem_cons_zero, List.getElem_cons_succ, List.setIfInBounds_toArray, List.set_cons_zero, List.set_cons_succ])
    have HS2 := Lib.hid (HS1.out.up hb)
    clear hb HWK HS1 HS
    refine wpAnyH_ready (rs := [8]) (by kernel_rfl) (by simp) ?_
    refine AllReadyH.cons rfl (fun K hK => ?_) (AllReadyH.nil)
    rw [if_pos (by rfl)]
    go_wp2_with fail
    refine (HRL.out _ HS2.out.1).mono ?_
    rintro _ w3 ⟨rfl, hb⟩
    refine hK.out _ _ (HS2.out.up hb) (fun hHeld2 => ?_)
    clear hHeld hK
    have hHeld := hHeld2
    clear hHeld2
    (try simp only [Act.put, List.getElem_toArray, List.getElem_cons_zero, List.getElem_cons_succ, List.setIfInBounds_toArray, List.set_cons_zero, List.set_cons_succ])
    have HS3 := Lib.hid (HS2.out.up hb)
    clear hb HRL HS2
    refine wpAnyH_take (i := 9) (v := .int .i64 r) rfl (by kernel_rfl) (by kernel_rfl) (by kernel_rfl) (fun _ _ _ h => h) (Or.inl ⟨by rfl, by (intro w hSw; (try dsimp only at hSw); go_simp)⟩) hHeld ?_
    (try simp only [Act.put, List.getElem_toArray, List.getElem_cons_zero, List.getElem_cons_succ, List.setIfInBounds_toArray, List.set_cons_zero, List.set_cons_succ])
    refine wpAnyH_done (by kernel_rfl) ?_ _
    by_cases hr0 : 0 ≤ r
    · have hr0' : ¬ r < 0 := by omega
      have HF : Hid (r = R1 ∧ J = R2) := Lib.hid (by have := HW2.out; rw [if_pos hr0] at this; injection this with h1 h2; exact ⟨h1, h2⟩)
      clear HW2
      go_wp2_with fail
      refine bodyPost_ret (v := .tuple #[.int .i64 r, .int .i64 (J : Nat)]) (by simp [results, Try.results101, go_sem]) rfl ⟨?_, HS3.out.1⟩
      rw [HF.out.1, HF.out.2]
    · have hr0' : r < 0 := by omega
      have HF : Hid (longR d (bl t) i = (R1, R2)) := Lib.hid (by have := HW2.out; rwa [if_neg hr0] at this)
      clear HW2
      go_wp2_with fail
      go_roundw
      case rel => exact ⟨i, rfl, by omega, HF, HS3⟩
      case measure => have := HJ.out; simp [intOf]; omega
  · obtain rfl : j = 0 := by omega
    have HF : Hid ((-1 : Int) = R1 ∧ 0 = R2) := Lib.hid (by have := HW.out; rw [longR] at this; injection this with h1 h2; exact ⟨h1, h2⟩)
    clear HW
    go_wp2_with fail
    refine bodyPost_ret (v := .tuple #[.int .i64 (-1), .int .i64 0]) (by simp [results, Try.results101, go_sem]) rfl ⟨?_, HS.out.1⟩
    rw [← HF.out.1, ← HF.out.2]; rfl
end Go.Proofs.Ytbdbnjbafampaaa
