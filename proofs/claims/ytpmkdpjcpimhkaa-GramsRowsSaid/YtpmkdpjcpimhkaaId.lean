/- Package grams. -/
import Derived.Test.YtpmkdpjcpimhkaaProg
import Derived.Test.YtpmkdpjcpimhkaaId0
import Derived.Deep.SlicePairs
import Derived.Deep.Slices
import Derived.Laws.IdiomArrays
import Derived.OpenShut
import Derived.WideBlind
import Derived.Great.BuildSlice
import Derived.WalkKit
import Derived.Maps.OwnSet
import Derived.Maps.OwnOps
import Derived.Maps.Own
import Derived.DeepKeys5
import Derived.BigFrame
import Derived.WalkMore
import Derived.ScopeJumps
import Derived.StillTailTactics
import Derived.Stop.BytesEq
import Derived.WalkLawsBesides
import Derived.WalkSpells
import Derived.Outline
import Derived.Lib.Walk
import Derived.Lib.Hide
import Derived.Lib.Slices
import Derived.Lib.Strings
import Derived.RegionTactic
import Derived.LoopTactic
import Derived.Below
import Derived.IntWalk
import Derived.Deep.QuietTactic
import Derived.BigQuiet
import Derived.Deep.MidRow
import Derived.Maps.AppendAt
import Derived.Laws.Rows
import Derived.Laws.Tables
import Derived.Deep.WholeRow
import Derived.Deep.Cut
import Derived.Deep.CutRange
import Derived.Lib.SliceRun
import Derived.Laws.MakeOwn
import Derived.Deep.RegionLaw
import Derived.Deep.RegionLawGrows
import Derived.Deep.RegionHeld3
import Derived.RegionCalls
import Derived.Deep.RegionWith
import Derived.Deep.Light
import Derived.Laws.CopyOwn
import Derived.Laws.ResultCell
namespace Go.Proofs.Ytpmkdpjcpimhkaa
set_option linter.unusedSimpArgs false
set_option linter.unusedVariables false
set_option maxRecDepth 100000
open Go.RowKit
/- begins. -/
open Go.Maps
theorem begWs_take (l : List Pr) (j : Nat) (h : j < l.length) : begWs (l.take (j + 1)) = begWs (l.take j) ++ [(l[j].bd.headD 0, l[j].hd)] := by
  unfold begWs
  rw [List.take_add_one, List.getElem?_eq_getElem h, List.map_append]; rfl
set_option maxHeartbeats 16000000 in
theorem begins_any {D : Nat → Prop} {w : World} {g : Gr} {p : Option Addr} {c : Nat} (hg : GM D w g.ps p) (hn : NumOk g) (hne : ∀ p ∈ g.ps, p.bd ≠ []) :
    Calls Try.prog 47 #[.agg #[.int .i64 g.t, .int .i64 g.s, .int .i64 g.st, .slice p g.ps.length c]] w fun e w' => e = .returned (.agg (tC (tbW (fun s x => Beg g s x)))) ∧ Below w.heap.size w w' := by
  obtain ⟨i0, hi, hiz0, hiz1, hiz2⟩ := info_parts info70
  have h1 := hn.t1; have h2 := hn.t2; have h3 := hn.s1; have h4 := hn.s2
  have hz3 := zero38
  have hz5 := zero54
  have hRes : tbW (Lead (begWs g.ps) (begT0 g.t.toNat)) = tbW (fun s x => Beg g s x) := tbW_congr fun s x _ _ => beg_sem hn hne s x
  have HWS := Lib.hid (begWs_ok hn hne)
  have hnl : g.ps.length ≤ 64 := hn.n2
  have HNE := Lib.hid hne
  rw [← hRes]
  obtain ⟨b1, hb1⟩ : ∃ b, w.heap.size = b := ⟨_, rfl⟩
  have HBE := Lib.hid hb1
  have S0 := Lib.hid ((Sep.start w).allocAt hb1 (.cells (gC g p c) 24))
  have hgc : gC g p c = #[.int .i64 g.t, .int .i64 g.s, .int .i64 g.st, .slice p g.ps.length c] := rfl
  have HG := Lib.hid hg
  obtain ⟨t, ht⟩ : ∃ t : Nat, (t : Int) = g.t := ⟨g.t.toNat, by omega⟩
  have htn : g.t.toNat = t := by omega
  have ht32 : t ≤ 32 := by omega
  obtain ⟨l, hl⟩ : ∃ l, g.ps = l := ⟨_, rfl⟩
  rw [hl] at hnl HG hgc HWS HNE ⊢
  rw [htn]
  rw [← ht] at hgc ⊢
  generalize g.s = s at hgc ⊢
  generalize g.st = st at hgc ⊢
  rw [hgc] at S0
  obtain ⟨b2, hb2⟩ : ∃ b, (w.alloc (.cells #[.int .i64 (t : Nat), .int .i64 s, .int .i64 st, .slice p l.length c] 24)).heap.size = b := ⟨_, rfl⟩
  have S1 := Lib.hid (S0.out.allocAt hb2 (.cells (tC z64) 54))
  have hT0 := begT0_zero
  obtain ⟨R, hR⟩ : ∃ R, tbW (Lead (begWs l) (begT0 t)) = R := ⟨_, rfl⟩
  have HR := Lib.hid hR
  have HRL := Lib.hid (show R.length = 64 by rw [← hR]; exact tbW_len _)
  rw [hR]
  clear h1 h2 h3 h4 hn hne hRes hg hR S0 ht htn hl hgc
  go_enter Try.func47, Try.ntmps47
  go_upto_region 1 with fail
  refine at_world (fun v => Sep b1 w v [bxT b2 z64, .box b1 (.cells #[.int .i64 (t : Nat), .int .i64 s, .int .i64 st, .slice p l.length c] 24 (0, 0))]) (HBE.out ▸ S1.out) fun y1 hy1 => ?_
  obtain ⟨b3, hb3⟩ : ∃ b, y1.heap.size = b := ⟨_, rfl⟩
  have S2 := Lib.hid (hy1.allocAt hb3 (.cells (tC z64) 54))
  clear hy1 S1 hb1 hb2
  go_upto_region 2 with fail
  refine at_world (fun v => Sep b1 w v [bxT b3 (begT0 0), bxT b2 z64, .box b1 (.cells #[.int .i64 (t : Nat), .int .i64 s, .int .i64 st, .slice p l.length c] 24 (0, 0))]) (by rw [hT0]; exact S2.out) fun y2 hy2 => ?_
  have S3 := Lib.hid hy2
  clear hy2 S2 hb3 hT0
  have k0 : y2.cell? ⟨b1, 0, none⟩ = some (.int .i64 (t : Nat)) := (S3.out.tl.tl.boxAt 0).trans rfl
  go_upto_region 3 with fail
  clear k0
  go_loopw [10] (fun i wr => ∃ (j : Nat), i = .int .i64 (j : Nat) ∧ j ≤ t ∧ Hid (Sep b1 w wr [bxT b3 (begT0 j), bxT b2 z64, .box b1 (.cells #[.int .i64 (t : Nat), .int .i64 s, .int .i64 st, .slice p l.length c] 24 (0, 0))])) (fun i _ => t - (intOf i).toNat)
  case atStart => exact ⟨0, rfl, by omega, S3⟩
  case round =>
  clear S3
  obtain ⟨j, rfl, hj, HS⟩ := hrel
  obtain ⟨wo, rfl⟩ : ∃ wo : World, wo = wr := ⟨_, rfl⟩
  by_cases hlt : j < t
  · have hltI : (j : Int) < (t : Int) := by omega
    have hjI : ¬ (j : Int) < 0 := by omega
    have hj64 : (j : Int) < 64 := by omega
    have H1 := Lib.hid (one_any (by omega : (0 : Int) ≤ (j : Int)) hj64 wo)
    rw [Int.toNat_natCast] at H1
    have e0 : wo.cell? ⟨b3, j, none⟩ = _ := (HS.out.boxAt j).trans (tC_get (begT0 j) (by rw [begT0_len]; omega))
    have ef : wo.frozen? ⟨b3, j, none⟩ = false := HS.out.fz j
    have S4 := Lib.hid (HS.out.setc j (.int .u64 ((2 ^ j : Nat) : Int)))
    rw [tC_set, begT0_succ (by omega)] at S4
    generalize (begT0 j).getD j 0 = old at e0
    generalize 2 ^ j = pw at H1 S4
    clear HS
    go_wp2_with fail
    refine H1.out.mono ?_
    rintro _ w1 ⟨rfl, rfl⟩
    go_wp2_with fail
    go_roundw
    case rel => exact ⟨j + 1, by go_num, by omega, S4⟩
    case measure => simp [intOf]; omega
  · obtain rfl : j = t := by omega
    have hltI : ¬ (j : Int) < (j : Int) := by omega
    have k3 : wo.cell? ⟨b1, 3, none⟩ = some (.slice p l.length c) := (HS.out.tl.tl.boxAt 3).trans rfl
    have S4 : Hid (Sep b1 w wo [rwW (.slice none 0 0) (begWs (l.take 0)), bxT b3 (begT0 j), bxT b2 z64, .box b1 (.cells #[.int .i64 (j : Nat), .int .i64 s, .int .i64 st, .slice p l.length c] 24 (0, 0))]) := Lib.hid (HS.out.none_ 70 2)
    clear HS hlt
    go_upto_region 9 with fail
    clear k3
    go_loopw [5, 21] (fun v i wr => ∃ (k : Nat), i = .int .i64 (k : Nat) ∧ k ≤ l.length ∧ Hid (Sep b1 w wr [rwW v (begWs (l.take k)), bxT b3 (begT0 j), bxT b2 z64, .box b1 (.cells #[.int .i64 (j : Nat), .int .i64 s, .int .i64 st, .slice p l.length c] 24 (0, 0))])) (fun _ i _ => l.length - (intOf i).toNat)
    case atStart => exact ⟨0, rfl, by omega, S4⟩
    case round =>
    clear S4
    obtain ⟨k, rfl, hk, HS⟩ := hrel
    obtain ⟨wo, rfl⟩ : ∃ wo : World, wo = wr := ⟨_, rfl⟩
    obtain ⟨pv, cv, hv⟩ := rowF_ HS.out.at
    subst hv
    by_cases hlt : k < l.length
    · have hltI : (k : Int) < (l.length : Int) := by omega
      have hkI : ¬ (k : Int) < 0 := by omega
      obtain ⟨bb, o, q, d, rfl, hbb, c0, c1, c2, hiv, hbdl, hmem⟩ := (HG.out.up (HBE.out ▸ HS.out.bel)).at hlt
      have hbw := begWs_take l k hlt
      have hwl : (begWs (l.take k)).length = k := by unfold begWs; rw [List.length_map, List.length_take]; omega
      obtain ⟨x, hxx⟩ : ∃ x, l[k] = x := ⟨_, rfl⟩
      rw [hxx] at c0 c1 c2 hiv hbdl hmem hbw
      have hne := HNE.out x hmem
      have hl0 : 0 < x.bd.length := List.length_pos_iff.2 hne
      obtain ⟨q', d', he, hh⟩ := hiv
      injection he with e1 e2 e3
      subst e1 e3
      obtain ⟨b9, o9, rfl, hD9, hc9⟩ := hh hne
      have c9 := hc9 0 hl0
      have hhd := hd_get hl0
      have hn0 : ¬ x.bd.length = 0 := by omega
      rw [hhd, Nat.add_zero] at c9
      have hb9 : b9 < b1 := by rw [← HBE.out]; exact HG.out.lt b9 hD9
      have c9w : w.cell? ⟨b9, o9, none⟩ = some (.int .i64 (x.bd.headD 0)) := (cell_same (HS.out.bel.block b9 hb9) _).symm.trans c9
      obtain ⟨b7, hb7⟩ : ∃ b, wo.heap.size = b := ⟨_, rfl⟩
      have S5 := Lib.hid (HS.out.allocAt hb7 (.cells #[.int .i64 x.hd, .slice (some ⟨b9, o9, none⟩) x.bd.length d, .bool x.rt] 38))
      obtain ⟨ws, hws⟩ : ∃ ws, begWs (l.take k) = ws := ⟨_, rfl⟩
      rw [hws] at hbw hwl S5 ⊢
      have HBW := Lib.hid hbw
      have hl0I : (0 : Int) < (x.bd.length : Int) := by omega
      generalize x.hd = hd at c0 S5 HBW ⊢
      generalize x.bd.headD 0 = fy at c9w HBW
      generalize x.bd.length = n at c1 S5 hl0I hn0 ⊢
      generalize x.rt = rt at c2 S5 ⊢
      rw [hwl] at S5 ⊢
      have HWL := Lib.hid hwl
      clear HS hh hc9 e2 hws hbw hmem hbdl hhd c9 hwl hxx
      go_upto_region 11 with fail
      refine at_world (fun v => Sep b1 w v [.box b7 (.cells #[.int .i64 hd, .slice (some ⟨b9, o9, none⟩) n d, .bool rt] 38 (0, 0)), rwW (.slice pv k cv) ws, bxT b3 (begT0 j), bxT b2 z64, .box b1 (.cells #[.int .i64 (j : Nat), .int .i64 s, .int .i64 st, .slice (some ⟨bb, o, none⟩) l.length c] 24 (0, 0))]) S5.out fun y8 hy8 => ?_
      have S6 := Lib.hid hy8
      have HSK : Hid (∀ (v : World) (M : List It), Sep b1 w v M → .box b7 (.cells #[.int .i64 hd, .slice (some ⟨b9, o9, none⟩) n d, .bool rt] 38 (0, 0)) ∈ M → v.cell? ⟨b7, 0, none⟩ = some (.int .i64 hd) ∧ v.cell? ⟨b7, 1, none⟩ = some (.slice (some ⟨b9, o9, none⟩) n d) ∧ v.cell? ⟨b9, o9, none⟩ = some (.int .i64 fy)) := Lib.hid (fun v M hs hmem => ⟨(cell_of_row v b7 0 _ 38 (0, 0) (hs.li _ hmem).2).trans rfl, (cell_of_row v b7 1 _ 38 (0, 0) (hs.li _ hmem).2).trans rfl, cell_up c9w hs.bel hb9⟩)
      clear hy8 S5 hb7 c0 c1 c2 c9w
      have SD := Lib.hid S6.out.drew
      refine wp_region_held_drew (S := fun v => v.cell? ⟨b7, 0, none⟩ = some (.int .i64 hd) ∧ v.cell? ⟨b7, 1, none⟩ = some (.slice (some ⟨b9, o9, none⟩) n d) ∧ v.cell? ⟨b9, o9, none⟩ = some (.int .i64 fy)) (by kernel_rfl) (HSK.out _ _ SD.out (by simp)) (fun hHeld => ?_)
      refine wpAnyH_take (i := 0) (v := (.slice pv k cv)) rfl (by kernel_rfl) (by kernel_rfl) (by kernel_rfl) (fun _ _ _ h => h) (Or.inl ⟨by rfl, by (intro w hSw; (try dsimp only at hSw); go_simp)⟩) hHeld ?_
      (try simp only [Act.put, List.getElem_toArray, List.getElem_cons_zero, List.getElem_cons_succ, List.setIfInBounds_toArray, List.set_cons_zero, List.set_cons_succ])
      refine wpAnyH_take (i := 1) (v := (.pointer (some ⟨b7, 1, none⟩))) rfl (by kernel_rfl) (by kernel_rfl) (by kernel_rfl) (fun _ _ _ h => h) (Or.inl ⟨by rfl, by (intro w hSw; (try dsimp only at hSw); go_simp)⟩) hHeld ?_
      (try simp only [Act.put, List.getElem_toArray, List.getElem_cons_zero, List.getElem_cons_succ, List.setIfInBounds_toArray, List.set_cons_zero, List.set_cons_succ])
      refine wpAnyH_take (i := 2) (v := (.slice (some ⟨b9, o9, none⟩) n d)) rfl (by kernel_rfl) (by kernel_rfl) (by kernel_rfl) (fun _ _ _ h => h) (Or.inl ⟨by rfl, by (intro w9 hSw; (try dsimp only at hSw); have c9_ := hSw.2.1; go_simp)⟩) hHeld ?_
      (try simp only [Act.put, List.getElem_toArray, List.getElem_cons_zero, List.getElem_cons_succ, List.setIfInBounds_toArray, List.set_cons_zero, List.set_cons_succ])
      refine wpAnyH_take (i := 3) (v := (.pointer (some ⟨b9, o9, none⟩))) rfl (by kernel_rfl) (by kernel_rfl) (by kernel_rfl) (fun _ _ _ h => h) (Or.inl ⟨by rfl, by (intro w hSw; (try dsimp only at hSw); go_simp)⟩) hHeld ?_
      (try simp only [Act.put, List.getElem_toArray, List.getElem_cons_zero, List.getElem_cons_succ, List.setIfInBounds_toArray, List.set_cons_zero, List.set_cons_succ])
      refine wpAnyH_take (i := 4) (v := (.int .i64 fy)) rfl (by kernel_rfl) (by kernel_rfl) (by kernel_rfl) (fun _ _ _ h => h) (Or.inl ⟨by rfl, by (intro w9 hSw; (try dsimp only at hSw); have c9_ := hSw.2.2; go_simp)⟩) hHeld ?_
      (try simp only [Act.put, List.getElem_toArray, List.getElem_cons_zero, List.getElem_cons_succ, List.setIfInBounds_toArray, List.set_cons_zero, List.set_cons_succ])
      refine wpAnyH_take (i := 5) (v := (.pointer (some ⟨b7, 0, none⟩))) rfl (by kernel_rfl) (by kernel_rfl) (by kernel_rfl) (fun _ _ _ h => h) (Or.inl ⟨by rfl, by (intro w hSw; (try dsimp only at hSw); go_simp)⟩) hHeld ?_
      (try simp only [Act.put, List.getElem_toArray, List.getElem_cons_zero, List.getElem_cons_succ, List.setIfInBounds_toArray, List.set_cons_zero, List.set_cons_succ])
      refine wpAnyH_take (i := 6) (v := (.int .i64 hd)) rfl (by kernel_rfl) (by kernel_rfl) (by kernel_rfl) (fun _ _ _ h => h) (Or.inl ⟨by rfl, by (intro w9 hSw; (try dsimp only at hSw); have c9_ := hSw.1; go_simp)⟩) hHeld ?_
      (try simp only [Act.put, List.getElem_toArray, List.getElem_cons_zero, List.getElem_cons_succ, List.setIfInBounds_toArray, List.set_cons_zero, List.set_cons_succ])
      refine wpAnyH_take (i := 7) (v := (.agg #[.int .i64 fy, .int .i64 hd])) rfl (by kernel_rfl) (by kernel_rfl) (by kernel_rfl) (fun _ _ _ h => h) (Or.inl ⟨by rfl, by (intro w hSw; (try dsimp only at hSw); go_simp)⟩) hHeld ?_
      (try simp only [Act.put, List.getElem_toArray, List.getElem_cons_zero, List.getElem_cons_succ, List.setIfInBounds_toArray, List.set_cons_zero, List.set_cons_succ])
      have SH := Lib.hid (SD.out.up ((Below.refl _ _).alloc (Nat.le_refl _) (.cells #[.int .i64 fy, .int .i64 hd] 70)))
      refine wpAnyH_ready (rs := [8]) (by kernel_rfl) (by simp) ?_
      refine AllReadyH.cons rfl (fun K9 hK => ?_) (AllReadyH.nil)
      rw [if_pos (by rfl)]
      go_wp2_with fail
      refine hK.out _ _ (HSK.out _ _ SH.out (by simp)) (fun hHeld2 => ?_)
      clear hHeld hK
      have hHeld := hHeld2
      clear hHeld2
      (try simp only [Act.put, List.getElem_toArray, List.getElem_cons_zero, List.getElem_cons_succ, List.setIfInBounds_toArray, List.set_cons_zero, List.set_cons_succ])
      refine wpAnyH_ready (rs := [9]) (by kernel_rfl) (by simp) ?_
      refine AllReadyH.cons rfl (fun K9 hK => ?_) (AllReadyH.nil)
      rw [if_pos (by rfl)]
      refine wp_append_own (.tmp 25) (.tmp 33) 68 rfl b1 70 i0 (.agg #[.int .i64 0, .int .i64 0]) 2 16 Try.underlying68 hi hiz0 hiz1 hiz2 rfl (by decide) (.slice pv k cv) ws.length (zw ws) rfl (SH.out.li (rwW (.slice pv k cv) ws) (by simp)) ⟨y8.drew.heap.size, 0, none⟩ 1 1 [.int .i64 fy, .int .i64 hd] rfl rfl ?e2 ?e3 ?e4 ?e5 ?e6 ?_
      case e2 => exact new_pair y8.drew _ _ 70
      case e3 => simp [Value.oneCell']
      case e4 => have := HWL.out; unfold maxLen; omega
      case e5 => have := HWL.out; omega
      case e6 => exact SH.out.sz
      intro v' wa hown hgrow hat
      have hs7 := Sep.wayAt [_] SH.out hown hgrow hat
      rw [← HBW.out] at hs7
      have S7 := Lib.hid hs7
      clear hs7 hown hgrow hat SH
      refine hK.out _ _ (HSK.out _ _ S7.out (by simp)) (fun hHeld2 => ?_)
      clear hHeld hK
      have hHeld := hHeld2
      clear hHeld2
      (try simp only [Act.put, List.getElem_toArray, List.getElem_cons_zero, List.getElem_cons_succ, List.setIfInBounds_toArray, List.set_cons_zero, List.set_cons_succ])
      refine wpAnyH_take (i := 10) (v := v') rfl (by kernel_rfl) (by kernel_rfl) (by kernel_rfl) (fun _ _ _ h => h) (Or.inl ⟨by rfl, by (intro w hSw; (try dsimp only at hSw); go_simp)⟩) hHeld ?_
      (try simp only [Act.put, List.getElem_toArray, List.getElem_cons_zero, List.getElem_cons_succ, List.setIfInBounds_toArray, List.set_cons_zero, List.set_cons_succ])
      refine wpAnyH_done (by kernel_rfl) ?_ _
      clear hHeld
      go_wp2_with fail
      go_roundw
      case rel => exact ⟨k + 1, by go_num, by omega, Lib.hid (Sep.tl S7.out)⟩
      case measure => simp [intOf]; omega
    · obtain rfl : k = l.length := by omega
      have hltI : ¬ (l.length : Int) < (l.length : Int) := by omega
      have hS := HS.out
      rw [List.take_length] at hS
      have HX := Lib.hid hS
      obtain ⟨pw, cw, hpw, hwv, hwm⟩ := wv_of hS.at
      injection hpw with e1 e2 e3
      subst e1 e3
      have HC := Lib.hid (led_any (c := cv) hwv HWS.out (begT0_ok (by omega : j ≤ 64)) (by unfold begWs; rw [List.length_map]; omega))
      rw [HR.out, ← e2] at HC
      have HTL := Lib.hid (begT0_len j)
      obtain ⟨T0, hT0⟩ : ∃ T, begT0 j = T := ⟨_, rfl⟩
      rw [hT0] at HC HTL HX
      have H3 : Hid (wo.heap[b3]? = some (.cells (tC T0) 54)) := Lib.hid HX.out.tl.at.2
      rw [List.take_length]
      generalize (begWs l).length = n9 at HC ⊢
      clear hS hwv hwm e2 hT0 HS hlt
      go_wp2_with (refine wpList_load_T rfl (.tmp 3) rfl b3 T0 rfl HTL.out H3.out ?_)
      refine HC.out.mono ?_
      rintro _ w1 ⟨rfl, hb1⟩
      have S4 := Lib.hid (HX.out.up hb1)
      have H2 : Hid (w1.heap[b2]? = some (.cells (tC z64) 54)) := Lib.hid S4.out.tl.tl.at.2
      clear hb1 H3
      go_wp2_with (refine wpList_store_row rfl 54 (.tmp 2) (.tmp 38) rfl b2 (tC R) rfl rfl 54 _ H2.out (by rw [info54, tC_size, HRL.out]) (by rw [tC_size, tC_size, HRL.out, z64_ok.ln]) (tC_one _) ?_)
      refine bodyPost_ret (v := .agg (tC R)) (results_T rfl _ _ b2 R rfl (setRow_heap _ b2 _ _ 54 (0, 0) H2.out) HRL.out) rfl ⟨rfl, ?_⟩
      rw [HBE.out]
      exact (S4.out.tl.tl.putRow (tC R)).bel
end Go.Proofs.Ytpmkdpjcpimhkaa
