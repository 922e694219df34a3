/- Package grams. -/
import Derived.Test.YtpmkdpjcpimhkaaProg
import Derived.Test.YtpmkdpjcpimhkaaIu0
import Derived.Deep.SlicePairs
import Derived.Deep.Slices
import Derived.Laws.IdiomArrays
import Derived.OpenShut
import Derived.WideBlind
import Derived.Great.BuildSlice
import Derived.WalkKit
import Derived.Maps.OwnSet
import Derived.Maps.OwnOps
import Derived.Maps.Own
import Derived.DeepKeys5
import Derived.BigFrame
import Derived.WalkMore
import Derived.ScopeJumps
import Derived.StillTailTactics
import Derived.Stop.BytesEq
import Derived.WalkLawsBesides
import Derived.WalkSpells
import Derived.Outline
import Derived.Lib.Walk
import Derived.Lib.Hide
import Derived.Lib.Slices
import Derived.Lib.Strings
import Derived.RegionTactic
import Derived.LoopTactic
import Derived.Below
import Derived.IntWalk
import Derived.Deep.QuietTactic
import Derived.BigQuiet
import Derived.Deep.MidRow
import Derived.Maps.AppendAt
import Derived.Laws.Rows
import Derived.Laws.Tables
import Derived.Deep.WholeRow
import Derived.Deep.Cut
import Derived.Deep.CutRange
import Derived.Lib.SliceRun
import Derived.Laws.MakeOwn
import Derived.Deep.RegionLaw
import Derived.Deep.RegionLawGrows
import Derived.Deep.RegionHeld3
import Derived.RegionCalls
import Derived.Deep.RegionWith
import Derived.Deep.Light
import Derived.Laws.CopyOwn
import Derived.Laws.ResultCell
namespace Go.Proofs.Ytpmkdpjcpimhkaa
set_option linter.unusedSimpArgs false
set_option linter.unusedVariables false
set_option maxRecDepth 100000
open Go.RowKit
/- GramsGrow. -/
open Go.Maps
set_option maxHeartbeats 16000000 in
theorem grow_any {D : Nat → Prop} {w : World} {g : Gr} {p : Option Addr} {c : Nat} {r : Pr} {q : Option Addr} {d : Nat} (sym : Int) (hg : GM D w g.ps p) (hc : g.ps.length ≤ c) (hrv : IV D w r.bd (.slice q r.bd.length d)) (hrl : r.bd.length ≤ 9223372036854775806) (hrc : r.bd.length ≤ d) :
    Calls Try.prog 11 #[.agg #[.int .i64 g.t, .int .i64 g.s, .int .i64 g.st, .slice p g.ps.length c], .agg #[.int .i64 r.hd, .slice q r.bd.length d, .bool r.rt], .int .i64 sym] w fun e w' => e = .returned (.bool true) ∧ Below w.heap.size w w' := by
  obtain ⟨i0, hi, hiz0, hiz1, hiz2⟩ := info_parts info38b
  have HG := Lib.hid hg
  have hz3 := zero38
  have hz2 := zero24
  obtain ⟨zs0, hzm, hzk, hzc⟩ := zs_of hg
  have HZK : Hid (ZOk D w (zs0 ++ [(r, (q, d))])) := Lib.hid (fun z hz => by
    rcases List.mem_append.1 hz with h | h
    · exact hzk z h
    · rw [List.mem_singleton.1 h]; exact ⟨hrv, hrl, hrc⟩)
  have HZM : Hid ((zs0 ++ [(r, (q, d))]).map (fun z => z.1) = (moG g r).ps) := Lib.hid (by rw [List.map_append, hzm]; rfl)
  have hzl : zs0.length = g.ps.length := by rw [← hzm, List.length_map]
  have HZC : Hid (∀ y, Below w.heap.size w y → zs0 ≠ [] → ∃ b o, p = some ⟨b, o, none⟩ ∧ ∀ j v, (zP zs0)[j]? = some v → y.cell? ((⟨b, o, none⟩ : Addr).add j) = some v) := Lib.hid (fun y hy hne => by
    obtain ⟨b, o, hp, hD, hcc⟩ := hzc (fun e => hne (by rw [e] at hzm; exact List.map_eq_nil_iff.1 hzm))
    exact ⟨b, o, hp, fun j v hj => by
      have h := hcc j v hj
      rw [Addr.add_mid] at h ⊢
      exact cell_up h hy (hg.lt b hD)⟩)
  obtain ⟨z, hz⟩ : ∃ z : Zp, (r, (q, d)) = z := ⟨_, rfl⟩
  have HZZ : Hid (([.int .i64 r.hd, .slice q r.bd.length d, .bool r.rt] : List Value) = [.int .i64 z.1.hd, .slice z.2.1 z.1.bd.length z.2.2, .bool z.1.rt]) := Lib.hid (by rw [← hz])
  rw [hz] at HZK HZM
  have HZL := Lib.hid hzl
  obtain ⟨Z1, hZ1⟩ : ∃ Z, zs0 ++ [z] = Z := ⟨_, rfl⟩
  have HZ1 := Lib.hid hZ1
  have HZ1L : Hid (Z1.length = zs0.length + 1) := Lib.hid (by rw [← hZ1, List.length_append]; rfl)
  rw [hZ1] at HZK HZM
  obtain ⟨b1, hb1⟩ : ∃ b, w.heap.size = b := ⟨_, rfl⟩
  have HBE := Lib.hid hb1
  have S0 := Lib.hid ((Sep.start w).allocAt hb1 (.cells (gC g p c) 24))
  obtain ⟨b4, hb4⟩ : ∃ b, (w.alloc (.cells (gC g p c) 24)).heap.size = b := ⟨_, rfl⟩
  have S01 := Lib.hid (S0.out.allocAt hb4 (.cells #[.int .i64 r.hd, .slice q r.bd.length d, .bool r.rt] 38))
  have HBG := Lib.hid (fun (z : World) (hz : Below w.heap.size w z) => big_any (c := c) (hg.up hz))
  have HFO := Lib.hid (fun (z : World) (hz : Below w.heap.size w z) => follow_any (c := c) sym (hg.up hz) hc)
  have HFI := Lib.hid (fun (z : World) (hz : Below w.heap.size w z) => first_any (c := c) sym (hg.up hz) hc)
  have HAL := Lib.hid alive_any
  have HTB : Hid (decide (100000 < tot g.ps) = false → g.ps.length ≤ 100000) := Lib.hid (fun h => by have := of_decide_eq_false h; unfold tot at this; omega)
  unfold gC at S01 hb4
  clear hg hc S0 hzm hzk hzc hrv hrl hrc hz hzl hZ1
  go_enter Try.func11, Try.ntmps11
  go_upto_region 1 with fail
  refine at_world (fun v => Sep b1 w v [.box b4 (.cells #[.int .i64 r.hd, .slice q r.bd.length d, .bool r.rt] 38 (0, 0)), .box b1 (.cells #[.int .i64 g.t, .int .i64 g.s, .int .i64 g.st, .slice p g.ps.length c] 24 (0, 0))]) (HBE.out ▸ S01.out) fun y1 hy1 => ?_
  have S1 := Lib.hid hy1
  clear hy1 S01 hb1 hb4
  have k0 := (S1.out.tl.boxAt 0).trans rfl
  have k1 := (S1.out.tl.boxAt 1).trans rfl
  have k2 := (S1.out.tl.boxAt 2).trans rfl
  have k3 := (S1.out.tl.boxAt 3).trans rfl
  have H1 := Lib.hid (HBG.out y1 (HBE.out ▸ S1.out.bel))
  obtain ⟨tb, htb⟩ : ∃ b, decide (100000 < tot g.ps) = b := ⟨_, rfl⟩
  rw [htb] at H1 HTB
  clear htb
  go_wp2_with fail
  refine H1.out.mono ?_
  rintro _ y2 ⟨rfl, hb2⟩
  have S2 := Lib.hid (S1.out.up hb2)
  clear hb2 k0 k1 k2 k3 S1 H1 HBG
  cases tb with
  | true =>
    go_wp2_with fail
    go_ret
    exact ⟨rfl, by rw [HBE.out]; exact S2.out.bel⟩
  | false =>
    have hlen := HTB.out rfl
    have m1 := (S2.out.boxAt 1).trans rfl
    by_cases hbig : 1000 < r.bd.length
    · have hbI : (1000 : Int) < (r.bd.length : Int) := by omega
      go_wp2_with fail
      go_ret
      exact ⟨rfl, by rw [HBE.out]; exact S2.out.bel⟩
    · have hbI : ¬ (1000 : Int) < (r.bd.length : Int) := by omega
      have k0 := (S2.out.tl.boxAt 0).trans rfl
      have k1 := (S2.out.tl.boxAt 1).trans rfl
      have k2 := (S2.out.tl.boxAt 2).trans rfl
      have k3 := (S2.out.tl.boxAt 3).trans rfl
      obtain ⟨b7, hb7⟩ : ∃ b, y2.heap.size = b := ⟨_, rfl⟩
      have S3 := Lib.hid (S2.out.allocAt hb7 (.cells #[.int .i64 g.t, .int .i64 g.s, .int .i64 g.st, .slice p g.ps.length c] 24))
      go_upto_region 4 with fail
      refine at_world (fun v => Sep b1 w v [.box b7 (.cells #[.int .i64 g.t, .int .i64 g.s, .int .i64 g.st, .slice p g.ps.length c] 24 (0, 0)), .box b4 (.cells #[.int .i64 r.hd, .slice q r.bd.length d, .bool r.rt] 38 (0, 0)), .box b1 (.cells #[.int .i64 g.t, .int .i64 g.s, .int .i64 g.st, .slice p g.ps.length c] 24 (0, 0))]) S3.out fun y3 hy3 => ?_
      have S4 := Lib.hid hy3
      clear hy3 S3 S2 k0 k1 k2 k3 hb7 m1
      have HSK : Hid (∀ (v : World) (M : List It), Sep b1 w v M → .box b1 (.cells #[.int .i64 g.t, .int .i64 g.s, .int .i64 g.st, .slice p g.ps.length c] 24 (0, 0)) ∈ M → .box b4 (.cells #[.int .i64 r.hd, .slice q r.bd.length d, .bool r.rt] 38 (0, 0)) ∈ M → v.cell? ⟨b1, 3, none⟩ = some (.slice p g.ps.length c) ∧ v.cell? ⟨b4, 0, none⟩ = some (.int .i64 r.hd) ∧ v.cell? ⟨b4, 1, none⟩ = some (.slice q r.bd.length d) ∧ v.cell? ⟨b4, 2, none⟩ = some (.bool r.rt)) := Lib.hid (fun v M hs h1 h2 => ⟨(cell_of_row v b1 3 _ 24 (0, 0) (hs.li _ h1).2).trans rfl, (cell_of_row v b4 0 _ 38 (0, 0) (hs.li _ h2).2).trans rfl, (cell_of_row v b4 1 _ 38 (0, 0) (hs.li _ h2).2).trans rfl, (cell_of_row v b4 2 _ 38 (0, 0) (hs.li _ h2).2).trans rfl⟩)
      go_cut [] from 25 to 32 (fun v => ∃ (pv : Option Addr) (cv : Nat), Hid (Sep b1 w v [rP (.slice pv Z1.length cv) Z1, .box b7 (.cells #[.int .i64 g.t, .int .i64 g.s, .int .i64 g.st, .slice pv Z1.length cv] 24 (0, 0)), .box b4 (.cells #[.int .i64 r.hd, .slice q r.bd.length d, .bool r.rt] 38 (0, 0)), .box b1 (.cells #[.int .i64 g.t, .int .i64 g.s, .int .i64 g.st, .slice p g.ps.length c] 24 (0, 0))]))
      case first =>
        have SD := Lib.hid S4.out.drew
        refine wp_region_held_drew (S := fun v => v.cell? ⟨b1, 3, none⟩ = some (.slice p g.ps.length c) ∧ v.cell? ⟨b4, 0, none⟩ = some (.int .i64 r.hd) ∧ v.cell? ⟨b4, 1, none⟩ = some (.slice q r.bd.length d) ∧ v.cell? ⟨b4, 2, none⟩ = some (.bool r.rt)) (by kernel_rfl) (HSK.out _ _ SD.out (by simp) (by simp)) (fun hHeld => ?_)
        refine wpAnyH_take (i := 1) (v := (.pointer (some ⟨b1, 3, none⟩))) rfl (by kernel_rfl) (by kernel_rfl) (by kernel_rfl) (fun _ _ _ h => h) (Or.inl ⟨by rfl, by (intro w hSw; (try dsimp only at hSw); go_simp)⟩) hHeld ?_
        (try simp only [Act.put, List.getElem_toArray, List.getElem_cons_zero, List.getElem_cons_succ, List.setIfInBounds_toArray, List.set_cons_zero, List.set_cons_succ])
        refine wpAnyH_take (i := 2) (v := (.slice p g.ps.length c)) rfl (by kernel_rfl) (by kernel_rfl) (by kernel_rfl) (fun _ _ _ h => h) (Or.inl ⟨by rfl, by (intro w9 hSw; (try dsimp only at hSw); have c9_ := hSw.1; go_simp)⟩) hHeld ?_
        (try simp only [Act.put, List.getElem_toArray, List.getElem_cons_zero, List.getElem_cons_succ, List.setIfInBounds_toArray, List.set_cons_zero, List.set_cons_succ])
        refine wpAnyH_take (i := 4) (v := (.agg #[.int .i64 r.hd, .slice q r.bd.length d, .bool r.rt])) rfl (by kernel_rfl) (by kernel_rfl) (by kernel_rfl) (fun _ _ _ h => h) (Or.inl ⟨by rfl, by (intro w9 hSw; (try dsimp only at hSw); have c7_ := hSw.2.1; have c8_ := hSw.2.2.1; have c9_ := hSw.2.2.2; go_simp)⟩) hHeld ?_
        (try simp only [Act.put, List.getElem_toArray, List.getElem_cons_zero, List.getElem_cons_succ, List.setIfInBounds_toArray, List.set_cons_zero, List.set_cons_succ])
        refine wpAnyH_ready (rs := [0, 5]) (by kernel_rfl) (by simp) ?_
        refine AllReadyH.cons rfl (fun K9 hK => ?_) (AllReadyH.cons rfl (fun K9 hK => ?_) (AllReadyH.nil))
        · rw [if_pos (by rfl)]
          obtain ⟨be, hbe⟩ : ∃ b, y3.heap.size = b := ⟨_, rfl⟩
          have SA := Lib.hid (Sep.empty (e := 38) (size := 3) (SD.out.allocAt (b := be) (by first | exact hbe | (rw [← hbe, ← hbn]; simp)) (.cells #[] 38)))
          go_wp2_with fail
          refine hK.out _ _ (HSK.out _ _ SA.out (by simp) (by simp)) (fun hHeld2 => ?_)
          clear hHeld hK
          have hHeld := hHeld2
          clear hHeld2
          (try simp only [Act.put, List.getElem_toArray, List.getElem_cons_zero, List.getElem_cons_succ, List.setIfInBounds_toArray, List.set_cons_zero, List.set_cons_succ])
          refine wpAnyH_ready (rs := [3, 5]) (by kernel_rfl) (by simp) ?_
          refine AllReadyH.cons rfl (fun K9 hK => ?_) (AllReadyH.cons rfl (fun K9 hK => ?_) (AllReadyH.nil))
          · rw [if_pos (by rfl)]
            refine wp_prods (.tmp 25) (.tmp 27) rfl [] rfl rfl SA.out HZL.out.symm (HZC.out _ (HBE.out ▸ SA.out.bel)) (by rw [HZL.out]; omega) ?_
            intro p2 c2 wb hs9
            have SB := Lib.hid hs9
            clear hs9
            refine hK.out _ _ (HSK.out _ _ SB.out (by simp) (by simp)) (fun hHeld2 => ?_)
            clear hHeld hK
            have hHeld := hHeld2
            clear hHeld2
            (try simp only [Act.put, List.getElem_toArray, List.getElem_cons_zero, List.getElem_cons_succ, List.setIfInBounds_toArray, List.set_cons_zero, List.set_cons_succ])
            refine wpAnyH_ready (rs := [5]) (by kernel_rfl) (by simp) ?_
            refine AllReadyH.cons rfl (fun K9 hK => ?_) (AllReadyH.nil)
            rw [if_pos (by rfl)]
            obtain ⟨bn, hbn⟩ : ∃ b, wb.heap.size = b := ⟨_, rfl⟩
            have SC := Lib.hid (SB.out.allocAt (b := bn) (by first | exact hbn | (rw [← hbn, ← hbe]; simp)) (.cells #[.int .i64 r.hd, .slice q r.bd.length d, .bool r.rt] 38))
            go_wp2_with fail
            refine hK.out _ _ (HSK.out _ _ SC.out (by simp) (by simp)) (fun hHeld2 => ?_)
            clear hHeld hK
            have hHeld := hHeld2
            clear hHeld2
            (try simp only [Act.put, List.getElem_toArray, List.getElem_cons_zero, List.getElem_cons_succ, List.setIfInBounds_toArray, List.set_cons_zero, List.set_cons_succ])
            have ST : Hid (Sep b1 w _ [.box bn (.cells #[.int .i64 r.hd, .slice q r.bd.length d, .bool r.rt] 38 (0, 0)), rP (.slice p2 zs0.length c2) zs0, .box b7 (.cells #[.int .i64 g.t, .int .i64 g.s, .int .i64 g.st, .slice p g.ps.length c] 24 (0, 0)), .box b4 (.cells #[.int .i64 r.hd, .slice q r.bd.length d, .bool r.rt] 38 (0, 0)), .box b1 (.cells #[.int .i64 g.t, .int .i64 g.s, .int .i64 g.st, .slice p g.ps.length c] 24 (0, 0))]) := Lib.hid SC.out
            refine wpAnyH_ready (rs := [6]) (by kernel_rfl) (by simp) ?_
            refine AllReadyH.cons rfl (fun K9 hK => ?_) (AllReadyH.nil)
            rw [if_pos (by rfl)]
            refine wp_append_own (.tmp 28) (.tmp 30) 22 rfl b1 38 i0 (.agg #[.int .i64 0, .slice none 0 0, .bool false]) 3 40 Try.underlying22 hi hiz0 hiz1 hiz2 rfl (by decide) (.slice p2 zs0.length c2) zs0.length (zP zs0) rfl (ST.out.tl.at) ⟨bn, 0, none⟩ 1 1 [.int .i64 r.hd, .slice q r.bd.length d, .bool r.rt] rfl rfl ?e2_0 ?e3_0 ?e4_0 ?e5_0 ?e6_0 ?_
            case e2_0 => exact fun j u hj => by rw [Addr.add_mid, Nat.zero_add, (ST.out.boxAt j), ← hj]; simp
            case e3_0 => simp [Value.oneCell']
            case e4_0 => have := HZL.out; unfold maxLen; omega
            case e5_0 => have := HZL.out; omega
            case e6_0 => exact ST.out.sz
            intro v' wa hown hgrow hat
            obtain ⟨p7, c7, rfl⟩ := rowF_ hown
            have hs7 := Sep.prodAt (z := z) [_] ST.out (by rw [← HZZ.out]; exact hown) hgrow hat
            rw [HZ1.out] at hs7
            have S7 : Hid (Sep b1 w wa [.box bn (.cells #[.int .i64 r.hd, .slice q r.bd.length d, .bool r.rt] 38 (0, 0)), rP (.slice p7 Z1.length c7) Z1, .box b7 (.cells #[.int .i64 g.t, .int .i64 g.s, .int .i64 g.st, .slice p g.ps.length c] 24 (0, 0)), .box b4 (.cells #[.int .i64 r.hd, .slice q r.bd.length d, .bool r.rt] 38 (0, 0)), .box b1 (.cells #[.int .i64 g.t, .int .i64 g.s, .int .i64 g.st, .slice p g.ps.length c] 24 (0, 0))]) := Lib.hid (by rw [HZ1L.out]; exact hs7)
            have j3 := (S7.out.tl.tl.boxAt 3).trans rfl
            have f3 := S7.out.tl.tl.fz 3
            have S8 : Hid (Sep b1 w (wa.setCell ⟨b7, 3, none⟩ (.slice p7 Z1.length c7)) [.box bn (.cells #[.int .i64 r.hd, .slice q r.bd.length d, .bool r.rt] 38 (0, 0)), rP (.slice p7 Z1.length c7) Z1, .box b7 (.cells #[.int .i64 g.t, .int .i64 g.s, .int .i64 g.st, .slice p7 Z1.length c7] 24 (0, 0)), .box b4 (.cells #[.int .i64 r.hd, .slice q r.bd.length d, .bool r.rt] 38 (0, 0)), .box b1 (.cells #[.int .i64 g.t, .int .i64 g.s, .int .i64 g.st, .slice p g.ps.length c] 24 (0, 0))]) := Lib.hid (S7.out.setAt [_, _] 3 (.slice p7 Z1.length c7))
            rw [← HZ1L.out]
            clear hs7 hown hgrow hat
            refine hK.out _ _ (HSK.out _ _ S7.out (by simp) (by simp)) (fun hHeld2 => ?_)
            clear hHeld hK
            have hHeld := hHeld2
            clear hHeld2
            (try simp only [Act.put, List.getElem_toArray, List.getElem_cons_zero, List.getElem_cons_succ, List.setIfInBounds_toArray, List.set_cons_zero, List.set_cons_succ])
            refine wpAnyH_take (i := 7) (v := (.pointer (some ⟨b7, 3, none⟩))) rfl (by kernel_rfl) (by kernel_rfl) (by kernel_rfl) (fun _ _ _ h => h) (Or.inl ⟨by rfl, by (intro w hSw; (try dsimp only at hSw); go_simp)⟩) hHeld ?_
            (try simp only [Act.put, List.getElem_toArray, List.getElem_cons_zero, List.getElem_cons_succ, List.setIfInBounds_toArray, List.set_cons_zero, List.set_cons_succ])
            refine wpAnyH_ready (rs := [8]) (by kernel_rfl) (by simp) ?_
            refine AllReadyH.cons rfl (fun K9 hK => ?_) (AllReadyH.nil)
            rw [if_pos (by rfl)]
            go_wp2_with fail
            refine hK.out _ _ (HSK.out _ _ S8.out (by simp) (by simp)) (fun hHeld2 => ?_)
            clear hHeld hK
            have hHeld := hHeld2
            clear hHeld2
            (try simp only [Act.put, List.getElem_toArray, List.getElem_cons_zero, List.getElem_cons_succ, List.setIfInBounds_toArray, List.set_cons_zero, List.set_cons_succ])
            refine wpAnyH_done (by kernel_rfl) ?_ _
            clear hHeld j3 f3
            go_wp2_with fail
            go_meet
            case rel => exact ⟨p7, c7, Lib.hid (Sep.tl S8.out)⟩
          · rw [if_pos (by rfl)]
            obtain ⟨bn, hbn⟩ : ∃ b, be + 1 = b := ⟨_, rfl⟩
            have SB := Lib.hid (SA.out.allocAt (b := bn) (by first | exact hbn | (rw [← hbn, ← hbe]; simp)) (.cells #[.int .i64 r.hd, .slice q r.bd.length d, .bool r.rt] 38))
            go_wp2_with fail
            refine hK.out _ _ (HSK.out _ _ SB.out (by simp) (by simp)) (fun hHeld2 => ?_)
            clear hHeld hK
            have hHeld := hHeld2
            clear hHeld2
            (try simp only [Act.put, List.getElem_toArray, List.getElem_cons_zero, List.getElem_cons_succ, List.setIfInBounds_toArray, List.set_cons_zero, List.set_cons_succ])
            refine wpAnyH_ready (rs := [3]) (by kernel_rfl) (by simp) ?_
            refine AllReadyH.cons rfl (fun K9 hK => ?_) (AllReadyH.nil)
            rw [if_pos (by rfl)]
            refine wp_prods (.tmp 25) (.tmp 27) rfl [_] rfl rfl SB.out HZL.out.symm (HZC.out _ (HBE.out ▸ SB.out.bel)) (by rw [HZL.out]; omega) ?_
            intro p2 c2 wb hs9
            have SC := Lib.hid hs9
            clear hs9
            refine hK.out _ _ (HSK.out _ _ SC.out (by simp) (by simp)) (fun hHeld2 => ?_)
            clear hHeld hK
            have hHeld := hHeld2
            clear hHeld2
            (try simp only [Act.put, List.getElem_toArray, List.getElem_cons_zero, List.getElem_cons_succ, List.setIfInBounds_toArray, List.set_cons_zero, List.set_cons_succ])
            have ST : Hid (Sep b1 w _ [.box bn (.cells #[.int .i64 r.hd, .slice q r.bd.length d, .bool r.rt] 38 (0, 0)), rP (.slice p2 zs0.length c2) zs0, .box b7 (.cells #[.int .i64 g.t, .int .i64 g.s, .int .i64 g.st, .slice p g.ps.length c] 24 (0, 0)), .box b4 (.cells #[.int .i64 r.hd, .slice q r.bd.length d, .bool r.rt] 38 (0, 0)), .box b1 (.cells #[.int .i64 g.t, .int .i64 g.s, .int .i64 g.st, .slice p g.ps.length c] 24 (0, 0))]) := Lib.hid SC.out
            refine wpAnyH_ready (rs := [6]) (by kernel_rfl) (by simp) ?_
            refine AllReadyH.cons rfl (fun K9 hK => ?_) (AllReadyH.nil)
            rw [if_pos (by rfl)]
            refine wp_append_own (.tmp 28) (.tmp 30) 22 rfl b1 38 i0 (.agg #[.int .i64 0, .slice none 0 0, .bool false]) 3 40 Try.underlying22 hi hiz0 hiz1 hiz2 rfl (by decide) (.slice p2 zs0.length c2) zs0.length (zP zs0) rfl (ST.out.tl.at) ⟨bn, 0, none⟩ 1 1 [.int .i64 r.hd, .slice q r.bd.length d, .bool r.rt] rfl rfl ?e2_1 ?e3_1 ?e4_1 ?e5_1 ?e6_1 ?_
            case e2_1 => exact fun j u hj => by rw [Addr.add_mid, Nat.zero_add, (ST.out.boxAt j), ← hj]; simp
            case e3_1 => simp [Value.oneCell']
            case e4_1 => have := HZL.out; unfold maxLen; omega
            case e5_1 => have := HZL.out; omega
            case e6_1 => exact ST.out.sz
            intro v' wa hown hgrow hat
            obtain ⟨p7, c7, rfl⟩ := rowF_ hown
            have hs7 := Sep.prodAt (z := z) [_] ST.out (by rw [← HZZ.out]; exact hown) hgrow hat
            rw [HZ1.out] at hs7
            have S7 : Hid (Sep b1 w wa [.box bn (.cells #[.int .i64 r.hd, .slice q r.bd.length d, .bool r.rt] 38 (0, 0)), rP (.slice p7 Z1.length c7) Z1, .box b7 (.cells #[.int .i64 g.t, .int .i64 g.s, .int .i64 g.st, .slice p g.ps.length c] 24 (0, 0)), .box b4 (.cells #[.int .i64 r.hd, .slice q r.bd.length d, .bool r.rt] 38 (0, 0)), .box b1 (.cells #[.int .i64 g.t, .int .i64 g.s, .int .i64 g.st, .slice p g.ps.length c] 24 (0, 0))]) := Lib.hid (by rw [HZ1L.out]; exact hs7)
            have j3 := (S7.out.tl.tl.boxAt 3).trans rfl
            have f3 := S7.out.tl.tl.fz 3
            have S8 : Hid (Sep b1 w (wa.setCell ⟨b7, 3, none⟩ (.slice p7 Z1.length c7)) [.box bn (.cells #[.int .i64 r.hd, .slice q r.bd.length d, .bool r.rt] 38 (0, 0)), rP (.slice p7 Z1.length c7) Z1, .box b7 (.cells #[.int .i64 g.t, .int .i64 g.s, .int .i64 g.st, .slice p7 Z1.length c7] 24 (0, 0)), .box b4 (.cells #[.int .i64 r.hd, .slice q r.bd.length d, .bool r.rt] 38 (0, 0)), .box b1 (.cells #[.int .i64 g.t, .int .i64 g.s, .int .i64 g.st, .slice p g.ps.length c] 24 (0, 0))]) := Lib.hid (S7.out.setAt [_, _] 3 (.slice p7 Z1.length c7))
            rw [← HZ1L.out]
            clear hs7 hown hgrow hat
            refine hK.out _ _ (HSK.out _ _ S7.out (by simp) (by simp)) (fun hHeld2 => ?_)
            clear hHeld hK
            have hHeld := hHeld2
            clear hHeld2
            (try simp only [Act.put, List.getElem_toArray, List.getElem_cons_zero, List.getElem_cons_succ, List.setIfInBounds_toArray, List.set_cons_zero, List.set_cons_succ])
            refine wpAnyH_take (i := 7) (v := (.pointer (some ⟨b7, 3, none⟩))) rfl (by kernel_rfl) (by kernel_rfl) (by kernel_rfl) (fun _ _ _ h => h) (Or.inl ⟨by rfl, by (intro w hSw; (try dsimp only at hSw); go_simp)⟩) hHeld ?_
            (try simp only [Act.put, List.getElem_toArray, List.getElem_cons_zero, List.getElem_cons_succ, List.setIfInBounds_toArray, List.set_cons_zero, List.set_cons_succ])
            refine wpAnyH_ready (rs := [8]) (by kernel_rfl) (by simp) ?_
            refine AllReadyH.cons rfl (fun K9 hK => ?_) (AllReadyH.nil)
            rw [if_pos (by rfl)]
            go_wp2_with fail
            refine hK.out _ _ (HSK.out _ _ S8.out (by simp) (by simp)) (fun hHeld2 => ?_)
            clear hHeld hK
            have hHeld := hHeld2
            clear hHeld2
            (try simp only [Act.put, List.getElem_toArray, List.getElem_cons_zero, List.getElem_cons_succ, List.setIfInBounds_toArray, List.set_cons_zero, List.set_cons_succ])
            refine wpAnyH_done (by kernel_rfl) ?_ _
            clear hHeld j3 f3
            go_wp2_with fail
            go_meet
            case rel => exact ⟨p7, c7, Lib.hid (Sep.tl S8.out)⟩
        · rw [if_pos (by rfl)]
          obtain ⟨bn, hbn⟩ : ∃ b, y3.heap.size = b := ⟨_, rfl⟩
          have SA := Lib.hid (SD.out.allocAt (b := bn) (by first | exact hbn | (rw [← hbn, ← hbe]; simp)) (.cells #[.int .i64 r.hd, .slice q r.bd.length d, .bool r.rt] 38))
          go_wp2_with fail
          refine hK.out _ _ (HSK.out _ _ SA.out (by simp) (by simp)) (fun hHeld2 => ?_)
          clear hHeld hK
          have hHeld := hHeld2
          clear hHeld2
          (try simp only [Act.put, List.getElem_toArray, List.getElem_cons_zero, List.getElem_cons_succ, List.setIfInBounds_toArray, List.set_cons_zero, List.set_cons_succ])
          refine wpAnyH_ready (rs := [0]) (by kernel_rfl) (by simp) ?_
          refine AllReadyH.cons rfl (fun K9 hK => ?_) (AllReadyH.nil)
          rw [if_pos (by rfl)]
          obtain ⟨be, hbe⟩ : ∃ b, bn + 1 = b := ⟨_, rfl⟩
          have SB := Lib.hid (Sep.empty (e := 38) (size := 3) (SA.out.allocAt (b := be) (by first | exact hbe | (rw [← hbe, ← hbn]; simp)) (.cells #[] 38)))
          go_wp2_with fail
          refine hK.out _ _ (HSK.out _ _ SB.out (by simp) (by simp)) (fun hHeld2 => ?_)
          clear hHeld hK
          have hHeld := hHeld2
          clear hHeld2
          (try simp only [Act.put, List.getElem_toArray, List.getElem_cons_zero, List.getElem_cons_succ, List.setIfInBounds_toArray, List.set_cons_zero, List.set_cons_succ])
          refine wpAnyH_ready (rs := [3]) (by kernel_rfl) (by simp) ?_
          refine AllReadyH.cons rfl (fun K9 hK => ?_) (AllReadyH.nil)
          rw [if_pos (by rfl)]
          refine wp_prods (.tmp 25) (.tmp 27) rfl [] rfl rfl SB.out HZL.out.symm (HZC.out _ (HBE.out ▸ SB.out.bel)) (by rw [HZL.out]; omega) ?_
          intro p2 c2 wb hs9
          have SC := Lib.hid hs9
          clear hs9
          refine hK.out _ _ (HSK.out _ _ SC.out (by simp) (by simp)) (fun hHeld2 => ?_)
          clear hHeld hK
          have hHeld := hHeld2
          clear hHeld2
          (try simp only [Act.put, List.getElem_toArray, List.getElem_cons_zero, List.getElem_cons_succ, List.setIfInBounds_toArray, List.set_cons_zero, List.set_cons_succ])
          have ST : Hid (Sep b1 w _ [.box bn (.cells #[.int .i64 r.hd, .slice q r.bd.length d, .bool r.rt] 38 (0, 0)), rP (.slice p2 zs0.length c2) zs0, .box b7 (.cells #[.int .i64 g.t, .int .i64 g.s, .int .i64 g.st, .slice p g.ps.length c] 24 (0, 0)), .box b4 (.cells #[.int .i64 r.hd, .slice q r.bd.length d, .bool r.rt] 38 (0, 0)), .box b1 (.cells #[.int .i64 g.t, .int .i64 g.s, .int .i64 g.st, .slice p g.ps.length c] 24 (0, 0))]) := Lib.hid SC.out.swap
          refine wpAnyH_ready (rs := [6]) (by kernel_rfl) (by simp) ?_
          refine AllReadyH.cons rfl (fun K9 hK => ?_) (AllReadyH.nil)
          rw [if_pos (by rfl)]
          refine wp_append_own (.tmp 28) (.tmp 30) 22 rfl b1 38 i0 (.agg #[.int .i64 0, .slice none 0 0, .bool false]) 3 40 Try.underlying22 hi hiz0 hiz1 hiz2 rfl (by decide) (.slice p2 zs0.length c2) zs0.length (zP zs0) rfl (ST.out.tl.at) ⟨bn, 0, none⟩ 1 1 [.int .i64 r.hd, .slice q r.bd.length d, .bool r.rt] rfl rfl ?e2_2 ?e3_2 ?e4_2 ?e5_2 ?e6_2 ?_
          case e2_2 => exact fun j u hj => by rw [Addr.add_mid, Nat.zero_add, (ST.out.boxAt j), ← hj]; simp
          case e3_2 => simp [Value.oneCell']
          case e4_2 => have := HZL.out; unfold maxLen; omega
          case e5_2 => have := HZL.out; omega
          case e6_2 => exact ST.out.sz
          intro v' wa hown hgrow hat
          obtain ⟨p7, c7, rfl⟩ := rowF_ hown
          have hs7 := Sep.prodAt (z := z) [_] ST.out (by rw [← HZZ.out]; exact hown) hgrow hat
          rw [HZ1.out] at hs7
          have S7 : Hid (Sep b1 w wa [.box bn (.cells #[.int .i64 r.hd, .slice q r.bd.length d, .bool r.rt] 38 (0, 0)), rP (.slice p7 Z1.length c7) Z1, .box b7 (.cells #[.int .i64 g.t, .int .i64 g.s, .int .i64 g.st, .slice p g.ps.length c] 24 (0, 0)), .box b4 (.cells #[.int .i64 r.hd, .slice q r.bd.length d, .bool r.rt] 38 (0, 0)), .box b1 (.cells #[.int .i64 g.t, .int .i64 g.s, .int .i64 g.st, .slice p g.ps.length c] 24 (0, 0))]) := Lib.hid (by rw [HZ1L.out]; exact hs7)
          have j3 := (S7.out.tl.tl.boxAt 3).trans rfl
          have f3 := S7.out.tl.tl.fz 3
          have S8 : Hid (Sep b1 w (wa.setCell ⟨b7, 3, none⟩ (.slice p7 Z1.length c7)) [.box bn (.cells #[.int .i64 r.hd, .slice q r.bd.length d, .bool r.rt] 38 (0, 0)), rP (.slice p7 Z1.length c7) Z1, .box b7 (.cells #[.int .i64 g.t, .int .i64 g.s, .int .i64 g.st, .slice p7 Z1.length c7] 24 (0, 0)), .box b4 (.cells #[.int .i64 r.hd, .slice q r.bd.length d, .bool r.rt] 38 (0, 0)), .box b1 (.cells #[.int .i64 g.t, .int .i64 g.s, .int .i64 g.st, .slice p g.ps.length c] 24 (0, 0))]) := Lib.hid (S7.out.setAt [_, _] 3 (.slice p7 Z1.length c7))
          rw [← HZ1L.out]
          clear hs7 hown hgrow hat
          refine hK.out _ _ (HSK.out _ _ S7.out (by simp) (by simp)) (fun hHeld2 => ?_)
          clear hHeld hK
          have hHeld := hHeld2
          clear hHeld2
          (try simp only [Act.put, List.getElem_toArray, List.getElem_cons_zero, List.getElem_cons_succ, List.setIfInBounds_toArray, List.set_cons_zero, List.set_cons_succ])
          refine wpAnyH_take (i := 7) (v := (.pointer (some ⟨b7, 3, none⟩))) rfl (by kernel_rfl) (by kernel_rfl) (by kernel_rfl) (fun _ _ _ h => h) (Or.inl ⟨by rfl, by (intro w hSw; (try dsimp only at hSw); go_simp)⟩) hHeld ?_
          (try simp only [Act.put, List.getElem_toArray, List.getElem_cons_zero, List.getElem_cons_succ, List.setIfInBounds_toArray, List.set_cons_zero, List.set_cons_succ])
          refine wpAnyH_ready (rs := [8]) (by kernel_rfl) (by simp) ?_
          refine AllReadyH.cons rfl (fun K9 hK => ?_) (AllReadyH.nil)
          rw [if_pos (by rfl)]
          go_wp2_with fail
          refine hK.out _ _ (HSK.out _ _ S8.out (by simp) (by simp)) (fun hHeld2 => ?_)
          clear hHeld hK
          have hHeld := hHeld2
          clear hHeld2
          (try simp only [Act.put, List.getElem_toArray, List.getElem_cons_zero, List.getElem_cons_succ, List.setIfInBounds_toArray, List.set_cons_zero, List.set_cons_succ])
          refine wpAnyH_done (by kernel_rfl) ?_ _
          clear hHeld j3 f3
          go_wp2_with fail
          go_meet
          case rel => exact ⟨p7, c7, Lib.hid (Sep.tl S8.out)⟩
      obtain ⟨pv, cv, S5⟩ := hcut
      obtain ⟨p9, c9, hpv, hgm, hzc⟩ := gm_of (D := D) (S5.out.at) HG.out.lt HZK.out (HBE.out ▸ S5.out.bel) (by have := HZ1L.out; have := HZL.out; omega)
      injection hpv with e1 e2 e3
      subst e1 e3
      rw [HZM.out] at hgm
      have hln : Z1.length = (moG g r).ps.length := by rw [← List.length_map (f := fun z : Zp => z.1), HZM.out]
      have HS2 : Hid (Sep b1 w wc [.box b7 (.cells #[.int .i64 g.t, .int .i64 g.s, .int .i64 g.st, .slice pv (moG g r).ps.length cv] 24 (0, 0)), .box b4 (.cells #[.int .i64 r.hd, .slice q r.bd.length d, .bool r.rt] 38 (0, 0)), .box b1 (.cells #[.int .i64 g.t, .int .i64 g.s, .int .i64 g.st, .slice p g.ps.length c] 24 (0, 0))]) := Lib.hid (by have h := S5.out.tl; rw [hln] at h; exact h)
      have HGT : Hid (∀ z, Below wc.heap.size wc z → GM (fun b => b < wc.heap.size) z (moG g r).ps pv) := Lib.hid (fun z hz => GM.up hgm hz)
      have HCC : Hid ((moG g r).ps.length ≤ cv) := Lib.hid (by rw [← hln]; exact hzc)
      have HFT := Lib.hid (fun (z : World) (hz : Below wc.heap.size wc z) => first_any (c := cv) sym (HGT.out z hz) HCC.out)
      have HOT := Lib.hid (fun (z : World) (hz : Below wc.heap.size wc z) => follow_any (c := cv) sym (HGT.out z hz) HCC.out)
      have HMF := Lib.hid (mo_fir (g := g) (r := r) (s := sym))
      have HML := Lib.hid (mo_fol (g := g) (r := r) (s := sym))
      have e4 : (moG g r).t = g.t := rfl
      have e5 : (moG g r).s = g.s := rfl
      have e6 : (moG g r).st = g.st := rfl
      rw [e4, e5, e6] at HFT HOT
      generalize (moG g r).ps.length = nt at HS2 HFT HOT
      have hl1 := fir_len g sym
      have hl2 := fol_len g sym
      have hl3 := fir_len (moG g r) sym
      have hl4 := fol_len (moG g r) sym
      generalize askV g sym 0 = E at HFI HFO
      generalize askV (moG g r) sym 0 = E' at HFT HOT HMF HML
      generalize firL g sym = F1 at HFI HMF hl1
      generalize folL g sym = F2 at HFO HML hl2
      generalize firL (moG g r) sym = F3 at HFT HMF hl3
      generalize folL (moG g r) sym = F4 at HOT HML hl4
      clear hgm hln hzc e2 e4 e5 e6 S5 HGT HCC S4 HSK
      have k0 := (HS2.out.tl.tl.boxAt 0).trans rfl
      have k1 := (HS2.out.tl.tl.boxAt 1).trans rfl
      have k2 := (HS2.out.tl.tl.boxAt 2).trans rfl
      have k3 := (HS2.out.tl.tl.boxAt 3).trans rfl
      have H1 := Lib.hid (HFI.out wc (HBE.out ▸ HS2.out.bel))
      go_wp2_with fail
      refine H1.out.mono ?_
      rintro _ u0w hn9
      obtain ⟨r0p, r0c, rfl, hs9⟩ := NumP.row HS2.out hn9
      have T0 := Lib.hid hs9
      have U0 : Hid (Below wc.heap.size wc u0w) := Lib.hid (Below.trans (Below.refl wc.heap.size wc) (Below.mono hn9.bel (Below.size (Below.refl wc.heap.size wc))))
      clear hn9 hs9 H1 k0 k1 k2 k3 HS2
      have k0 := (T0.out.tl.boxAt 0).trans rfl
      have k1 := (T0.out.tl.boxAt 1).trans rfl
      have k2 := (T0.out.tl.boxAt 2).trans rfl
      have k3 := (T0.out.tl.boxAt 3).trans rfl
      have H1 := Lib.hid (HFT.out u0w (U0.out))
      go_wp2_with fail
      refine H1.out.mono ?_
      rintro _ u1w hn9
      obtain ⟨r1p, r1c, rfl, hs9⟩ := NumP.row T0.out hn9
      have T1 := Lib.hid hs9
      have U1 : Hid (Below wc.heap.size wc u1w) := Lib.hid (Below.trans U0.out (Below.mono hn9.bel (Below.size U0.out)))
      clear hn9 hs9 H1 k0 k1 k2 k3 T0
      have k0 := (T1.out.tl.tl.tl.tl.boxAt 0).trans rfl
      have k1 := (T1.out.tl.tl.tl.tl.boxAt 1).trans rfl
      have k2 := (T1.out.tl.tl.tl.tl.boxAt 2).trans rfl
      have k3 := (T1.out.tl.tl.tl.tl.boxAt 3).trans rfl
      have H1 := Lib.hid (HFO.out u1w (HBE.out ▸ T1.out.bel))
      go_wp2_with fail
      refine H1.out.mono ?_
      rintro _ u2w hn9
      obtain ⟨r2p, r2c, rfl, hs9⟩ := NumP.row T1.out hn9
      have T2 := Lib.hid hs9
      have U2 : Hid (Below wc.heap.size wc u2w) := Lib.hid (Below.trans U1.out (Below.mono hn9.bel (Below.size U1.out)))
      clear hn9 hs9 H1 k0 k1 k2 k3 T1
      have k0 := (T2.out.tl.tl.tl.boxAt 0).trans rfl
      have k1 := (T2.out.tl.tl.tl.boxAt 1).trans rfl
      have k2 := (T2.out.tl.tl.tl.boxAt 2).trans rfl
      have k3 := (T2.out.tl.tl.tl.boxAt 3).trans rfl
      have H1 := Lib.hid (HOT.out u2w (U2.out))
      go_wp2_with fail
      refine H1.out.mono ?_
      rintro _ u3w hn9
      obtain ⟨r3p, r3c, rfl, hs9⟩ := NumP.row T2.out hn9
      have T3 := Lib.hid hs9
      have U3 : Hid (Below wc.heap.size wc u3w) := Lib.hid (Below.trans U2.out (Below.mono hn9.bel (Below.size U2.out)))
      clear hn9 hs9 H1 k0 k1 k2 k3 T2
      have V0 := Lib.hid (T3.out.iv (p := r0p) (n := F1.length) (c := r0c) (l := F1) (by simp))
      have V1 := Lib.hid (T3.out.iv (p := r1p) (n := F3.length) (c := r1c) (l := F3) (by simp))
      have V2 := Lib.hid (T3.out.iv (p := r2p) (n := F2.length) (c := r2c) (l := F2) (by simp))
      have V3 := Lib.hid (T3.out.iv (p := r3p) (n := F4.length) (c := r3c) (l := F4) (by simp))
      by_cases hE : E = 0
      · subst hE
        by_cases hE' : E' = 0
        · subst hE'
          have HW1 := Lib.hid (within_any (a := F1) (b := F3) (w := u3w) (pa := r0p) (ca := r0c) (pb := r1p) (cb := r1c) (by omega) (by omega) (fun b h => h) (fun b h => h) V0.out V1.out)
          rw [HMF.out (by trivial)] at HW1
          go_wp2_with fail
          refine HW1.out.mono ?_
          rintro _ y9 ⟨rfl, hb9⟩
          have HX9 := Lib.hid hb9
          have HW2 := Lib.hid (within_any (a := F2) (b := F4) (w := y9) (pa := r2p) (ca := r2c) (pb := r3p) (cb := r3c) (D := fun b => b < u3w.heap.size) (E := fun b => b < u3w.heap.size) (by omega) (by omega) (fun b h => Nat.lt_of_lt_of_le h HX9.out.size) (fun b h => Nat.lt_of_lt_of_le h HX9.out.size) (V2.out.mono (fun _ h => h) (fun b h _ => HX9.out.block b h)) (V3.out.mono (fun _ h => h) (fun b h _ => HX9.out.block b h)))
          rw [HML.out (by trivial)] at HW2
          clear hb9 HW1
          go_wp2_with fail
          refine HW2.out.mono ?_
          rintro _ y8 ⟨rfl, hb8⟩
          have HX8 := Lib.hid (HX9.out.trans (hb8.mono HX9.out.size))
          clear hb8 HW2
          go_wp2_with fail
          refine (HAL.out _).mono ?_
          rintro _ y7 ⟨rfl, hb7⟩
          have HX7 := Lib.hid (HX8.out.trans (hb7.mono HX8.out.size))
          clear hb7
          go_wp2_with fail
          go_ret
          exact ⟨rfl, by rw [HBE.out]; exact T3.out.bel.trans (HX7.out.mono T3.out.sz)⟩
        · have hEI : (E' != 0) = true := by rw [bne_iff_ne]; exact hE'
          have hEE : (E' == E') = true := by simp
          clear hE'
          go_wp2_with fail
          refine (HAL.out _).mono ?_
          rintro _ y7 ⟨rfl, hb7⟩
          have HX7 := Lib.hid hb7
          clear hb7
          go_wp2_with fail
          go_ret
          exact ⟨rfl, by rw [HBE.out]; exact T3.out.bel.trans (HX7.out.mono T3.out.sz)⟩
      · have hEI : (E != 0) = true := by rw [bne_iff_ne]; exact hE
        have hEE : (E' == E') = true := by simp
        have hEE2 : (E == E) = true := by simp
        clear hE
        go_wp2_with fail
        refine (HAL.out _).mono ?_
        rintro _ y7 ⟨rfl, hb7⟩
        have HX7 := Lib.hid hb7
        clear hb7
        go_wp2_with fail
        go_ret
        exact ⟨rfl, by rw [HBE.out]; exact T3.out.bel.trans (HX7.out.mono T3.out.sz)⟩
end Go.Proofs.Ytpmkdpjcpimhkaa
