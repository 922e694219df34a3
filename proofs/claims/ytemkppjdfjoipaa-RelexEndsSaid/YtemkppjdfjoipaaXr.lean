/- Package relex. -/
import Derived.Test.YtemkppjdfjoipaaProg
import Derived.Test.YtemkppjdfjoipaaW31
import Derived.Deep.SlicePairs
import Derived.Deep.Slices
import Derived.Laws.IdiomArrays
import Derived.OpenShut
import Derived.WideBlind
import Derived.Great.BuildSlice
import Derived.WalkKit
import Derived.Maps.OwnSet
import Derived.Maps.OwnOps
import Derived.Maps.Own
import Derived.DeepKeys5
import Derived.BigFrame
import Derived.WalkMore
import Derived.ScopeJumps
import Derived.StillTailTactics
import Derived.Stop.BytesEq
import Derived.WalkLawsBesides
import Derived.WalkSpells
import Derived.Outline
import Derived.Lib.Walk
import Derived.Lib.Hide
import Derived.Lib.Slices
import Derived.Lib.Strings
import Derived.RegionTactic
import Derived.LoopTactic
import Derived.Below
import Derived.IntWalk
import Derived.Deep.QuietTactic
import Derived.BigQuiet
import Derived.Deep.MidRow
import Derived.Maps.AppendAt
import Derived.Laws.Rows
import Derived.Laws.Tables
import Derived.Deep.WholeRow
import Derived.Deep.Cut
import Derived.Deep.CutRange
import Derived.Lib.SliceRun
import Derived.Laws.MakeOwn
import Derived.Deep.RegionLaw
import Derived.Deep.RegionLawGrows
import Derived.Deep.RegionHeld3
import Derived.RegionCalls
import Derived.Deep.RegionWith
import Derived.Deep.Light
import Derived.Laws.CopyOwn
import Derived.Laws.ResultCell
namespace Go.Proofs.Ytemkppjdfjoipaa.I1.X
set_option linter.unusedSimpArgs false
set_option linter.unusedVariables false
set_option maxRecDepth 100000
open Go.RowKit
/- newScanner. -/
open Go.Maps
set_option maxHeartbeats 32000000 in
theorem newscan_any {N : Nat} {w : World} {d : Df} {ds : Array Value} {p q : Option Addr} {c f : Nat} {kl : List Int} {qr : Option Addr} {fr : Nat} (hN : N ≤ w.heap.size) (hd : DC d ds p q c f) (hm : DM (Lt N) w d p q c f) (hk : KR (Lt N) w kl qr) (hkl : kl.length ≤ 1000000) (hnx : d.nx.length ≤ 1000000) (hrl : d.rl.length ≤ 1000000) (hrw : ∀ r ∈ d.nx, r.length ≤ 1000000) :
    Calls Try.prog 48 #[.slice qr kl.length fr, .agg ds] w (NsP w d kl) := by
  have hz := zero130
  obtain ⟨i0, hi, hy0, hy1, hy2⟩ := info_parts info3b
  obtain ⟨i1, hi1, hx0, hx1, hx2⟩ := info_parts info25b
  obtain ⟨i2, hi2, hw0, hw1, hw2⟩ := info_parts info4z
  have HSZ := Lib.hid hd.sz
  have HD := Lib.hid hd
  have HM := Lib.hid hm
  have HK := Lib.hid hk
  have HRW := Lib.hid hrw
  have HCL : Hid (∀ z, Below w.heap.size w z → Calls Try.prog 51 #[.slice q d.rl.length f] z fun e w' => ∃ v, e = .returned v ∧ w'.ownsRow z.heap.size 3 1 v d.rl.length (zi d.rl) ∧ Below z.heap.size z w') := Lib.hid fun z hz =>
    clone51 (by omega) (by rw [zi_length, Nat.mul_one]) (zi_one _) (fun b hb => Nat.lt_of_lt_of_le hb (Nat.le_trans hN hz.size)) (IV.gv (D := Lt N) (IV.mono (D := Lt N) (E := Lt N) (fun b h => h) (fun b hb _ => hz.block b (Nat.lt_of_lt_of_le hb hN)) hm.rl))
  obtain ⟨b3, hb3⟩ : ∃ b, w.heap.size = b := ⟨_, rfl⟩
  have HB3 := Lib.hid hb3
  have S0 := Lib.hid ((Sep.start w).allocAt hb3 (.cells ds 61))
  clear hd hm hk hrw
  go_enter Try.func48, Try.ntmps48
  go_upto_region 1 with fail
  refine at_world (fun y => Sep w.heap.size w y [.box b3 (.cells ds 61 (0, 0))]) S0.out fun y hy => ?_
  have S1 := Lib.hid hy
  have HC1 := Lib.hid (HCL.out y.drew (below_drewN hy.bel 1))
  clear hy S0 hb3 HCL
  refine wp_region_held_drew (S := fun z => z.heap[b3]? = some (.cells ds 61)) (by kernel_rfl) (S1.out.drew.at.2) (fun hHeld => ?_)
  refine wpAnyH_take (i := 0) (v := .pointer (some ⟨b3, 0, none⟩)) rfl (by kernel_rfl) (by kernel_rfl) (by kernel_rfl) (fun _ _ _ h => h) (Or.inl ⟨by rfl, by (intro w hSw; (try dsimp only at hSw); go_simp)⟩) hHeld ?_
  (try simp only [Act.put, List.getElem_toArray, List.getElem_cons_zero, List.getElem_cons_succ, List.setIfInBounds_toArray, List.set_cons_zero, List.set_cons_succ])
  refine wpAnyH_take (i := 1) (v := .int .i64 d.st) rfl (by kernel_rfl) (by kernel_rfl) (by kernel_rfl) (fun _ _ _ h => h) (Or.inl ⟨by rfl, (by intro w hSw; (try dsimp only at hSw); have hc := (cell_of_row w b3 0 _ 61 (0, 0) hSw).trans HD.out.st; go_simp)⟩) hHeld ?_
  (try simp only [Act.put, List.getElem_toArray, List.getElem_cons_zero, List.getElem_cons_succ, List.setIfInBounds_toArray, List.set_cons_zero, List.set_cons_succ])
  refine wpAnyH_take (i := 2) (v := .pointer (some ⟨b3, 1, none⟩)) rfl (by kernel_rfl) (by kernel_rfl) (by kernel_rfl) (fun _ _ _ h => h) (Or.inl ⟨by rfl, by (intro w hSw; (try dsimp only at hSw); go_simp)⟩) hHeld ?_
  (try simp only [Act.put, List.getElem_toArray, List.getElem_cons_zero, List.getElem_cons_succ, List.setIfInBounds_toArray, List.set_cons_zero, List.set_cons_succ])
  refine wpAnyH_take (i := 3) (v := .agg (cA d.cl)) rfl (by kernel_rfl) (by kernel_rfl) (by kernel_rfl) (fun _ _ _ h => h) (yieldsIf_cls (by rfl) (.tmp 12) rfl b3 1 rfl (fun w hSw j v hj => (cell_of_row w b3 (1 + j) _ 61 (0, 0) hSw).trans (dc_cl HD.out j v hj))) hHeld ?_
  (try simp only [Act.put, List.getElem_toArray, List.getElem_cons_zero, List.getElem_cons_succ, List.setIfInBounds_toArray, List.set_cons_zero, List.set_cons_succ])
  refine wpAnyH_take (i := 4) (v := .pointer (some ⟨b3, 258, none⟩)) rfl (by kernel_rfl) (by kernel_rfl) (by kernel_rfl) (fun _ _ _ h => h) (Or.inl ⟨by rfl, by (intro w hSw; (try dsimp only at hSw); go_simp)⟩) hHeld ?_
  (try simp only [Act.put, List.getElem_toArray, List.getElem_cons_zero, List.getElem_cons_succ, List.setIfInBounds_toArray, List.set_cons_zero, List.set_cons_succ])
  refine wpAnyH_take (i := 5) (v := .slice q d.rl.length f) rfl (by kernel_rfl) (by kernel_rfl) (by kernel_rfl) (fun _ _ _ h => h) (Or.inl ⟨by rfl, (by intro w hSw; (try dsimp only at hSw); have hc := (cell_of_row w b3 258 _ 61 (0, 0) hSw).trans HD.out.rl; go_simp)⟩) hHeld ?_
  (try simp only [Act.put, List.getElem_toArray, List.getElem_cons_zero, List.getElem_cons_succ, List.setIfInBounds_toArray, List.set_cons_zero, List.set_cons_succ])
  have SD := Lib.hid S1.out.drew
  clear S1
  refine wpAnyH_ready (rs := [6]) (by kernel_rfl) (by simp) ?_
  refine AllReadyH.cons rfl (fun K hK => ?_) (AllReadyH.nil)
  rw [if_pos (by rfl)]
  go_wp2_with fail
  refine (HC1.out).mono ?_
  rintro _ w2 ⟨rv, rfl, hr1, hb⟩
  have T1 := Lib.hid (SD.out.add hb hr1)
  refine hK.out _ _ ((hb.block b3 (It.lt SD.out.at rfl).2).trans SD.out.at.2) (fun hHeld2 => ?_)
  clear hHeld hK
  have hHeld := hHeld2
  clear hHeld2
  (try simp only [Act.put, List.getElem_toArray, List.getElem_cons_zero, List.getElem_cons_succ, List.setIfInBounds_toArray, List.set_cons_zero, List.set_cons_succ])
  clear SD hb hr1 HC1
  obtain ⟨q3, k3, rfl⟩ := row_form T1.out.at
  obtain ⟨dn, hdn⟩ : ∃ a, dN d.st d.cl (.slice q3 d.rl.length k3) = a := ⟨_, rfl⟩
  have hb61 := built61d d.st d.cl q3 d.rl.length k3
  rw [hdn] at hb61
  have hdns : dn.size = 259 := by rw [← hdn]; exact dN_size ..
  have hb136 := built136d hdns
  have HDN := Lib.hid hdn
  obtain ⟨sz, hsz⟩ : ∃ a, sZ dn = a := ⟨_, rfl⟩
  rw [hsz] at hb136
  have HSZ9 := Lib.hid hsz
  clear hdn hsz
  refine wpAnyH_ready (rs := [7]) (by kernel_rfl) (by simp) ?_
  refine AllReadyH.cons rfl (fun K hK => ?_) (AllReadyH.nil)
  rw [if_pos (by rfl)]
  refine wpK_build 61 _ rfl [(0, .int .i64 d.st), (1, .agg (cA d.cl)), (3, .slice q3 d.rl.length k3)] (by simp only [List.map_toArray, List.map_cons, List.map_nil]; rfl) hb61 ?_
  refine hK.out _ _ (hHeld) (fun hHeld2 => ?_)
  clear hHeld hK
  have hHeld := hHeld2
  clear hHeld2
  (try simp only [Act.put, List.getElem_toArray, List.getElem_cons_zero, List.getElem_cons_succ, List.setIfInBounds_toArray, List.set_cons_zero, List.set_cons_succ])
  refine wpAnyH_ready (rs := [8]) (by kernel_rfl) (by simp) ?_
  refine AllReadyH.cons rfl (fun K hK => ?_) (AllReadyH.nil)
  rw [if_pos (by rfl)]
  refine wpK_build 136 _ rfl [(1, .agg dn)] (by simp only [List.map_toArray, List.map_cons, List.map_nil]; rfl) hb136 ?_
  refine hK.out _ _ (hHeld) (fun hHeld2 => ?_)
  clear hHeld hK
  have hHeld := hHeld2
  clear hHeld2
  (try simp only [Act.put, List.getElem_toArray, List.getElem_cons_zero, List.getElem_cons_succ, List.setIfInBounds_toArray, List.set_cons_zero, List.set_cons_succ])
  have T2 := Lib.hid (T1.out.alloc (.cells sz 136))
  refine wpAnyH_ready (rs := [9]) (by kernel_rfl) (by simp) ?_
  refine AllReadyH.cons rfl (fun K hK => ?_) (AllReadyH.nil)
  rw [if_pos (by rfl)]
  go_wp2_with fail
  refine hK.out _ _ (T2.out.tl.tl.at.2) (fun hHeld2 => ?_)
  clear hHeld hK
  have hHeld := hHeld2
  clear hHeld2
  (try simp only [Act.put, List.getElem_toArray, List.getElem_cons_zero, List.getElem_cons_succ, List.setIfInBounds_toArray, List.set_cons_zero, List.set_cons_succ])
  have hsz2 : sz.size = 261 := by rw [← HSZ9.out]; exact sZ_size dn
  have hsc : sz = scA sz (.slice none 0 0) (.slice none 0 0) (.slice none 0 0) := by
    have e := sZ_sc (ds := dn) hdns (by
      have e2 := dN_get d.st d.cl (.slice q3 d.rl.length k3) 257
      rw [HDN.out] at e2
      rw [e2, if_neg (by omega), if_neg (by omega), if_neg (by omega)]
      exact zD26_257)
    rw [HSZ9.out] at e; exact e
  rw [hsc] at T2
  have HS2 := Lib.hid hsz2
  obtain ⟨bs, hbs⟩ : ∃ b, w2.heap.size = b := ⟨_, rfl⟩
  rw [hbs] at T2 ⊢
  have T3 := Lib.hid (T2.out.none_ 3 1)
  have HBW : Hid (w2.alloc (.cells sz 136) = w2.alloc (.cells (scA sz (.slice none 0 0) (.slice none 0 0) (.slice none 0 0)) 136)) := Lib.hid (congrArg (fun A => w2.alloc (.cells A 136)) hsc)
  clear hb61 hb136 hsz2 hbs T1
  refine wpAnyH_take (i := 10) (v := .pointer (some ⟨bs, 0, none⟩)) rfl (by kernel_rfl) (by kernel_rfl) (by kernel_rfl) (fun _ _ _ h => h) (Or.inl ⟨by rfl, (fun w _ => by rfl)⟩) hHeld ?_
  (try simp only [Act.put, List.getElem_toArray, List.getElem_cons_zero, List.getElem_cons_succ, List.setIfInBounds_toArray, List.set_cons_zero, List.set_cons_succ])
  refine wpAnyH_done (by kernel_rfl) ?_ _
  clear hHeld
  rw [HBW.out]
  obtain ⟨y2, hy2⟩ : ∃ y, w2.alloc (.cells (scA sz (.slice none 0 0) (.slice none 0 0) (.slice none 0 0)) 136) = y := ⟨_, rfl⟩
  rw [hy2] at T3 ⊢
  clear hy2 HBW T2 hsc
  obtain ⟨n, hn⟩ : ∃ n, kl.length = n := ⟨_, rfl⟩
  have HNL := Lib.hid hn
  rw [hn] at hkl ⊢
  clear hn
  go_wp2_with fail
  go_loopw [7, 22] (fun _ i wr => ∃ (j : Nat) (kv : Value), i = .int .i64 (j : Nat) ∧ j ≤ n ∧ Hid (Sep w.heap.size w wr (rI kv (kl.take j) :: .box bs (.cells (scA sz kv (.slice none 0 0) (.slice none 0 0)) 136 (0, 0)) :: rI (.slice q3 d.rl.length k3) d.rl :: [.box b3 (.cells ds 61 (0, 0))]))) (fun _ i _ => n - (intOf i).toNat)
  case atStart => exact ⟨0, _, rfl, by omega, T3⟩
  case round =>
    clear T3
    obtain ⟨j, kv, rfl, hj, HS⟩ := hrel
    obtain ⟨wo, rfl⟩ : ∃ wo : World, wo = wr := ⟨_, rfl⟩
    by_cases hlt : j < n
    · have hjl : j < kl.length := by rw [HNL.out]; exact hlt
      obtain ⟨br, or_, rfl, hbr, hc⟩ := HK.out (by intro e; rw [e] at hjl; simp at hjl)
      obtain ⟨rk, u0, u1, u2, u3, rp, rn, rc, h0, h1, h2, h3, h4, h5, h6⟩ := hc j hjl
      have hk : ∀ o v, w.cell? ⟨br, o, none⟩ = some v → wo.cell? ⟨br, o, none⟩ = some v := fun o v h => (cell_same (HS.out.bel.block br (Nat.lt_of_lt_of_le hbr hN)) _).trans h
      have d0 := hk _ _ h0
      have d1 := hk _ _ h1
      have d2 := hk _ _ h2
      have d3 := hk _ _ h3
      have d4 := hk _ _ h4
      have d5 := hk _ _ h5
      have d6 := hk _ _ h6
      have HTK := Lib.hid (snocL kl hjl)
      obtain ⟨kx, hkx⟩ : ∃ x, kl[j] = x := ⟨_, rfl⟩
      rw [hkx] at d0 HTK
      have hjI : (j : Int) < (n : Int) := by omega
      have hj0 : ¬ (j : Int) < 0 := by omega
      obtain ⟨b7, hb7⟩ : ∃ b, wo.heap.size = b := ⟨_, rfl⟩
      have SA := Lib.hid (HS.out.allocAt hb7 (.cells #[.int .i64 kx, .int .i64 rk, .int .u64 u0, .int .u64 u1, .int .u64 u2, .int .u64 u3, .slice rp rn rc] 130))
      clear hc hk h0 h1 h2 h3 h4 h5 h6 hkx hjl hbr HS
      go_upto_region 5 with fail
      refine at_world (fun y => Sep w.heap.size w y (.box b7 (.cells #[.int .i64 kx, .int .i64 rk, .int .u64 u0, .int .u64 u1, .int .u64 u2, .int .u64 u3, .slice rp rn rc] 130 (0, 0)) :: rI kv (kl.take j) :: .box bs (.cells (scA sz kv (.slice none 0 0) (.slice none 0 0)) 136 (0, 0)) :: rI (.slice q3 d.rl.length k3) d.rl :: [.box b3 (.cells ds 61 (0, 0))])) SA.out fun y hy => ?_
      have y0 : y.cell? ⟨b7, 0, none⟩ = some (.int .i64 kx) := hy.boxAt 0
      have yk : y.cell? ⟨bs, 0, none⟩ = some kv := by
        have e := hy.tl.tl.boxAt 0
        rw [scA_get HS2.out] at e
        simpa using e
      obtain ⟨qk, ck, hkv⟩ := row_form hy.tl.at
      subst hkv
      have hbs1 : bs < y.heap.size := (It.lt hy.tl.tl.at rfl).2
      have hbs2 : b7 < y.heap.size := (It.lt hy.at rfl).2
      have SY := Lib.hid hy.tl
      clear hy SA d0 d1 d2 d3 d4 d5 d6
      have yB : (.slice qk (kl.take j).length ck : Value).ownBlock = (.slice qk (kl.take j).length ck : Value).ownBlock := rfl
      obtain ⟨lj, hlj⟩ : ∃ l, (kl.take j).length = l := ⟨_, rfl⟩
      have HLJ := Lib.hid hlj
      have hljn : lj ≤ 1000000 := by rw [← hlj, List.length_take]; omega
      rw [hlj] at SY yk
      have HOWN : Hid (y.ownsRow w.heap.size 3 1 (.slice qk lj ck) lj (zi (kl.take j))) := Lib.hid (by have e : y.ownsRow w.heap.size 3 1 (.slice qk lj ck) (kl.take j).length (zi (kl.take j)) := SY.out.at; rw [hlj] at e; exact e)
      clear yB hlj
      have SZ := Lib.hid ((SY.out.alloc (.cells #[.int .i64 kx] 3)).drew.swap)
      have hml : lj + 1 ≤ maxLen := by unfold maxLen; omega
      have hbl9 : (lj + 1) * 8 ≤ 140737488355328 := by omega
      have hszB : w.heap.size ≤ (y.alloc (.cells #[.int .i64 kx] 3)).drew.heap.size := by have := SY.out.sz; simp; omega
      go_region_law (refine R6.step_append_own rfl (.tmp 30) (.tmp 33) 25 rfl w.heap.size 3 i0 (.int .i64 0) 1 8 Try.underlying25 hi hy0 hy1 hy2 rfl (by decide) (.slice qk lj ck) lj (zi (kl.take j)) (by simp [Act.eval, Act.put]) (own_drew (World.ownsRow.alloc HOWN.out (.cells #[.int .i64 kx] 3))) ⟨y.heap.size, 0, none⟩ 1 1 [.int .i64 kx] (by simp [Act.eval, Act.put]) rfl (one_drew y (.int .i64 kx) 3) (by simp [Value.oneCell']) hml hbl9 hszB ?_; intro v2 w3 hown2 hg2 _ hat2; obtain ⟨q2, k2, rfl⟩ := row_form hown2; have S3 := Lib.hid (SZ.out.app hown2 hg2 hat2); have hc9 := box_k HS2.out S3.out.tl.tl; have hf9 : w3.frozen? ⟨bs, 0, none⟩ = false := S3.out.tl.tl.fz 0)
      all_goals
        have S4 : Hid (Sep w.heap.size w (w3.setCell ⟨bs, 0, none⟩ (.slice q2 (lj + 1) k2)) (rI (.slice q2 (lj + 1) k2) (kl.take (j + 1)) :: .box bs (.cells (scA sz (.slice q2 (lj + 1) k2) (.slice none 0 0) (.slice none 0 0)) 136 (0, 0)) :: rI (.slice q3 d.rl.length k3) d.rl :: [.box b3 (.cells ds 61 (0, 0))])) := Lib.hid (by
          have e := (S3.out.sub (L' := .row (.slice q2 (lj + 1) k2) 3 1 (lj + 1) (zi (kl.take j) ++ [.int .i64 kx]) :: .box bs (.cells (scA sz (.slice qk lj ck) (.slice none 0 0) (.slice none 0 0)) 136 (0, 0)) :: rI (.slice q3 d.rl.length k3) d.rl :: [.box b3 (.cells ds 61 (0, 0))]) (.cons_cons _ (.cons _ (.refl _)))).setAt [_] 0 (.slice q2 (lj + 1) k2)
          rw [scA_k HS2.out] at e
          have e1 : zi (kl.take (j + 1)) = zi (kl.take j) ++ [.int .i64 kx] := by rw [HTK.out]; simp [zi]
          have e2 : (kl.take (j + 1)).length = lj + 1 := by rw [HTK.out, List.length_append, HLJ.out]; rfl
          unfold rI
          rw [e1, e2]
          exact e)
        refine at_worldQ (fun y => Sep w.heap.size w y (rI (.slice q2 (lj + 1) k2) (kl.take (j + 1)) :: .box bs (.cells (scA sz (.slice q2 (lj + 1) k2) (.slice none 0 0) (.slice none 0 0)) 136 (0, 0)) :: rI (.slice q3 d.rl.length k3) d.rl :: [.box b3 (.cells ds 61 (0, 0))])) S4.out fun y9 hy9 => ?_
        have S5 := Lib.hid hy9
        clear hy9 S4 S3 hc9 hf9 hown2 hg2 hat2 SZ HOWN SY y0 yk
        go_wp2_with fail
        go_roundw
        case rel => exact ⟨j + 1, _, by go_num, by omega, S5⟩
        case measure => simp [intOf]; omega
    · obtain rfl : j = n := by omega
      have hjI : ¬ (j : Int) < (j : Int) := by omega
      have HKT : Hid (kl.take j = kl) := Lib.hid (by rw [← HNL.out, List.take_length])
      have c258 : wo.cell? ⟨b3, 257, none⟩ = some (.slice p d.nx.length c) := (HS.out.tl.tl.tl.boxAt 257).trans HD.out.nx
      obtain ⟨qk, ck, hkv⟩ := row_form HS.out.at
      subst hkv
      have S6 : Hid (Sep w.heap.size w wo (.row (.slice none 0 0) 25 1 0 [] :: .row (.slice none 0 0) 4 1 0 (zb (d.nx.take 0)) :: .box bs (.cells (scA sz (.slice qk j ck) (.slice none 0 0) (.slice none 0 0)) 136 (0, 0)) :: rI (.slice qk j ck) kl :: rI (.slice q3 d.rl.length k3) d.rl :: [.box b3 (.cells ds 61 (0, 0))])) := Lib.hid (by
        have e := HS.out
        rw [HKT.out] at e
        have hl : kl.length = j := HNL.out
        unfold rI at e
        rw [hl] at e
        unfold rI
        rw [hl]
        exact ((e.swap.none_ 4 1).none_ 25 1))
      clear HS
      go_upto_region 8 with fail
      clear c258 hjI hlt hj
      obtain ⟨m, hm9⟩ : ∃ m, d.nx.length = m := ⟨_, rfl⟩
      have HML := Lib.hid hm9
      rw [hm9] at hnx ⊢
      clear hm9
      go_loopw [9, 41] (fun _ i wr => ∃ (i9 : Nat) (nv ov : Value) (vs : List Value) (CL : List It), i = .int .i64 (i9 : Nat) ∧ i9 ≤ m ∧ Hid (vs.length = i9 ∧ ∀ i (h : i < vs.length) (h2 : i < d.nx.length), rI vs[i] d.nx[i] ∈ CL) ∧ Hid (Sep w.heap.size w wr (.row nv 25 1 i9 vs :: .row ov 4 1 i9 (zb (d.nx.take i9)) :: .box bs (.cells (scA sz (.slice qk j ck) nv ov) 136 (0, 0)) :: rI (.slice qk j ck) kl :: rI (.slice q3 d.rl.length k3) d.rl :: .box b3 (.cells ds 61 (0, 0)) :: CL))) (fun _ i _ => m - (intOf i).toNat)
      case atStart => exact ⟨0, _, _, [], [], rfl, by omega, Lib.hid ⟨rfl, fun i h => by simp at h⟩, S6⟩
      case round =>
        clear S6
        obtain ⟨i9, nv, ov, vs, CL, rfl, hi9, HVC, HS⟩ := hrel
        obtain ⟨wo, rfl⟩ : ∃ wo : World, wo = wr := ⟨_, rfl⟩
        by_cases hlt : i9 < m
        · have hil : i9 < d.nx.length := by rw [HML.out]; exact hlt
          obtain ⟨p', c', he, hh⟩ := HM.out.nx
          injection he with e1 e2 e3
          subst e1 e3
          obtain ⟨bn, on_, rfl, hbn, hcn⟩ := hh (by intro e; rw [e] at hil; simp at hil)
          obtain ⟨qf, ff, hiv, hcj⟩ := hcn i9 hil
          have hlow : ∀ z, Below w.heap.size w z → ∀ b, b < N → z.heap[b]? = w.heap[b]? := fun z hz b hb => hz.block b (Nat.lt_of_lt_of_le hb hN)
          have cx : wo.cell? ⟨bn, on_ + i9, none⟩ = some (.slice qf d.nx[i9].length ff) := (cell_same (hlow wo HS.out.bel bn hbn) _).trans hcj
          have hrl9 := HRW.out d.nx[i9] (List.getElem_mem _)
          have HIV : Hid (∀ z, Below w.heap.size w z → IV (Lt N) z d.nx[i9] (.slice qf d.nx[i9].length ff)) := Lib.hid fun z hz => IV.mono (D := Lt N) (E := Lt N) (fun b h => h) (fun b hb _ => hlow z hz b hb) hiv
          have HCLR : Hid (∀ z, Below w.heap.size w z → Calls Try.prog 51 #[.slice qf d.nx[i9].length ff] z fun e w' => ∃ v, e = .returned v ∧ w'.ownsRow z.heap.size 3 1 v d.nx[i9].length (zi d.nx[i9]) ∧ Below z.heap.size z w') := Lib.hid fun z hz =>
            clone51 (by omega) (by rw [zi_length, Nat.mul_one]) (zi_one _) (fun b hb => Nat.lt_of_lt_of_le hb (Nat.le_trans hN hz.size)) (IV.gv (HIV.out z hz))
          have HONR : Hid (∀ z, Below w.heap.size w z → Calls Try.prog 77 #[.slice qf d.nx[i9].length ff, .func (.func 78) #[] #[]] z fun e w' => e = .returned (.bool (onRow d.nx[i9])) ∧ Below z.heap.size z w') := Lib.hid fun z hz =>
            on_any (fun b hb => Nat.lt_of_lt_of_le hb (Nat.le_trans hN hz.size)) (HIV.out z hz) (by omega)
          have HTN := Lib.hid (snocL d.nx hil)
          obtain ⟨row, hrow⟩ : ∃ r, d.nx[i9] = r := ⟨_, rfl⟩
          have HROW := Lib.hid hrow
          rw [hrow] at cx hrl9 HIV HCLR HONR HTN
          clear hcn hh hiv hcj hrow hbn e2
          obtain ⟨lr, hlr⟩ : ∃ l, row.length = l := ⟨_, rfl⟩
          have HLR := Lib.hid hlr
          rw [hlr] at cx hrl9 HCLR HONR
          clear hlr HIV hlow
          have hiI : (i9 : Int) < (m : Int) := by omega
          have hi0 : ¬ (i9 : Int) < 0 := by omega
          obtain ⟨qn, cn, hnv⟩ := row_form HS.out.at
          subst hnv
          obtain ⟨qo, co, hov⟩ := row_form HS.out.tl.at
          subst hov
          have yn := box_n HS2.out HS.out.tl.tl
          have hbs1 : bs < wo.heap.size := (It.lt HS.out.tl.tl.at rfl).2
          have SD := Lib.hid HS.out.drew
          have HBD := Lib.hid HS.out.drew.bel
          go_upto_region 10 with fail
          have HN5 : Hid (∀ (y5 : World) (v5 : Value), Sep w.heap.size w y5 (.row v5 3 1 lr (zi row) :: .row (.slice qn i9 cn) 25 1 i9 vs :: .row (.slice qo i9 co) 4 1 i9 (zb (d.nx.take i9)) :: .box bs (.cells (scA sz (.slice qk j ck) (.slice qn i9 cn) (.slice qo i9 co)) 136 (0, 0)) :: rI (.slice qk j ck) kl :: rI (.slice q3 d.rl.length k3) d.rl :: .box b3 (.cells ds 61 (0, 0)) :: CL) → Sep w.heap.size w (y5.alloc (.cells #[v5] 25)) (.row (.slice qn i9 cn) 25 1 i9 vs :: .box y5.heap.size (.cells #[v5] 25 (0, 0)) :: .row v5 3 1 lr (zi row) :: .row (.slice qo i9 co) 4 1 i9 (zb (d.nx.take i9)) :: .box bs (.cells (scA sz (.slice qk j ck) (.slice qn i9 cn) (.slice qo i9 co)) 136 (0, 0)) :: rI (.slice qk j ck) kl :: rI (.slice q3 d.rl.length k3) d.rl :: .box b3 (.cells ds 61 (0, 0)) :: CL)) := Lib.hid fun y5 v5 h => (h.alloc (.cells #[v5] 25)).to 2 (by simp)
          have hml : i9 + 1 ≤ maxLen := by unfold maxLen; omega
          have hb24 : (i9 + 1) * 24 ≤ 140737488355328 := by omega
          go_region_law (first | (go_simp; go_at_call 51; refine (HCLR.out _ HBD.out).mono ?_; rintro _ y5 ⟨v5, rfl, hr5, hb5⟩; obtain ⟨q5, k5, rfl⟩ := row_form hr5; have S5 := Lib.hid (SD.out.add hb5 hr5); have e9 := box_n HS2.out S5.out.tl.tl.tl; have l9 : bs < y5.heap.size := (It.lt S5.out.tl.tl.tl.at rfl).2; have SZ := Lib.hid (HN5.out y5 _ S5.out); have hszB := SZ.out.sz; clear hr5 hb5) | (refine R6.step_append_own rfl (.tmp 50) (.tmp 53) 59 rfl w.heap.size 25 i1 (.slice none 0 0) 1 24 Try.underlying59 hi1 hx0 hx1 hx2 rfl (by decide) (.slice qn i9 cn) i9 vs (by simp [Act.eval, Act.put]) SZ.out.at ⟨y5.heap.size, 0, none⟩ 1 1 [.slice q5 lr k5] (by simp [Act.eval, Act.put]) rfl (cell_one_new y5 _ 25) (by simp [Value.oneCell']) hml hb24 hszB ?_; intro v2 w3 hown2 hg2 _ hat2; obtain ⟨q2, k2, rfl⟩ := row_form hown2; have S3 := Lib.hid (SZ.out.app hown2 hg2 hat2); have hc9 := box_n HS2.out S3.out.tl.tl.tl.tl; have hf9 : w3.frozen? ⟨bs, 258, none⟩ = false := S3.out.tl.tl.tl.tl.fz 258))
          all_goals
            have S4 : Hid (Sep w.heap.size w (w3.setCell ⟨bs, 258, none⟩ (.slice q2 (i9 + 1) k2)) (.row (.slice q2 (i9 + 1) k2) 25 1 (i9 + 1) (vs ++ [(.slice q5 lr k5)]) :: .row (.slice qo i9 co) 4 1 i9 (zb (d.nx.take i9)) :: .box bs (.cells (scA sz (.slice qk j ck) (.slice q2 (i9 + 1) k2) (.slice qo i9 co)) 136 (0, 0)) :: rI (.slice qk j ck) kl :: rI (.slice q3 d.rl.length k3) d.rl :: .box b3 (.cells ds 61 (0, 0)) :: .row (.slice q5 lr k5) 3 1 lr (zi row) :: CL)) := Lib.hid (by
              have e := S3.out.setAt [_, _, _, _] 258 (.slice q2 (i9 + 1) k2)
              rw [scA_n HS2.out] at e
              have e2 := e.sub (L' := .row (.slice q2 (i9 + 1) k2) 25 1 (i9 + 1) (vs ++ [(.slice q5 lr k5)]) :: .row (.slice q5 lr k5) 3 1 lr (zi row) :: .row (.slice qo i9 co) 4 1 i9 (zb (d.nx.take i9)) :: .box bs (.cells (scA sz (.slice qk j ck) (.slice q2 (i9 + 1) k2) (.slice qo i9 co)) 136 (0, 0)) :: rI (.slice qk j ck) kl :: rI (.slice q3 d.rl.length k3) d.rl :: .box b3 (.cells ds 61 (0, 0)) :: CL) (.cons_cons _ (.cons _ (.refl _)))
              exact e2.perm ((List.perm_middle (l₁ := [_, _, _, _, _])).symm.cons _))
            refine at_worldQ (fun y => Sep w.heap.size w y (.row (.slice q2 (i9 + 1) k2) 25 1 (i9 + 1) (vs ++ [(.slice q5 lr k5)]) :: .row (.slice qo i9 co) 4 1 i9 (zb (d.nx.take i9)) :: .box bs (.cells (scA sz (.slice qk j ck) (.slice q2 (i9 + 1) k2) (.slice qo i9 co)) 136 (0, 0)) :: rI (.slice qk j ck) kl :: rI (.slice q3 d.rl.length k3) d.rl :: .box b3 (.cells ds 61 (0, 0)) :: .row (.slice q5 lr k5) 3 1 lr (zi row) :: CL)) S4.out fun z1 hz1 => ?_
            have T1 := Lib.hid hz1
            have zo := box_o HS2.out hz1.tl.tl
            have hbs3 : bs < z1.heap.size := (It.lt hz1.tl.tl.at rfl).2
            have TD := Lib.hid hz1.drew
            have HBT := Lib.hid hz1.drew.bel
            have hml4 : i9 + 1 ≤ maxLen := hml
            have hb1 : (i9 + 1) * 1 ≤ 140737488355328 := by omega
            have HN6 : Hid (∀ (y6 : World) (v6 : Value), Sep w.heap.size w y6 (.row (.slice q2 (i9 + 1) k2) 25 1 (i9 + 1) (vs ++ [(.slice q5 lr k5)]) :: .row (.slice qo i9 co) 4 1 i9 (zb (d.nx.take i9)) :: .box bs (.cells (scA sz (.slice qk j ck) (.slice q2 (i9 + 1) k2) (.slice qo i9 co)) 136 (0, 0)) :: rI (.slice qk j ck) kl :: rI (.slice q3 d.rl.length k3) d.rl :: .box b3 (.cells ds 61 (0, 0)) :: .row (.slice q5 lr k5) 3 1 lr (zi row) :: CL) → Sep w.heap.size w (y6.alloc (.cells #[v6] 4)) (.row (.slice qo i9 co) 4 1 i9 (zb (d.nx.take i9)) :: .box y6.heap.size (.cells #[v6] 4 (0, 0)) :: .row (.slice q2 (i9 + 1) k2) 25 1 (i9 + 1) (vs ++ [(.slice q5 lr k5)]) :: .box bs (.cells (scA sz (.slice qk j ck) (.slice q2 (i9 + 1) k2) (.slice qo i9 co)) 136 (0, 0)) :: rI (.slice qk j ck) kl :: rI (.slice q3 d.rl.length k3) d.rl :: .box b3 (.cells ds 61 (0, 0)) :: .row (.slice q5 lr k5) 3 1 lr (zi row) :: CL)) := Lib.hid fun y6 v6 h => (h.alloc (.cells #[v6] 4)).to 2 (by simp)
            clear hz1 S4 S3 hc9 hf9 hown2 hg2 hat2 SZ e9 l9 hszB S5 HN5 SD HBD yn HS HCLR
            go_upto_region 11 with fail
            go_region_law (first | (go_simp; go_at_call 77; refine (HONR.out _ HBT.out).mono ?_; rintro _ y6 ⟨rfl, hb6⟩; have S6 := Lib.hid (TD.out.up hb6); have e9 := box_o HS2.out S6.out.tl.tl; have l9 : bs < y6.heap.size := (It.lt S6.out.tl.tl.at rfl).2; have SZ := Lib.hid (HN6.out y6 (.bool (onRow row)) S6.out); have hszB := SZ.out.sz; clear hb6) | (refine R6.step_append_own rfl (.tmp 62) (.tmp 65) 134 rfl w.heap.size 4 i2 (.bool false) 1 1 Try.underlying134 hi2 hw0 hw1 hw2 rfl (by decide) (.slice qo i9 co) i9 (zb (d.nx.take i9)) (by simp [Act.eval, Act.put]) SZ.out.at ⟨y6.heap.size, 0, none⟩ 1 1 [.bool (onRow row)] (by simp [Act.eval, Act.put]) rfl (cell_one_new y6 _ 4) (by simp [Value.oneCell']) hml4 hb1 hszB ?_; intro v7 w7 hown7 hg7 _ hat7; obtain ⟨q6, k6, rfl⟩ := row_form hown7; have S7 := Lib.hid (SZ.out.app hown7 hg7 hat7); have hc9 := box_o HS2.out S7.out.tl.tl.tl; have hf9 : w7.frozen? ⟨bs, 260, none⟩ = false := S7.out.tl.tl.tl.fz 260))
            all_goals
              have S8 : Hid (Sep w.heap.size w (w7.setCell ⟨bs, 260, none⟩ (.slice q6 (i9 + 1) k6)) (.row (.slice q6 (i9 + 1) k6) 4 1 (i9 + 1) (zb (d.nx.take (i9 + 1))) :: .row (.slice q2 (i9 + 1) k2) 25 1 (i9 + 1) (vs ++ [(.slice q5 lr k5)]) :: .box bs (.cells (scA sz (.slice qk j ck) (.slice q2 (i9 + 1) k2) (.slice q6 (i9 + 1) k6)) 136 (0, 0)) :: rI (.slice qk j ck) kl :: rI (.slice q3 d.rl.length k3) d.rl :: .box b3 (.cells ds 61 (0, 0)) :: .row (.slice q5 lr k5) 3 1 lr (zi row) :: CL)) := Lib.hid (by
                have e := S7.out.setAt [_, _, _] 260 (.slice q6 (i9 + 1) k6)
                rw [scA_o HS2.out] at e
                have e2 : zb (d.nx.take (i9 + 1)) = zb (d.nx.take i9) ++ [.bool (onRow row)] := by rw [HTN.out]; simp [zb]
                rw [e2]
                exact e.sub (.cons_cons _ (.cons _ (.refl _))))
              have HVC2 : Hid ((vs ++ [(.slice q5 lr k5 : Value)]).length = i9 + 1 ∧ ∀ i (h : i < (vs ++ [(.slice q5 lr k5 : Value)]).length) (h2 : i < d.nx.length), rI (vs ++ [(.slice q5 lr k5 : Value)])[i] d.nx[i] ∈ (.row (.slice q5 lr k5) 3 1 lr (zi row) :: CL : List It)) := Lib.hid (by
                refine ⟨by rw [List.length_append, HVC.out.1]; rfl, fun i h h2 => ?_⟩
                by_cases e : i < i9
                · rw [List.getElem_append_left (by rw [HVC.out.1]; exact e)]
                  exact List.mem_cons_of_mem _ (HVC.out.2 i (by rw [HVC.out.1]; exact e) h2)
                · have e2 : i = i9 := by rw [List.length_append, HVC.out.1] at h; simp at h; omega
                  subst e2
                  rw [List.getElem_append_right (by rw [HVC.out.1]; omega)]
                  simp only [HVC.out.1, Nat.sub_self, List.getElem_cons_zero]
                  have e3 : d.nx[i] = row := HROW.out
                  rw [e3]
                  unfold rI
                  rw [HLR.out]
                  exact List.mem_cons_self ..)
              refine at_worldQ (fun y => Sep w.heap.size w y (.row (.slice q6 (i9 + 1) k6) 4 1 (i9 + 1) (zb (d.nx.take (i9 + 1))) :: .row (.slice q2 (i9 + 1) k2) 25 1 (i9 + 1) (vs ++ [(.slice q5 lr k5)]) :: .box bs (.cells (scA sz (.slice qk j ck) (.slice q2 (i9 + 1) k2) (.slice q6 (i9 + 1) k6)) 136 (0, 0)) :: rI (.slice qk j ck) kl :: rI (.slice q3 d.rl.length k3) d.rl :: .box b3 (.cells ds 61 (0, 0)) :: .row (.slice q5 lr k5) 3 1 lr (zi row) :: CL)) S8.out fun z9 hz9 => ?_
              have S9 : Hid (Sep w.heap.size w z9 (.row (.slice q2 (i9 + 1) k2) 25 1 (i9 + 1) (vs ++ [(.slice q5 lr k5)]) :: .row (.slice q6 (i9 + 1) k6) 4 1 (i9 + 1) (zb (d.nx.take (i9 + 1))) :: .box bs (.cells (scA sz (.slice qk j ck) (.slice q2 (i9 + 1) k2) (.slice q6 (i9 + 1) k6)) 136 (0, 0)) :: rI (.slice qk j ck) kl :: rI (.slice q3 d.rl.length k3) d.rl :: .box b3 (.cells ds 61 (0, 0)) :: .row (.slice q5 lr k5) 3 1 lr (zi row) :: CL)) := Lib.hid hz9.swap
              clear hz9 S8 S7 hc9 hf9 hown7 hg7 hat7 SZ e9 l9 hszB S6 HN6 TD HBT zo T1 HONR
              go_wp2_with fail
              go_roundw
              case rel => exact ⟨i9 + 1, _, _, _, _, by go_num, by omega, HVC2, S9⟩
              case measure => simp [intOf]; omega
        · obtain rfl : i9 = m := by omega
          have hiI : ¬ (i9 : Int) < (i9 : Int) := by omega
          obtain ⟨qn, cn, hnv⟩ := row_form HS.out.at
          subst hnv
          obtain ⟨qo, co, hov⟩ := row_form HS.out.tl.at
          subst hov
          have HSN : Hid (SN wo.heap.size wo bs d kl) := Lib.hid (sn_of HD.out HDN.out HSZ9.out HVC.out HML.out HNL.out hnx hrl HRW.out (by
            have e := HS.out
            rw [← HML.out, List.take_length] at e
            rw [← HML.out]; exact e))
          go_wp2_with fail
          go_ret
          exact ⟨bs, rfl, HSN.out, HS.out.bel⟩
end Go.Proofs.Ytemkppjdfjoipaa.I1.X
