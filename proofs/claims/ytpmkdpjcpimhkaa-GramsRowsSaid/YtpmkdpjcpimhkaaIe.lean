/- Package grams. -/
import Derived.Test.YtpmkdpjcpimhkaaProg
import Derived.Test.YtpmkdpjcpimhkaaId0
import Derived.Deep.SlicePairs
import Derived.Deep.Slices
import Derived.Laws.IdiomArrays
import Derived.OpenShut
import Derived.WideBlind
import Derived.Great.BuildSlice
import Derived.WalkKit
import Derived.Maps.OwnSet
import Derived.Maps.OwnOps
import Derived.Maps.Own
import Derived.DeepKeys5
import Derived.BigFrame
import Derived.WalkMore
import Derived.ScopeJumps
import Derived.StillTailTactics
import Derived.Stop.BytesEq
import Derived.WalkLawsBesides
import Derived.WalkSpells
import Derived.Outline
import Derived.Lib.Walk
import Derived.Lib.Hide
import Derived.Lib.Slices
import Derived.Lib.Strings
import Derived.RegionTactic
import Derived.LoopTactic
import Derived.Below
import Derived.IntWalk
import Derived.Deep.QuietTactic
import Derived.BigQuiet
import Derived.Deep.MidRow
import Derived.Maps.AppendAt
import Derived.Laws.Rows
import Derived.Laws.Tables
import Derived.Deep.WholeRow
import Derived.Deep.Cut
import Derived.Deep.CutRange
import Derived.Lib.SliceRun
import Derived.Laws.MakeOwn
import Derived.Deep.RegionLaw
import Derived.Deep.RegionLawGrows
import Derived.Deep.RegionHeld3
import Derived.RegionCalls
import Derived.Deep.RegionWith
import Derived.Deep.Light
import Derived.Laws.CopyOwn
import Derived.Laws.ResultCell
namespace Go.Proofs.Ytpmkdpjcpimhkaa
set_option linter.unusedSimpArgs false
set_option linter.unusedVariables false
set_option maxRecDepth 100000
open Go.RowKit
/- goesRound. -/
open Go.Maps
theorem rndWs_take (l : List Pr) (j : Nat) (h : j < l.length) : rndWs (l.take (j + 1)) = if l[j].bd.length = 1 then rndWs (l.take j) ++ [(l[j].bd.headD 0, l[j].hd)] else rndWs (l.take j) := by
  unfold rndWs
  rw [List.take_add_one, List.getElem?_eq_getElem h, List.filter_append, List.map_append]
  split <;> rename_i h <;> simp [h]
theorem rndWs_len (l : List Pr) : (rndWs l).length ≤ l.length := by
  unfold rndWs
  rw [List.length_map]
  exact List.length_filter_le ..
theorem rnd_head {g : Gr} {a b : Int} (h : Rnd g a b) : ∃ p ∈ g.ps, p.hd = a := by
  cases h with
  | one hp e => exact ⟨_, hp, rfl⟩
  | go hp e h => exact ⟨_, hp, rfl⟩
noncomputable def rdB (g : Gr) : Bool := @decide (∃ x, g.t ≤ x ∧ x < g.s ∧ Rnd g x x) (Classical.propDecidable _)
theorem rdB_t {g : Gr} (h : ∃ x, g.t ≤ x ∧ x < g.s ∧ Rnd g x x) : rdB g = true := @decide_eq_true _ (Classical.propDecidable _) h
theorem rdB_f {g : Gr} (h : ¬ ∃ x, g.t ≤ x ∧ x < g.s ∧ Rnd g x x) : rdB g = false := @decide_eq_false _ (Classical.propDecidable _) h
theorem rd_yes {g : Gr} (hn : NumOk g) {k : Nat} (hk : k < 64) (h : ((tbW (Lead (rndWs g.ps) (rndT g.ps z64))).getD k 0).testBit k = true) : ∃ x, g.t ≤ x ∧ x < g.s ∧ Rnd g x x := by
  rw [tbW_get _ hk, wd_test] at h
  have hr := (rnd_sem hn k k).1 h.2
  obtain ⟨p, hp, e⟩ := rnd_head hr
  have := hn.hd p hp
  exact ⟨k, by omega, by omega, hr⟩
theorem rd_no {g : Gr} (hn : NumOk g) (h : ∀ k, k < 64 → ((tbW (Lead (rndWs g.ps) (rndT g.ps z64))).getD k 0).testBit k = false) : ¬ ∃ x, g.t ≤ x ∧ x < g.s ∧ Rnd g x x := by
  rintro ⟨x, h1, h2, hr⟩
  have h3 := hn.t1; have h4 := hn.s2
  have hk : x.toNat < 64 := by omega
  have := h x.toNat hk
  have hx : ((x.toNat : Nat) : Int) = x := by omega
  have h5 : ((tbW (Lead (rndWs g.ps) (rndT g.ps z64))).getD x.toNat 0).testBit x.toNat = true := by
    rw [tbW_get _ hk, wd_test]
    exact ⟨hk, (rnd_sem hn _ _).2 (by rw [hx]; exact hr)⟩
  rw [h5] at this; cases this
set_option maxHeartbeats 16000000 in
theorem round_any {D : Nat → Prop} {w : World} {g : Gr} {p : Option Addr} {c : Nat} (hg : GM D w g.ps p) (hn : NumOk g) :
    Calls Try.prog 36 #[.agg #[.int .i64 g.t, .int .i64 g.s, .int .i64 g.st, .slice p g.ps.length c]] w fun e w' => e = .returned (.bool (rdB g)) ∧ Below w.heap.size w w' := by
  obtain ⟨i0, hi, hiz0, hiz1, hiz2⟩ := info_parts info70
  have h1 := hn.t1; have h2 := hn.t2; have h3 := hn.s1; have h4 := hn.s2
  have hz3 := zero38
  have hz5 := zero54
  have HYS := Lib.hid (fun (k : Nat) (hk : k < 64) h => rdB_t (rd_yes hn (k := k) hk h))
  have HNO := Lib.hid (fun h => rdB_f (rd_no hn h))
  have HWS := Lib.hid (rndWs_ok hn)
  have hnl : g.ps.length ≤ 64 := hn.n2
  have hin : ∀ q ∈ g.ps, (0 ≤ q.hd ∧ q.hd < 64) ∧ ∀ x ∈ q.bd, 0 ≤ x ∧ x < 64 := fun q hq => ⟨by have := hn.hd q hq; omega, fun x hx => by have := hn.bd q hq x hx; omega⟩
  have HIN := Lib.hid hin
  obtain ⟨b1, hb1⟩ : ∃ b, w.heap.size = b := ⟨_, rfl⟩
  have HBE := Lib.hid hb1
  have S0 := Lib.hid ((Sep.start w).allocAt hb1 (.cells (gC g p c) 24))
  have hgc : gC g p c = #[.int .i64 g.t, .int .i64 g.s, .int .i64 g.st, .slice p g.ps.length c] := rfl
  have HG := Lib.hid hg
  obtain ⟨RR, hRR⟩ : ∃ R, rdB g = R := ⟨_, rfl⟩
  rw [hRR] at HYS HNO ⊢
  obtain ⟨l, hl⟩ : ∃ l, g.ps = l := ⟨_, rfl⟩
  rw [hl] at hnl HG hgc HWS HYS HNO HIN ⊢
  generalize g.t = t at hgc ⊢
  generalize g.s = s at hgc ⊢
  generalize g.st = st at hgc ⊢
  rw [hgc] at S0
  obtain ⟨T9, hT9⟩ : ∃ T, rndT l z64 = T := ⟨_, rfl⟩
  have HT9 : Hid (rndT (l.drop 0) z64 = T9) := Lib.hid hT9
  rw [hT9] at HYS HNO
  have HTO : Hid (TbOk z64) := Lib.hid z64_ok
  clear h1 h2 h3 h4 hn hg hl hgc hRR hin hT9
  go_enter Try.func36, Try.ntmps36
  go_upto_region 1 with fail
  refine at_world (fun v => Sep b1 w v [.box b1 (.cells #[.int .i64 t, .int .i64 s, .int .i64 st, .slice p l.length c] 24 (0, 0))]) (HBE.out ▸ S0.out) fun y1 hy1 => ?_
  obtain ⟨b3, hb3⟩ : ∃ b, y1.heap.size = b := ⟨_, rfl⟩
  have S2 : Hid (Sep b1 w _ [rwW (.slice none 0 0) (rndWs (l.take 0)), bxT b3 z64, .box b1 (.cells #[.int .i64 t, .int .i64 s, .int .i64 st, .slice p l.length c] 24 (0, 0))]) := Lib.hid ((hy1.allocAt hb3 (.cells (tC z64) 54)).none_ 70 2)
  clear hy1 S0 hb1
  go_upto_region 2 with fail
  refine at_world (fun v => Sep b1 w v [rwW (.slice none 0 0) (rndWs (l.take 0)), bxT b3 z64, .box b1 (.cells #[.int .i64 t, .int .i64 s, .int .i64 st, .slice p l.length c] 24 (0, 0))]) S2.out fun y2 hy2 => ?_
  have S3 := Lib.hid hy2
  clear hy2 S2 hb3
  have k3 : y2.cell? ⟨b1, 3, none⟩ = some (.slice p l.length c) := (S3.out.tl.tl.boxAt 3).trans rfl
  go_upto_region 4 with fail
  clear k3
  go_loopw [4, 12] (fun v i wr => ∃ (k : Nat) (U : List Nat), i = .int .i64 (k : Nat) ∧ k ≤ l.length ∧ Hid (TbOk U) ∧ Hid (rndT (l.drop k) U = T9) ∧ Hid (Sep b1 w wr [rwW v (rndWs (l.take k)), bxT b3 U, .box b1 (.cells #[.int .i64 t, .int .i64 s, .int .i64 st, .slice p l.length c] 24 (0, 0))])) (fun _ i _ => l.length - (intOf i).toNat)
  case atStart => exact ⟨0, z64, rfl, by omega, HTO, HT9, S3⟩
  case round =>
  clear S3 HT9 HTO
  obtain ⟨k, U, rfl, hk, HU, HT9, HS⟩ := hrel
  obtain ⟨wo, rfl⟩ : ∃ wo : World, wo = wr := ⟨_, rfl⟩
  obtain ⟨pv, cv, hv⟩ := rowF_ HS.out.at
  subst hv
  by_cases hlt : k < l.length
  · have hltI : (k : Int) < (l.length : Int) := by omega
    have hkI : ¬ (k : Int) < 0 := by omega
    obtain ⟨bb, o, q, d, rfl, hbb, c0, c1, c2, hiv, hbdl, hmem⟩ := (HG.out.up (HBE.out ▸ HS.out.bel)).at hlt
    have hbw := rndWs_take l k hlt
    have hwl : (rndWs (l.take k)).length ≤ k := Nat.le_trans (rndWs_len _) (by rw [List.length_take]; omega)
    have hgo : rndT (l.drop (k + 1)) (if l[k].bd.length = 1 then up1 U l[k].hd.toNat (2 ^ (l[k].bd.headD 0).toNat) else U) = T9 := by
      rw [← HT9.out, List.drop_eq_getElem_cons hlt, rndT]
    obtain ⟨x, hxx⟩ : ∃ x, l[k] = x := ⟨_, rfl⟩
    rw [hxx] at c0 c1 c2 hiv hbdl hmem hbw hgo
    have hx := HIN.out x hmem
    obtain ⟨b6, hb6⟩ : ∃ b, wo.heap.size = b := ⟨_, rfl⟩
    obtain ⟨ws, hws⟩ : ∃ ws, rndWs (l.take k) = ws := ⟨_, rfl⟩
    rw [hws] at hbw hwl HS ⊢
    clear hws
    have S5 := Lib.hid (HS.out.allocAt hb6 (.cells #[.int .i64 x.hd, .slice q x.bd.length d, .bool x.rt] 38))
    by_cases hl1 : x.bd.length = 1
    · rw [if_pos hl1] at hbw hgo
      have hne : x.bd ≠ [] := by intro e; rw [e] at hl1; simp at hl1
      have hl0 : 0 < x.bd.length := by omega
      obtain ⟨q', d', he, hh⟩ := hiv
      injection he with e1 e2 e3
      subst e1 e3
      obtain ⟨b9, o9, rfl, hD9, hc9⟩ := hh hne
      have c9 := hc9 0 hl0
      have hhd := hd_get hl0
      have hfy := hx.2 _ (hd_mem hne)
      rw [hhd, Nat.add_zero] at c9
      have hb9 : b9 < b1 := by rw [← HBE.out]; exact HG.out.lt b9 hD9
      have c9w : w.cell? ⟨b9, o9, none⟩ = some (.int .i64 (x.bd.headD 0)) := (cell_same (HS.out.bel.block b9 hb9) _).symm.trans c9
      rw [hl1] at S5 c1
      have H1 := Lib.hid (fun w => one_any hfy.1 hfy.2 w)
      have hpw := w_pow (n := (x.bd.headD 0).toNat) (by omega)
      obtain ⟨hn, hhn⟩ : ∃ hn : Nat, (hn : Int) = x.hd := ⟨x.hd.toNat, by omega⟩
      have hhn2 : x.hd.toNat = hn := by omega
      have hn64 : hn < 64 := by omega
      rw [hhn2] at hgo
      rw [← hhn] at c0 hbw S5
      obtain ⟨pw, hpwE⟩ : ∃ pw, 2 ^ (x.bd.headD 0).toNat = pw := ⟨_, rfl⟩
      rw [hpwE] at H1 hpw hgo
      have hor := b_or (HU.out.lt hn) hpw
      have HU2 := Lib.hid (up1_ok HU.out (k := hn) hpw)
      have e3 : tC (up1 U hn pw) = (tC U).setIfInBounds hn (.int .u64 ((U.getD hn 0 ||| pw : Nat) : Int)) := by unfold up1; rw [tC_set]
      have HGO := Lib.hid hgo
      have HBW := Lib.hid hbw
      have HWL := Lib.hid hwl
      have HE3 := Lib.hid e3
      have tb : ∀ v : World, v.heap[b3]? = some (.cells (tC U) 54 (0, 0)) → v.cell? ⟨b3, hn, none⟩ = some (.int .u64 ((U.getD hn 0 : Nat) : Int)) := fun v hv => (cell_of_row v b3 hn _ 54 (0, 0) hv).trans (tC_get U (by rw [HU.out.ln]; exact hn64))
      have TBH := Lib.hid tb
      generalize x.bd.headD 0 = fy at c9w HBW H1
      generalize x.rt = rt at c2 S5
      generalize U.getD hn 0 = old at hor HE3 TBH
      have hn0 : ¬ (hn : Int) < 0 := by omega
      have hnI : (hn : Int) < 64 := by omega
      clear HS hh hc9 e2 hbw hmem hbdl hhd c9 hwl hxx hx hfy hpw hpwE hgo e3 tb hne hl0 hl1 hhn hhn2 HT9 hD9
      go_upto_region 7 with fail
      refine at_world (fun v => Sep b1 w v [.box b6 (.cells #[.int .i64 (hn : Nat), .slice (some ⟨b9, o9, none⟩) 1 d, .bool rt] 38 (0, 0)), rwW (.slice pv ws.length cv) ws, bxT b3 U, .box b1 (.cells #[.int .i64 t, .int .i64 s, .int .i64 st, .slice (some ⟨bb, o, none⟩) l.length c] 24 (0, 0))]) S5.out fun y8 hy8 => ?_
      have S6 := Lib.hid hy8
      have HSK : Hid (∀ (v : World) (M : List It), Sep b1 w v M → .box b6 (.cells #[.int .i64 (hn : Nat), .slice (some ⟨b9, o9, none⟩) 1 d, .bool rt] 38 (0, 0)) ∈ M → v.cell? ⟨b6, 0, none⟩ = some (.int .i64 (hn : Nat)) ∧ v.cell? ⟨b6, 1, none⟩ = some (.slice (some ⟨b9, o9, none⟩) 1 d) ∧ v.cell? ⟨b9, o9, none⟩ = some (.int .i64 fy)) := Lib.hid (fun v M hs hmem => ⟨(cell_of_row v b6 0 _ 38 (0, 0) (hs.li _ hmem).2).trans rfl, (cell_of_row v b6 1 _ 38 (0, 0) (hs.li _ hmem).2).trans rfl, cell_up c9w hs.bel hb9⟩)
      clear hy8 S5 hb6 c0 c1 c2 c9w
      have SD := Lib.hid S6.out.drew
      have k3 := TBH.out _ SD.out.tl.tl.at.2
      have f3 : y8.drew.frozen? ⟨b3, hn, none⟩ = false := SD.out.tl.tl.fz hn
      have SE := Lib.hid (SD.out.setAt [_, _] hn (.int .u64 ((old ||| pw : Nat) : Int)))
      rw [← HE3.out] at SE
      refine wp_region_held_drew (S := fun v => v.cell? ⟨b6, 0, none⟩ = some (.int .i64 (hn : Nat)) ∧ v.cell? ⟨b6, 1, none⟩ = some (.slice (some ⟨b9, o9, none⟩) 1 d) ∧ v.cell? ⟨b9, o9, none⟩ = some (.int .i64 fy)) (by kernel_rfl) (HSK.out _ _ SD.out (by simp)) (fun hHeld => ?_)
      refine wpAnyH_take (i := 0) (v := (.pointer (some ⟨b6, 0, none⟩))) rfl (by kernel_rfl) (by kernel_rfl) (by kernel_rfl) (fun _ _ _ h => h) (Or.inl ⟨by rfl, by (intro w hSw; (try dsimp only at hSw); go_simp)⟩) hHeld ?_
      (try simp only [Act.put, List.getElem_toArray, List.getElem_cons_zero, List.getElem_cons_succ, List.setIfInBounds_toArray, List.set_cons_zero, List.set_cons_succ])
      refine wpAnyH_take (i := 1) (v := (.int .i64 (hn : Nat))) rfl (by kernel_rfl) (by kernel_rfl) (by kernel_rfl) (fun _ _ _ h => h) (Or.inl ⟨by rfl, by (intro w9 hSw; (try dsimp only at hSw); have c9_ := hSw.1; go_simp)⟩) hHeld ?_
      (try simp only [Act.put, List.getElem_toArray, List.getElem_cons_zero, List.getElem_cons_succ, List.setIfInBounds_toArray, List.set_cons_zero, List.set_cons_succ])
      refine wpAnyH_take (i := 2) (v := (.pointer (some ⟨b3, hn, none⟩))) rfl (by kernel_rfl) (by kernel_rfl) (by kernel_rfl) (fun _ _ _ h => h) (Or.inl ⟨by rfl, by (intro w hSw; (try dsimp only at hSw); go_simp)⟩) hHeld ?_
      (try simp only [Act.put, List.getElem_toArray, List.getElem_cons_zero, List.getElem_cons_succ, List.setIfInBounds_toArray, List.set_cons_zero, List.set_cons_succ])
      refine wpAnyH_take (i := 4) (v := (.pointer (some ⟨b6, 1, none⟩))) rfl (by kernel_rfl) (by kernel_rfl) (by kernel_rfl) (fun _ _ _ h => h) (Or.inl ⟨by rfl, by (intro w hSw; (try dsimp only at hSw); go_simp)⟩) hHeld ?_
      (try simp only [Act.put, List.getElem_toArray, List.getElem_cons_zero, List.getElem_cons_succ, List.setIfInBounds_toArray, List.set_cons_zero, List.set_cons_succ])
      refine wpAnyH_take (i := 5) (v := (.slice (some ⟨b9, o9, none⟩) 1 d)) rfl (by kernel_rfl) (by kernel_rfl) (by kernel_rfl) (fun _ _ _ h => h) (Or.inl ⟨by rfl, by (intro w9 hSw; (try dsimp only at hSw); have c9_ := hSw.2.1; go_simp)⟩) hHeld ?_
      (try simp only [Act.put, List.getElem_toArray, List.getElem_cons_zero, List.getElem_cons_succ, List.setIfInBounds_toArray, List.set_cons_zero, List.set_cons_succ])
      refine wpAnyH_take (i := 6) (v := (.pointer (some ⟨b9, o9, none⟩))) rfl (by kernel_rfl) (by kernel_rfl) (by kernel_rfl) (fun _ _ _ h => h) (Or.inl ⟨by rfl, by (intro w hSw; (try dsimp only at hSw); go_simp)⟩) hHeld ?_
      (try simp only [Act.put, List.getElem_toArray, List.getElem_cons_zero, List.getElem_cons_succ, List.setIfInBounds_toArray, List.set_cons_zero, List.set_cons_succ])
      refine wpAnyH_take (i := 7) (v := (.int .i64 fy)) rfl (by kernel_rfl) (by kernel_rfl) (by kernel_rfl) (fun _ _ _ h => h) (Or.inl ⟨by rfl, by (intro w9 hSw; (try dsimp only at hSw); have c9_ := hSw.2.2; go_simp)⟩) hHeld ?_
      (try simp only [Act.put, List.getElem_toArray, List.getElem_cons_zero, List.getElem_cons_succ, List.setIfInBounds_toArray, List.set_cons_zero, List.set_cons_succ])
      refine wpAnyH_ready (rs := [3, 8]) (by kernel_rfl) (by simp) ?_
      refine AllReadyH.cons rfl (fun K9 hK => ?_) (AllReadyH.cons rfl (fun K9 hK => ?_) (AllReadyH.nil))
      · rw [if_pos (by rfl)]
        go_wp2_with fail
        refine hK.out _ _ (HSK.out _ _ SD.out (by simp)) (fun hHeld2 => ?_)
        clear hHeld hK
        have hHeld := hHeld2
        clear hHeld2
        (try simp only [Act.put, List.getElem_toArray, List.getElem_cons_zero, List.getElem_cons_succ, List.setIfInBounds_toArray, List.set_cons_zero, List.set_cons_succ])
        refine wpAnyH_ready (rs := [8]) (by kernel_rfl) (by simp) ?_
        refine AllReadyH.cons rfl (fun K9 hK => ?_) (AllReadyH.nil)
        rw [if_pos (by rfl)]
        go_wp2_with fail
        refine (H1.out _).mono ?_
        rintro _ w2 ⟨rfl, rfl⟩
        refine hK.out _ _ (HSK.out _ _ SD.out (by simp)) (fun hHeld2 => ?_)
        clear hHeld hK
        have hHeld := hHeld2
        clear hHeld2
        (try simp only [Act.put, List.getElem_toArray, List.getElem_cons_zero, List.getElem_cons_succ, List.setIfInBounds_toArray, List.set_cons_zero, List.set_cons_succ])
        refine wpAnyH_take (i := 9) (v := (.int .u64 ((old ||| pw : Nat) : Int))) rfl (by kernel_rfl) (by kernel_rfl) (by kernel_rfl) (fun _ _ _ h => h) (Or.inl ⟨by rfl, by (intro w hSw; (try dsimp only at hSw); go_simp)⟩) hHeld ?_
        (try simp only [Act.put, List.getElem_toArray, List.getElem_cons_zero, List.getElem_cons_succ, List.setIfInBounds_toArray, List.set_cons_zero, List.set_cons_succ])
        refine wpAnyH_take (i := 10) (v := (.pointer (some ⟨b3, hn, none⟩))) rfl (by kernel_rfl) (by kernel_rfl) (by kernel_rfl) (fun _ _ _ h => h) (Or.inl ⟨by rfl, by (intro w hSw; (try dsimp only at hSw); go_simp)⟩) hHeld ?_
        (try simp only [Act.put, List.getElem_toArray, List.getElem_cons_zero, List.getElem_cons_succ, List.setIfInBounds_toArray, List.set_cons_zero, List.set_cons_succ])
        refine wpAnyH_ready (rs := [11]) (by kernel_rfl) (by simp) ?_
        refine AllReadyH.cons rfl (fun K9 hK => ?_) (AllReadyH.nil)
        rw [if_pos (by rfl)]
        go_wp2_with fail
        refine hK.out _ _ (HSK.out _ _ SE.out (by simp)) (fun hHeld2 => ?_)
        clear hHeld hK
        have hHeld := hHeld2
        clear hHeld2
        (try simp only [Act.put, List.getElem_toArray, List.getElem_cons_zero, List.getElem_cons_succ, List.setIfInBounds_toArray, List.set_cons_zero, List.set_cons_succ])
        refine wpAnyH_done (by kernel_rfl) ?_ _
        clear hHeld k3 f3
        go_upto_region 8 with fail
        refine at_world (fun v => Sep b1 w v ([.box b6 (.cells #[.int .i64 (hn : Nat), .slice (some ⟨b9, o9, none⟩) 1 d, .bool rt] 38 (0, 0)), rwW (.slice pv ws.length cv) ws] ++ bxT b3 (up1 U hn pw) :: [.box b1 (.cells #[.int .i64 t, .int .i64 s, .int .i64 st, .slice (some ⟨bb, o, none⟩) l.length c] 24 (0, 0))])) SE.out fun y9 hy9 => ?_
        have S7 := Lib.hid hy9
        clear hy9 SE S6 SD
        have SD2 := Lib.hid (S7.out.drew)
        refine wp_region_held_drew (S := fun v => v.cell? ⟨b6, 0, none⟩ = some (.int .i64 (hn : Nat)) ∧ v.cell? ⟨b6, 1, none⟩ = some (.slice (some ⟨b9, o9, none⟩) 1 d) ∧ v.cell? ⟨b9, o9, none⟩ = some (.int .i64 fy)) (by kernel_rfl) (HSK.out _ _ SD2.out (by simp)) (fun hHeld => ?_)
        refine wpAnyH_take (i := 0) (v := (.slice pv ws.length cv)) rfl (by kernel_rfl) (by kernel_rfl) (by kernel_rfl) (fun _ _ _ h => h) (Or.inl ⟨by rfl, by (intro w hSw; (try dsimp only at hSw); go_simp)⟩) hHeld ?_
        (try simp only [Act.put, List.getElem_toArray, List.getElem_cons_zero, List.getElem_cons_succ, List.setIfInBounds_toArray, List.set_cons_zero, List.set_cons_succ])
        refine wpAnyH_take (i := 1) (v := (.pointer (some ⟨b6, 1, none⟩))) rfl (by kernel_rfl) (by kernel_rfl) (by kernel_rfl) (fun _ _ _ h => h) (Or.inl ⟨by rfl, by (intro w hSw; (try dsimp only at hSw); go_simp)⟩) hHeld ?_
        (try simp only [Act.put, List.getElem_toArray, List.getElem_cons_zero, List.getElem_cons_succ, List.setIfInBounds_toArray, List.set_cons_zero, List.set_cons_succ])
        refine wpAnyH_take (i := 2) (v := (.slice (some ⟨b9, o9, none⟩) 1 d)) rfl (by kernel_rfl) (by kernel_rfl) (by kernel_rfl) (fun _ _ _ h => h) (Or.inl ⟨by rfl, by (intro w9 hSw; (try dsimp only at hSw); have c9_ := hSw.2.1; go_simp)⟩) hHeld ?_
        (try simp only [Act.put, List.getElem_toArray, List.getElem_cons_zero, List.getElem_cons_succ, List.setIfInBounds_toArray, List.set_cons_zero, List.set_cons_succ])
        refine wpAnyH_take (i := 3) (v := (.pointer (some ⟨b9, o9, none⟩))) rfl (by kernel_rfl) (by kernel_rfl) (by kernel_rfl) (fun _ _ _ h => h) (Or.inl ⟨by rfl, by (intro w hSw; (try dsimp only at hSw); go_simp)⟩) hHeld ?_
        (try simp only [Act.put, List.getElem_toArray, List.getElem_cons_zero, List.getElem_cons_succ, List.setIfInBounds_toArray, List.set_cons_zero, List.set_cons_succ])
        refine wpAnyH_take (i := 4) (v := (.int .i64 fy)) rfl (by kernel_rfl) (by kernel_rfl) (by kernel_rfl) (fun _ _ _ h => h) (Or.inl ⟨by rfl, by (intro w9 hSw; (try dsimp only at hSw); have c9_ := hSw.2.2; go_simp)⟩) hHeld ?_
        (try simp only [Act.put, List.getElem_toArray, List.getElem_cons_zero, List.getElem_cons_succ, List.setIfInBounds_toArray, List.set_cons_zero, List.set_cons_succ])
        refine wpAnyH_take (i := 5) (v := (.pointer (some ⟨b6, 0, none⟩))) rfl (by kernel_rfl) (by kernel_rfl) (by kernel_rfl) (fun _ _ _ h => h) (Or.inl ⟨by rfl, by (intro w hSw; (try dsimp only at hSw); go_simp)⟩) hHeld ?_
        (try simp only [Act.put, List.getElem_toArray, List.getElem_cons_zero, List.getElem_cons_succ, List.setIfInBounds_toArray, List.set_cons_zero, List.set_cons_succ])
        refine wpAnyH_take (i := 6) (v := (.int .i64 (hn : Nat))) rfl (by kernel_rfl) (by kernel_rfl) (by kernel_rfl) (fun _ _ _ h => h) (Or.inl ⟨by rfl, by (intro w9 hSw; (try dsimp only at hSw); have c9_ := hSw.1; go_simp)⟩) hHeld ?_
        (try simp only [Act.put, List.getElem_toArray, List.getElem_cons_zero, List.getElem_cons_succ, List.setIfInBounds_toArray, List.set_cons_zero, List.set_cons_succ])
        refine wpAnyH_take (i := 7) (v := (.agg #[.int .i64 fy, .int .i64 (hn : Nat)])) rfl (by kernel_rfl) (by kernel_rfl) (by kernel_rfl) (fun _ _ _ h => h) (Or.inl ⟨by rfl, by (intro w hSw; (try dsimp only at hSw); go_simp)⟩) hHeld ?_
        (try simp only [Act.put, List.getElem_toArray, List.getElem_cons_zero, List.getElem_cons_succ, List.setIfInBounds_toArray, List.set_cons_zero, List.set_cons_succ])
        have SH := Lib.hid (SD2.out.up ((Below.refl _ _).alloc (Nat.le_refl _) (.cells #[.int .i64 fy, .int .i64 (hn : Nat)] 70)))
        refine wpAnyH_ready (rs := [8]) (by kernel_rfl) (by simp) ?_
        refine AllReadyH.cons rfl (fun K9 hK => ?_) (AllReadyH.nil)
        rw [if_pos (by rfl)]
        go_wp2_with fail
        refine hK.out _ _ (HSK.out _ _ SH.out (by simp)) (fun hHeld2 => ?_)
        clear hHeld hK
        have hHeld := hHeld2
        clear hHeld2
        (try simp only [Act.put, List.getElem_toArray, List.getElem_cons_zero, List.getElem_cons_succ, List.setIfInBounds_toArray, List.set_cons_zero, List.set_cons_succ])
        refine wpAnyH_ready (rs := [9]) (by kernel_rfl) (by simp) ?_
        refine AllReadyH.cons rfl (fun K9 hK => ?_) (AllReadyH.nil)
        rw [if_pos (by rfl)]
        refine wp_append_own (.tmp 31) (.tmp 39) 68 rfl b1 70 i0 (.agg #[.int .i64 0, .int .i64 0]) 2 16 Try.underlying68 hi hiz0 hiz1 hiz2 rfl (by decide) (.slice pv ws.length cv) ws.length (zw ws) rfl (SH.out.li (rwW (.slice pv ws.length cv) ws) (by simp)) ⟨y9.drew.heap.size, 0, none⟩ 1 1 [.int .i64 fy, .int .i64 (hn : Nat)] rfl rfl ?e2_1 ?e3_1 ?e4_1 ?e5_1 ?e6_1 ?_
        case e2_1 => exact new_pair y9.drew _ _ 70
        case e3_1 => simp [Value.oneCell']
        case e4_1 => have := HWL.out; unfold maxLen; omega
        case e5_1 => have := HWL.out; omega
        case e6_1 => exact SH.out.sz
        intro v' wa hown hgrow hat
        have hs7 := Sep.wayAt [_] SH.out hown hgrow hat
        rw [← HBW.out] at hs7
        have S8 := Lib.hid hs7
        clear hs7 hown hgrow hat SH
        refine hK.out _ _ (HSK.out _ _ S8.out (by simp)) (fun hHeld2 => ?_)
        clear hHeld hK
        have hHeld := hHeld2
        clear hHeld2
        (try simp only [Act.put, List.getElem_toArray, List.getElem_cons_zero, List.getElem_cons_succ, List.setIfInBounds_toArray, List.set_cons_zero, List.set_cons_succ])
        refine wpAnyH_take (i := 10) (v := v') rfl (by kernel_rfl) (by kernel_rfl) (by kernel_rfl) (fun _ _ _ h => h) (Or.inl ⟨by rfl, by (intro w hSw; (try dsimp only at hSw); go_simp)⟩) hHeld ?_
        (try simp only [Act.put, List.getElem_toArray, List.getElem_cons_zero, List.getElem_cons_succ, List.setIfInBounds_toArray, List.set_cons_zero, List.set_cons_succ])
        refine wpAnyH_done (by kernel_rfl) ?_ _
        clear hHeld
        go_wp2_with fail
        go_roundw
        case rel => exact ⟨k + 1, up1 U hn pw, by go_num, by omega, HU2, HGO, Lib.hid (Sep.tl S8.out)⟩
        case measure => simp [intOf]; omega
      · rw [if_pos (by rfl)]
        go_wp2_with fail
        refine (H1.out _).mono ?_
        rintro _ w2 ⟨rfl, rfl⟩
        refine hK.out _ _ (HSK.out _ _ SD.out (by simp)) (fun hHeld2 => ?_)
        clear hHeld hK
        have hHeld := hHeld2
        clear hHeld2
        (try simp only [Act.put, List.getElem_toArray, List.getElem_cons_zero, List.getElem_cons_succ, List.setIfInBounds_toArray, List.set_cons_zero, List.set_cons_succ])
        refine wpAnyH_ready (rs := [3]) (by kernel_rfl) (by simp) ?_
        refine AllReadyH.cons rfl (fun K9 hK => ?_) (AllReadyH.nil)
        rw [if_pos (by rfl)]
        go_wp2_with fail
        refine hK.out _ _ (HSK.out _ _ SD.out (by simp)) (fun hHeld2 => ?_)
        clear hHeld hK
        have hHeld := hHeld2
        clear hHeld2
        (try simp only [Act.put, List.getElem_toArray, List.getElem_cons_zero, List.getElem_cons_succ, List.setIfInBounds_toArray, List.set_cons_zero, List.set_cons_succ])
        refine wpAnyH_take (i := 9) (v := (.int .u64 ((old ||| pw : Nat) : Int))) rfl (by kernel_rfl) (by kernel_rfl) (by kernel_rfl) (fun _ _ _ h => h) (Or.inl ⟨by rfl, by (intro w hSw; (try dsimp only at hSw); go_simp)⟩) hHeld ?_
        (try simp only [Act.put, List.getElem_toArray, List.getElem_cons_zero, List.getElem_cons_succ, List.setIfInBounds_toArray, List.set_cons_zero, List.set_cons_succ])
        refine wpAnyH_take (i := 10) (v := (.pointer (some ⟨b3, hn, none⟩))) rfl (by kernel_rfl) (by kernel_rfl) (by kernel_rfl) (fun _ _ _ h => h) (Or.inl ⟨by rfl, by (intro w hSw; (try dsimp only at hSw); go_simp)⟩) hHeld ?_
        (try simp only [Act.put, List.getElem_toArray, List.getElem_cons_zero, List.getElem_cons_succ, List.setIfInBounds_toArray, List.set_cons_zero, List.set_cons_succ])
        refine wpAnyH_ready (rs := [11]) (by kernel_rfl) (by simp) ?_
        refine AllReadyH.cons rfl (fun K9 hK => ?_) (AllReadyH.nil)
        rw [if_pos (by rfl)]
        go_wp2_with fail
        refine hK.out _ _ (HSK.out _ _ SE.out (by simp)) (fun hHeld2 => ?_)
        clear hHeld hK
        have hHeld := hHeld2
        clear hHeld2
        (try simp only [Act.put, List.getElem_toArray, List.getElem_cons_zero, List.getElem_cons_succ, List.setIfInBounds_toArray, List.set_cons_zero, List.set_cons_succ])
        refine wpAnyH_done (by kernel_rfl) ?_ _
        clear hHeld k3 f3
        go_upto_region 8 with fail
        refine at_world (fun v => Sep b1 w v ([.box b6 (.cells #[.int .i64 (hn : Nat), .slice (some ⟨b9, o9, none⟩) 1 d, .bool rt] 38 (0, 0)), rwW (.slice pv ws.length cv) ws] ++ bxT b3 (up1 U hn pw) :: [.box b1 (.cells #[.int .i64 t, .int .i64 s, .int .i64 st, .slice (some ⟨bb, o, none⟩) l.length c] 24 (0, 0))])) SE.out fun y9 hy9 => ?_
        have S7 := Lib.hid hy9
        clear hy9 SE S6 SD
        have SD2 := Lib.hid (S7.out.drew)
        refine wp_region_held_drew (S := fun v => v.cell? ⟨b6, 0, none⟩ = some (.int .i64 (hn : Nat)) ∧ v.cell? ⟨b6, 1, none⟩ = some (.slice (some ⟨b9, o9, none⟩) 1 d) ∧ v.cell? ⟨b9, o9, none⟩ = some (.int .i64 fy)) (by kernel_rfl) (HSK.out _ _ SD2.out (by simp)) (fun hHeld => ?_)
        refine wpAnyH_take (i := 0) (v := (.slice pv ws.length cv)) rfl (by kernel_rfl) (by kernel_rfl) (by kernel_rfl) (fun _ _ _ h => h) (Or.inl ⟨by rfl, by (intro w hSw; (try dsimp only at hSw); go_simp)⟩) hHeld ?_
        (try simp only [Act.put, List.getElem_toArray, List.getElem_cons_zero, List.getElem_cons_succ, List.setIfInBounds_toArray, List.set_cons_zero, List.set_cons_succ])
        refine wpAnyH_take (i := 1) (v := (.pointer (some ⟨b6, 1, none⟩))) rfl (by kernel_rfl) (by kernel_rfl) (by kernel_rfl) (fun _ _ _ h => h) (Or.inl ⟨by rfl, by (intro w hSw; (try dsimp only at hSw); go_simp)⟩) hHeld ?_
        (try simp only [Act.put, List.getElem_toArray, List.getElem_cons_zero, List.getElem_cons_succ, List.setIfInBounds_toArray, List.set_cons_zero, List.set_cons_succ])
        refine wpAnyH_take (i := 2) (v := (.slice (some ⟨b9, o9, none⟩) 1 d)) rfl (by kernel_rfl) (by kernel_rfl) (by kernel_rfl) (fun _ _ _ h => h) (Or.inl ⟨by rfl, by (intro w9 hSw; (try dsimp only at hSw); have c9_ := hSw.2.1; go_simp)⟩) hHeld ?_
        (try simp only [Act.put, List.getElem_toArray, List.getElem_cons_zero, List.getElem_cons_succ, List.setIfInBounds_toArray, List.set_cons_zero, List.set_cons_succ])
        refine wpAnyH_take (i := 3) (v := (.pointer (some ⟨b9, o9, none⟩))) rfl (by kernel_rfl) (by kernel_rfl) (by kernel_rfl) (fun _ _ _ h => h) (Or.inl ⟨by rfl, by (intro w hSw; (try dsimp only at hSw); go_simp)⟩) hHeld ?_
        (try simp only [Act.put, List.getElem_toArray, List.getElem_cons_zero, List.getElem_cons_succ, List.setIfInBounds_toArray, List.set_cons_zero, List.set_cons_succ])
        refine wpAnyH_take (i := 4) (v := (.int .i64 fy)) rfl (by kernel_rfl) (by kernel_rfl) (by kernel_rfl) (fun _ _ _ h => h) (Or.inl ⟨by rfl, by (intro w9 hSw; (try dsimp only at hSw); have c9_ := hSw.2.2; go_simp)⟩) hHeld ?_
        (try simp only [Act.put, List.getElem_toArray, List.getElem_cons_zero, List.getElem_cons_succ, List.setIfInBounds_toArray, List.set_cons_zero, List.set_cons_succ])
        refine wpAnyH_take (i := 5) (v := (.pointer (some ⟨b6, 0, none⟩))) rfl (by kernel_rfl) (by kernel_rfl) (by kernel_rfl) (fun _ _ _ h => h) (Or.inl ⟨by rfl, by (intro w hSw; (try dsimp only at hSw); go_simp)⟩) hHeld ?_
        (try simp only [Act.put, List.getElem_toArray, List.getElem_cons_zero, List.getElem_cons_succ, List.setIfInBounds_toArray, List.set_cons_zero, List.set_cons_succ])
        refine wpAnyH_take (i := 6) (v := (.int .i64 (hn : Nat))) rfl (by kernel_rfl) (by kernel_rfl) (by kernel_rfl) (fun _ _ _ h => h) (Or.inl ⟨by rfl, by (intro w9 hSw; (try dsimp only at hSw); have c9_ := hSw.1; go_simp)⟩) hHeld ?_
        (try simp only [Act.put, List.getElem_toArray, List.getElem_cons_zero, List.getElem_cons_succ, List.setIfInBounds_toArray, List.set_cons_zero, List.set_cons_succ])
        refine wpAnyH_take (i := 7) (v := (.agg #[.int .i64 fy, .int .i64 (hn : Nat)])) rfl (by kernel_rfl) (by kernel_rfl) (by kernel_rfl) (fun _ _ _ h => h) (Or.inl ⟨by rfl, by (intro w hSw; (try dsimp only at hSw); go_simp)⟩) hHeld ?_
        (try simp only [Act.put, List.getElem_toArray, List.getElem_cons_zero, List.getElem_cons_succ, List.setIfInBounds_toArray, List.set_cons_zero, List.set_cons_succ])
        have SH := Lib.hid (SD2.out.up ((Below.refl _ _).alloc (Nat.le_refl _) (.cells #[.int .i64 fy, .int .i64 (hn : Nat)] 70)))
        refine wpAnyH_ready (rs := [8]) (by kernel_rfl) (by simp) ?_
        refine AllReadyH.cons rfl (fun K9 hK => ?_) (AllReadyH.nil)
        rw [if_pos (by rfl)]
        go_wp2_with fail
        refine hK.out _ _ (HSK.out _ _ SH.out (by simp)) (fun hHeld2 => ?_)
        clear hHeld hK
        have hHeld := hHeld2
        clear hHeld2
        (try simp only [Act.put, List.getElem_toArray, List.getElem_cons_zero, List.getElem_cons_succ, List.setIfInBounds_toArray, List.set_cons_zero, List.set_cons_succ])
        refine wpAnyH_ready (rs := [9]) (by kernel_rfl) (by simp) ?_
        refine AllReadyH.cons rfl (fun K9 hK => ?_) (AllReadyH.nil)
        rw [if_pos (by rfl)]
        refine wp_append_own (.tmp 31) (.tmp 39) 68 rfl b1 70 i0 (.agg #[.int .i64 0, .int .i64 0]) 2 16 Try.underlying68 hi hiz0 hiz1 hiz2 rfl (by decide) (.slice pv ws.length cv) ws.length (zw ws) rfl (SH.out.li (rwW (.slice pv ws.length cv) ws) (by simp)) ⟨y9.drew.heap.size, 0, none⟩ 1 1 [.int .i64 fy, .int .i64 (hn : Nat)] rfl rfl ?e2_2 ?e3_2 ?e4_2 ?e5_2 ?e6_2 ?_
        case e2_2 => exact new_pair y9.drew _ _ 70
        case e3_2 => simp [Value.oneCell']
        case e4_2 => have := HWL.out; unfold maxLen; omega
        case e5_2 => have := HWL.out; omega
        case e6_2 => exact SH.out.sz
        intro v' wa hown hgrow hat
        have hs7 := Sep.wayAt [_] SH.out hown hgrow hat
        rw [← HBW.out] at hs7
        have S8 := Lib.hid hs7
        clear hs7 hown hgrow hat SH
        refine hK.out _ _ (HSK.out _ _ S8.out (by simp)) (fun hHeld2 => ?_)
        clear hHeld hK
        have hHeld := hHeld2
        clear hHeld2
        (try simp only [Act.put, List.getElem_toArray, List.getElem_cons_zero, List.getElem_cons_succ, List.setIfInBounds_toArray, List.set_cons_zero, List.set_cons_succ])
        refine wpAnyH_take (i := 10) (v := v') rfl (by kernel_rfl) (by kernel_rfl) (by kernel_rfl) (fun _ _ _ h => h) (Or.inl ⟨by rfl, by (intro w hSw; (try dsimp only at hSw); go_simp)⟩) hHeld ?_
        (try simp only [Act.put, List.getElem_toArray, List.getElem_cons_zero, List.getElem_cons_succ, List.setIfInBounds_toArray, List.set_cons_zero, List.set_cons_succ])
        refine wpAnyH_done (by kernel_rfl) ?_ _
        clear hHeld
        go_wp2_with fail
        go_roundw
        case rel => exact ⟨k + 1, up1 U hn pw, by go_num, by omega, HU2, HGO, Lib.hid (Sep.tl S8.out)⟩
        case measure => simp [intOf]; omega
    · rw [if_neg hl1] at hbw hgo
      have hl1I : (((x.bd.length : Nat) : Int) == 1) = false := by rw [beq_eq_false_iff_ne]; omega
      have S6 : Hid (Sep b1 w _ [rwW (.slice pv ws.length cv) (rndWs (l.take (k + 1))), bxT b3 U, .box b1 (.cells #[.int .i64 t, .int .i64 s, .int .i64 st, .slice (some ⟨bb, o, none⟩) l.length c] 24 (0, 0))]) := Lib.hid (by rw [hbw]; exact S5.out.tl)
      have HGO := Lib.hid hgo
      generalize x.hd = hd at c0 S5 S6
      generalize x.bd.length = n at c1 S5 S6 hl1I
      generalize x.rt = rt at c2 S5 S6
      clear hbw hgo hiv hbdl hmem hxx hx hl1 HT9 HS S5
      go_wp2_with fail
      go_roundw
      case rel => exact ⟨k + 1, U, by go_num, by omega, HU, HGO, S6⟩
      case measure => simp [intOf]; omega
  · obtain rfl : k = l.length := by omega
    have hltI : ¬ (l.length : Int) < (l.length : Int) := by omega
    have hS := HS.out
    rw [List.take_length] at hS
    have hU9 : U = T9 := by have h := HT9.out; rwa [List.drop_length, rndT] at h
    subst hU9
    have hS2 : Sep b1 w wo [rwW (.slice pv (rndWs l).length cv) (rndWs l), bxT b3 U, .box b1 (.cells #[.int .i64 t, .int .i64 s, .int .i64 st, .slice p l.length c] 24 (0, 0))] := by
      exact hS
    have HX := Lib.hid hS2
    obtain ⟨pw, cw, hpw, hwv, hwm⟩ := wv_of hS2.at
    injection hpw with e1 e2 e3
    subst e1 e3
    have HC := Lib.hid (led_any (c := cv) hwv HWS.out HU.out (Nat.le_trans (rndWs_len l) (by omega)))
    have HTL := Lib.hid HU.out.ln
    have H3 : Hid (wo.heap[b3]? = some (.cells (tC U) 54)) := Lib.hid HX.out.tl.at.2
    rw [List.take_length]
    obtain ⟨R9, hR9⟩ : ∃ R, tbW (Lead (rndWs l) U) = R := ⟨_, rfl⟩
    have hR64 : R9.length = 64 := by rw [← hR9]; exact tbW_len _
    have hRlt : ∀ s, R9.getD s 0 < wmax := by rw [← hR9]; exact (tbW_ok _).lt
    rw [hR9] at HC HYS HNO
    have HR64 := Lib.hid hR64
    have HRLT := Lib.hid hRlt
    have hix : ∀ (k : Nat) (hk : k < 64) (x : World), (Instr.index 54 (.agg (tC R9)) (.int .i64 (k : Nat))).run Try.prog x = .ok (.int .u64 ((R9.getD k 0 : Nat) : Int)) x := fun k hk x => run_index_T R9 hR64 hk x
    have HIX := Lib.hid hix
    generalize (rndWs l).length = n9 at HC ⊢
    clear hS hS2 hwv hwm e2 hR9 HS hlt HT9 hR64 hRlt hix
    go_wp2_with (refine wpList_load_T rfl (.tmp 3) rfl b3 U rfl HTL.out H3.out ?_)
    refine HC.out.mono ?_
    rintro _ w1 ⟨rfl, hb1⟩
    have S4 := Lib.hid (HX.out.bel.trans (hb1.mono HX.out.sz))
    clear hb1 H3 HX
    go_wp2_with fail
    go_loopw [45] (fun i wr => ∃ (k : Nat), i = .int .i64 (k : Nat) ∧ k ≤ 64 ∧ Hid (∀ i, i < k → (R9.getD i 0).testBit i = false) ∧ Hid (Below b1 w wr)) (fun i _ => 64 - (intOf i).toNat)
    case atStart => exact ⟨0, rfl, by omega, Lib.hid (fun i h => by omega), S4⟩
    case round =>
    clear S4
    obtain ⟨k, rfl, hk9, HA, HB⟩ := hrel
    obtain ⟨wo, rfl⟩ : ∃ wo : World, wo = wr := ⟨_, rfl⟩
    by_cases hlt : k < 64
    · have hltI : (k : Int) < 64 := by omega
      have hkI : ¬ (k : Int) < 0 := by omega
      have hix := HIX.out k hlt
      have H1 := Lib.hid (has_any (HRLT.out k) (by omega : (0 : Int) ≤ (k : Int)) hltI wo)
      rw [Int.toNat_natCast] at H1
      have HY := Lib.hid (HYS.out k hlt)
      obtain ⟨tb, htb⟩ : ∃ tb, (R9.getD k 0).testBit k = tb := ⟨_, rfl⟩
      have HTB := Lib.hid htb
      rw [htb] at H1 HY
      generalize R9.getD k 0 = rk at hix H1
      clear htb
      go_wp2_with fail
      refine H1.out.mono ?_
      rintro _ w1 ⟨rfl, rfl⟩
      cases tb with
      | true =>
        have hR := HY.out (by trivial)
        subst hR
        go_wp2_with fail
        go_ret
        exact ⟨rfl, by rw [HBE.out]; exact HB.out⟩
      | false =>
        have HA2 : Hid (∀ i, i < k + 1 → (R9.getD i 0).testBit i = false) := Lib.hid (fun i hi => by
          rcases Nat.lt_or_ge i k with h | h
          · exact HA.out i h
          · obtain rfl : i = k := by omega
            exact HTB.out)
        go_wp2_with fail
        go_roundw
        case rel => exact ⟨k + 1, by go_num, by omega, HA2, HB⟩
        case measure => simp [intOf]; omega
    · obtain rfl : k = 64 := by omega
      have hltI : ¬ ((64 : Nat) : Int) < 64 := by omega
      have hR := HNO.out HA.out
      subst hR
      clear hlt
      go_wp2_with fail
      go_ret
      exact ⟨rfl, by rw [HBE.out]; exact HB.out⟩
end Go.Proofs.Ytpmkdpjcpimhkaa
