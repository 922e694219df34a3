/- Package grams. -/
import Derived.Test.YtpmkdpjcpimhkaaProg
import Derived.Test.YtpmkdpjcpimhkaaIg
import Derived.Deep.SlicePairs
import Derived.Deep.Slices
import Derived.Laws.IdiomArrays
import Derived.OpenShut
import Derived.WideBlind
import Derived.Great.BuildSlice
import Derived.WalkKit
import Derived.Maps.OwnSet
import Derived.Maps.OwnOps
import Derived.Maps.Own
import Derived.DeepKeys5
import Derived.BigFrame
import Derived.WalkMore
import Derived.ScopeJumps
import Derived.StillTailTactics
import Derived.Stop.BytesEq
import Derived.WalkLawsBesides
import Derived.WalkSpells
import Derived.Outline
import Derived.Lib.Walk
import Derived.Lib.Hide
import Derived.Lib.Slices
import Derived.Lib.Strings
import Derived.RegionTactic
import Derived.LoopTactic
import Derived.Below
import Derived.IntWalk
import Derived.Deep.QuietTactic
import Derived.BigQuiet
import Derived.Deep.MidRow
import Derived.Maps.AppendAt
import Derived.Laws.Rows
import Derived.Laws.Tables
import Derived.Deep.WholeRow
import Derived.Deep.Cut
import Derived.Deep.CutRange
import Derived.Lib.SliceRun
import Derived.Laws.MakeOwn
import Derived.Deep.RegionLaw
import Derived.Deep.RegionLawGrows
import Derived.Deep.RegionHeld3
import Derived.RegionCalls
import Derived.Deep.RegionWith
import Derived.Deep.Light
import Derived.Laws.CopyOwn
import Derived.Laws.ResultCell
namespace Go.Proofs.Ytpmkdpjcpimhkaa
set_option linter.unusedSimpArgs false
set_option linter.unusedVariables false
set_option maxRecDepth 100000
open Go.RowKit
/- follows. -/
open Go.Maps
theorem folWs_take (l : List Pr) (j : Nat) (h : j < l.length) : folWs (l.take (j + 1)) = folWs (l.take j) ++ [(l[j].hd, l[j].bd.getLastD 0)] := by
  unfold folWs
  rw [List.take_add_one, List.getElem?_eq_getElem h, List.map_append]; rfl
theorem folWs_len (l : List Pr) : (folWs l).length = l.length := by unfold folWs; rw [List.length_map]
theorem last_get : ∀ {l : List Int} (h : 0 < l.length), l[l.length - 1] = l.getLastD 0 := fun {l} h => by
  have hne : l ≠ [] := List.length_pos_iff.1 h
  rw [List.getElem_length_sub_one_eq_getLast]
  cases l with
  | nil => exact absurd rfl hne
  | cons a l => rw [List.getLastD_cons, List.getLast_eq_getLastD]
theorem last_get? {l : List Int} (h : 0 < l.length) : l[l.length - 1]? = some (l.getLastD 0) := by
  rw [List.getElem?_eq_getElem (by omega), last_get h]
set_option maxHeartbeats 16000000 in
theorem follows_any {D : Nat → Prop} {w : World} {g : Gr} {p : Option Addr} {c : Nat} (hg : GM D w g.ps p) (hn : NumOk g) (hne : ∀ p ∈ g.ps, p.bd ≠ []) (hlg : ∀ p ∈ g.ps, p.bd.length ≤ 8) :
    Calls Try.prog 52 #[.agg #[.int .i64 g.t, .int .i64 g.s, .int .i64 g.st, .slice p g.ps.length c]] w fun e w' => e = .returned (.agg (tC (tbW (fun s x => Fol g s x)))) ∧ Below w.heap.size w w' := by
  obtain ⟨i0, hi, hiz0, hiz1, hiz2⟩ := info_parts info70
  have h1 := hn.t1; have h2 := hn.t2; have h3 := hn.s1; have h4 := hn.s2; have h5 := hn.st1; have h6 := hn.st2
  have hz3 := zero38
  have hz5 := zero54
  have hRes : tbW (Lead (folWs g.ps) (folT (tbW (fun s x => Beg g s x)) g.ps (z64.set g.st.toNat (2 ^ g.t.toNat)))) = tbW (fun s x => Fol g s x) := tbW_congr fun s x _ hx => fol_sem hn hne rfl s x hx
  have HWS := Lib.hid (folWs_ok hn hne)
  have hnl : g.ps.length ≤ 64 := hn.n2
  have HNE := Lib.hid hne
  have HLG := Lib.hid hlg
  have hin : ∀ q ∈ g.ps, (0 ≤ q.hd ∧ q.hd < 64) ∧ ∀ x ∈ q.bd, 0 ≤ x ∧ x < 64 := fun q hq => ⟨by have := hn.hd q hq; omega, fun x hx => by have := hn.bd q hq x hx; omega⟩
  have HIN := Lib.hid hin
  rw [← hRes]
  obtain ⟨b1, hb1⟩ : ∃ b, w.heap.size = b := ⟨_, rfl⟩
  have HBE := Lib.hid hb1
  have S0 := Lib.hid ((Sep.start w).allocAt hb1 (.cells (gC g p c) 24))
  have hgc : gC g p c = #[.int .i64 g.t, .int .i64 g.s, .int .i64 g.st, .slice p g.ps.length c] := rfl
  have HBG := Lib.hid (fun (z : World) (hz : Below w.heap.size w z) => begins_any (c := c) (hg.up hz) hn hne)
  have HG := Lib.hid hg
  have hok : TbOk (tbW (fun s x => Beg g s x)) := tbW_ok _
  have hUok : TbOk (z64.set g.st.toNat (2 ^ g.t.toNat)) := by
    have h := up1_ok z64_ok (k := g.st.toNat) (w_pow (n := g.t.toNat) (by omega))
    unfold up1 at h
    rwa [z64_get, Nat.zero_or] at h
  generalize tbW (fun s x => Beg g s x) = FI at hok HBG ⊢
  obtain ⟨tn, ht⟩ : ∃ t : Nat, (t : Int) = g.t := ⟨g.t.toNat, by omega⟩
  have htn : g.t.toNat = tn := by omega
  have ht32 : tn ≤ 32 := by omega
  obtain ⟨sn, hs⟩ : ∃ t : Nat, (t : Int) = g.st := ⟨g.st.toNat, by omega⟩
  have hsn : g.st.toNat = sn := by omega
  have hs64 : sn < 64 := by omega
  obtain ⟨l, hl⟩ : ∃ l, g.ps = l := ⟨_, rfl⟩
  rw [hl] at hnl HG hgc HWS HNE HIN HBG HLG ⊢
  rw [htn, hsn] at hUok ⊢
  rw [← ht, ← hs] at hgc HBG ⊢
  generalize g.s = s at hgc HBG ⊢
  rw [hgc] at S0
  obtain ⟨b2, hb2⟩ : ∃ b, (w.alloc (.cells #[.int .i64 (tn : Nat), .int .i64 s, .int .i64 (sn : Nat), .slice p l.length c] 24)).heap.size = b := ⟨_, rfl⟩
  have S1 := Lib.hid (S0.out.allocAt hb2 (.cells (tC z64) 54))
  obtain ⟨U0, hU0⟩ : ∃ U, z64.set sn (2 ^ tn) = U := ⟨_, rfl⟩
  have HU0 := Lib.hid hU0
  rw [hU0] at hUok ⊢
  obtain ⟨T9, hT9⟩ : ∃ T, folT FI l U0 = T := ⟨_, rfl⟩
  have HT9 : Hid (folT FI (l.drop 0) U0 = T9) := Lib.hid hT9
  rw [hT9]
  have HFI := Lib.hid hok
  have HUK := Lib.hid hUok
  obtain ⟨R, hR⟩ : ∃ R, tbW (Lead (folWs l) T9) = R := ⟨_, rfl⟩
  have HR := Lib.hid hR
  have HRL := Lib.hid (show R.length = 64 by rw [← hR]; exact tbW_len _)
  rw [hR]
  have H1 := Lib.hid (fun w => one_any (n := (tn : Int)) (by omega) (by omega) w)
  rw [Int.toNat_natCast] at H1
  clear h1 h2 h3 h4 h5 h6 hn hne hlg hRes hg hR S0 ht htn hl hgc hs hsn hok hUok hT9 hin hU0
  go_enter Try.func52, Try.ntmps52
  go_upto_region 1 with fail
  refine at_world (fun v => Sep b1 w v [bxT b2 z64, .box b1 (.cells #[.int .i64 (tn : Nat), .int .i64 s, .int .i64 (sn : Nat), .slice p l.length c] 24 (0, 0))]) (HBE.out ▸ S1.out) fun y1 hy1 => ?_
  have S2 := Lib.hid hy1
  clear hy1 S1 hb1 hb2
  have k0 := (S2.out.tl.boxAt 0).trans rfl
  have k1 := (S2.out.tl.boxAt 1).trans rfl
  have k2 := (S2.out.tl.boxAt 2).trans rfl
  have k3 := (S2.out.tl.boxAt 3).trans rfl
  have H5 := Lib.hid (HBG.out y1 (HBE.out ▸ S2.out.bel))
  go_wp2_with fail
  refine H5.out.mono ?_
  rintro _ y2 ⟨rfl, hb1⟩
  have S3 := Lib.hid (S2.out.up hb1)
  clear hb1 k0 k1 k2 k3 H5 S2 HBG
  obtain ⟨b3, hb3⟩ : ∃ b, y2.heap.size = b := ⟨_, rfl⟩
  have S4 := Lib.hid (S3.out.allocAt hb3 (.cells (tC z64) 54))
  have H3 : Hid ((y2.alloc (.cells (tC z64) 54)).heap[b3]? = some (.cells (tC z64) 54)) := Lib.hid S4.out.at.2
  have HFL := Lib.hid HFI.out.ln
  go_upto_region 2 with (refine wpList_store_row rfl 54 (.tmp 3) (.tmp 12) rfl b3 (tC FI) rfl rfl 54 _ H3.out (by rw [info54, tC_size, HFL.out]) (by rw [tC_size, tC_size, HFL.out, z64_ok.ln]) (tC_one _) ?_)
  refine at_world (fun v => Sep b1 w v [bxT b3 FI, bxT b2 z64, .box b1 (.cells #[.int .i64 (tn : Nat), .int .i64 s, .int .i64 (sn : Nat), .slice p l.length c] 24 (0, 0))]) (S4.out.putRow (tC FI)) fun y3 hy3 => ?_
  obtain ⟨b4, hb4⟩ : ∃ b, y3.heap.size = b := ⟨_, rfl⟩
  have S5 := Lib.hid (hy3.allocAt hb4 (.cells (tC z64) 54))
  clear hy3 S4 H3 S3 hb3
  go_upto_region 3 with fail
  refine at_world (fun v => Sep b1 w v [bxT b4 z64, bxT b3 FI, bxT b2 z64, .box b1 (.cells #[.int .i64 (tn : Nat), .int .i64 s, .int .i64 (sn : Nat), .slice p l.length c] 24 (0, 0))]) S5.out fun y4 hy4 => ?_
  have S6 := Lib.hid hy4.drew
  clear hy4 S5 hb4
  have HSK : Hid (∀ (v : World) (M : List It), Sep b1 w v M → .box b1 (.cells #[.int .i64 (tn : Nat), .int .i64 s, .int .i64 (sn : Nat), .slice p l.length c] 24 (0, 0)) ∈ M → v.cell? ⟨b1, 0, none⟩ = some (.int .i64 (tn : Nat)) ∧ v.cell? ⟨b1, 2, none⟩ = some (.int .i64 (sn : Nat))) := Lib.hid (fun v M hs hmem => ⟨(cell_of_row v b1 0 _ 24 (0, 0) (hs.li _ hmem).2).trans rfl, (cell_of_row v b1 2 _ 24 (0, 0) (hs.li _ hmem).2).trans rfl⟩)
  have k4 : y4.drew.cell? ⟨b4, sn, none⟩ = _ := (S6.out.boxAt sn).trans (tC_get z64 (by rw [z64_ok.ln]; exact hs64))
  have f4 : y4.drew.frozen? ⟨b4, sn, none⟩ = false := S6.out.fz sn
  have S7 := Lib.hid (S6.out.setc sn (.int .u64 ((2 ^ tn : Nat) : Int)))
  rw [tC_set, HU0.out] at S7
  have hsn0 : ¬ (sn : Int) < 0 := by omega
  have hsnI : (sn : Int) < 64 := by omega
  generalize 2 ^ tn = pw at S7 H1
  refine wp_region_held_drew (S := fun v => v.cell? ⟨b1, 0, none⟩ = some (.int .i64 (tn : Nat)) ∧ v.cell? ⟨b1, 2, none⟩ = some (.int .i64 (sn : Nat))) (by kernel_rfl) (HSK.out _ _ S6.out (by simp)) (fun hHeld => ?_)
  refine wpAnyH_take (i := 0) (v := (.pointer (some ⟨b1, 2, none⟩))) rfl (by kernel_rfl) (by kernel_rfl) (by kernel_rfl) (fun _ _ _ h => h) (Or.inl ⟨by rfl, by (intro w hSw; (try dsimp only at hSw); go_simp)⟩) hHeld ?_
  (try simp only [Act.put, List.getElem_toArray, List.getElem_cons_zero, List.getElem_cons_succ, List.setIfInBounds_toArray, List.set_cons_zero, List.set_cons_succ])
  refine wpAnyH_take (i := 1) (v := (.int .i64 (sn : Nat))) rfl (by kernel_rfl) (by kernel_rfl) (by kernel_rfl) (fun _ _ _ h => h) (Or.inl ⟨by rfl, by (intro w9 hSw; (try dsimp only at hSw); have c9_ := hSw.2; go_simp)⟩) hHeld ?_
  (try simp only [Act.put, List.getElem_toArray, List.getElem_cons_zero, List.getElem_cons_succ, List.setIfInBounds_toArray, List.set_cons_zero, List.set_cons_succ])
  refine wpAnyH_take (i := 2) (v := (.pointer (some ⟨b1, 0, none⟩))) rfl (by kernel_rfl) (by kernel_rfl) (by kernel_rfl) (fun _ _ _ h => h) (Or.inl ⟨by rfl, by (intro w hSw; (try dsimp only at hSw); go_simp)⟩) hHeld ?_
  (try simp only [Act.put, List.getElem_toArray, List.getElem_cons_zero, List.getElem_cons_succ, List.setIfInBounds_toArray, List.set_cons_zero, List.set_cons_succ])
  refine wpAnyH_take (i := 3) (v := (.int .i64 (tn : Nat))) rfl (by kernel_rfl) (by kernel_rfl) (by kernel_rfl) (fun _ _ _ h => h) (Or.inl ⟨by rfl, by (intro w9 hSw; (try dsimp only at hSw); have c9_ := hSw.1; go_simp)⟩) hHeld ?_
  (try simp only [Act.put, List.getElem_toArray, List.getElem_cons_zero, List.getElem_cons_succ, List.setIfInBounds_toArray, List.set_cons_zero, List.set_cons_succ])
  refine wpAnyH_ready (rs := [4]) (by kernel_rfl) (by simp) ?_
  refine AllReadyH.cons rfl (fun K9 hK => ?_) (AllReadyH.nil)
  rw [if_pos (by rfl)]
  go_wp2_with fail
  refine (H1.out _).mono ?_
  rintro _ w2 ⟨rfl, rfl⟩
  refine hK.out _ _ (HSK.out _ _ S6.out (by simp)) (fun hHeld2 => ?_)
  clear hHeld hK
  have hHeld := hHeld2
  clear hHeld2
  (try simp only [Act.put, List.getElem_toArray, List.getElem_cons_zero, List.getElem_cons_succ, List.setIfInBounds_toArray, List.set_cons_zero, List.set_cons_succ])
  refine wpAnyH_take (i := 5) (v := (.pointer (some ⟨b4, sn, none⟩))) rfl (by kernel_rfl) (by kernel_rfl) (by kernel_rfl) (fun _ _ _ h => h) (Or.inl ⟨by rfl, by (intro w hSw; (try dsimp only at hSw); go_simp)⟩) hHeld ?_
  (try simp only [Act.put, List.getElem_toArray, List.getElem_cons_zero, List.getElem_cons_succ, List.setIfInBounds_toArray, List.set_cons_zero, List.set_cons_succ])
  refine wpAnyH_ready (rs := [6]) (by kernel_rfl) (by simp) ?_
  refine AllReadyH.cons rfl (fun K9 hK => ?_) (AllReadyH.nil)
  rw [if_pos (by rfl)]
  go_wp2_with fail
  refine hK.out _ _ (HSK.out _ _ S7.out (by simp)) (fun hHeld2 => ?_)
  clear hHeld hK
  have hHeld := hHeld2
  clear hHeld2
  (try simp only [Act.put, List.getElem_toArray, List.getElem_cons_zero, List.getElem_cons_succ, List.setIfInBounds_toArray, List.set_cons_zero, List.set_cons_succ])
  refine wpAnyH_done (by kernel_rfl) ?_ _
  clear hHeld k4 f4 S6
  go_upto_region 4 with fail
  refine at_world (fun v => Sep b1 w v [bxT b4 U0, bxT b3 FI, bxT b2 z64, .box b1 (.cells #[.int .i64 (tn : Nat), .int .i64 s, .int .i64 (sn : Nat), .slice p l.length c] 24 (0, 0))]) S7.out fun y5 hy5 => ?_
  have S8 : Hid (Sep b1 w y5 [rwW (.slice none 0 0) (folWs (l.take 0)), bxT b4 U0, bxT b3 FI, bxT b2 z64, .box b1 (.cells #[.int .i64 (tn : Nat), .int .i64 s, .int .i64 (sn : Nat), .slice p l.length c] 24 (0, 0))]) := Lib.hid (hy5.none_ 70 2)
  clear hy5 S7
  have k3 : y5.cell? ⟨b1, 3, none⟩ = some (.slice p l.length c) := (S8.out.tl.tl.tl.tl.boxAt 3).trans rfl
  go_upto_region 6 with fail
  clear k3
  go_loopw [5, 22] (fun v i wr => ∃ (k : Nat) (U : List Nat), i = .int .i64 (k : Nat) ∧ k ≤ l.length ∧ Hid (TbOk U) ∧ Hid (folT FI (l.drop k) U = T9) ∧ Hid (Sep b1 w wr [rwW v (folWs (l.take k)), bxT b4 U, bxT b3 FI, bxT b2 z64, .box b1 (.cells #[.int .i64 (tn : Nat), .int .i64 s, .int .i64 (sn : Nat), .slice p l.length c] 24 (0, 0))])) (fun _ i _ => l.length - (intOf i).toNat)
  case atStart => exact ⟨0, U0, rfl, by omega, HUK, HT9, S8⟩
  case round =>
  clear S8 HT9 HUK
  obtain ⟨k, U, rfl, hk, HU, HT9, HS⟩ := hrel
  obtain ⟨wo, rfl⟩ : ∃ wo : World, wo = wr := ⟨_, rfl⟩
  obtain ⟨pv, cv, hv⟩ := rowF_ HS.out.at
  subst hv
  by_cases hlt : k < l.length
  · have hltI : (k : Int) < (l.length : Int) := by omega
    have hkI : ¬ (k : Int) < 0 := by omega
    obtain ⟨bb, o, q, d, rfl, hbb, c0, c1, c2, hiv, hbdl, hmem, hcap⟩ := (HG.out.up (HBE.out ▸ HS.out.bel)).at2 hlt
    have hbw := folWs_take l k hlt
    have hwl : (folWs (l.take k)).length = k := by rw [folWs_len, List.length_take]; omega
    have hgo : folT FI (l.drop (k + 1)) (folRow FI l[k].bd U) = T9 := by
      rw [← HT9.out, List.drop_eq_getElem_cons hlt, folT]
    obtain ⟨x, hxx⟩ : ∃ x, l[k] = x := ⟨_, rfl⟩
    rw [hxx] at c0 c1 c2 hiv hbdl hmem hbw hgo hcap
    have hx := HIN.out x hmem
    have hne := HNE.out x hmem
    have hlg := HLG.out x hmem
    have hl0 : 0 < x.bd.length := List.length_pos_iff.2 hne
    obtain ⟨q', d', he, hh⟩ := hiv
    injection he with e1 e2 e3
    subst e1 e3
    obtain ⟨b9, o9, rfl, hD9, hc9⟩ := hh hne
    have hb9 : b9 < b1 := by rw [← HBE.out]; exact HG.out.lt b9 hD9
    have hcw : ∀ i (h : i < x.bd.length), w.cell? ⟨b9, o9 + i, none⟩ = some (.int .i64 x.bd[i]) := fun i h => (cell_same (HS.out.bel.block b9 hb9) _).symm.trans (hc9 i h)
    have HCW := Lib.hid hcw
    have hla := hx.2 _ (last_mem hne)
    obtain ⟨V, hV⟩ : ∃ V, folRow FI x.bd U = V := ⟨_, rfl⟩
    have HV : Hid (folRow FI (x.bd.drop 0) U = V) := Lib.hid hV
    have HVK : Hid (TbOk V) := Lib.hid (by rw [← hV]; exact folRow_ok FI HFI.out _ _ HU.out)
    rw [hV] at hgo
    have HGO := Lib.hid hgo
    have HBW := Lib.hid hbw
    obtain ⟨b7, hb7⟩ : ∃ b, wo.heap.size = b := ⟨_, rfl⟩
    obtain ⟨ws, hws⟩ : ∃ ws, folWs (l.take k) = ws := ⟨_, rfl⟩
    rw [hws] at HBW hwl HS ⊢
    have HWL := Lib.hid hwl
    have S5 := Lib.hid (HS.out.allocAt hb7 (.cells #[.int .i64 x.hd, .slice (some ⟨b9, o9, none⟩) x.bd.length d, .bool x.rt] 38))
    have HXB := Lib.hid hx.2
    obtain ⟨m, hm⟩ : ∃ m, x.bd.length = m + 1 := ⟨x.bd.length - 1, by omega⟩
    have HM := Lib.hid hm
    have hlast := last_get? hl0
    rw [show x.bd.length - 1 = m by omega] at hlast
    have HLT := Lib.hid hlast
    rw [hm] at c1 S5 hcap hlg
    have hsub : IntKind.i64.wrap (((m + 1 : Nat) : Int) - 1) = (m : Int) := by rw [IntWalk.i64_in _ (by omega)]; omega
    have hsub2 : wrap64 (((m + 1 : Nat) : Int) - 1) = (m : Int) := by unfold wrap64; omega
    have hmd : (m : Int) ≤ (d : Int) := by omega
    have hmd2 : ¬ (d : Int) < (m : Int) := by omega
    have hm0 : ¬ (m : Int) < 0 := by omega
    generalize x.hd = hd at c0 S5 HBW
    generalize x.rt = rt at c2 S5
    obtain ⟨bd, hbd⟩ : ∃ b, x.bd = b := ⟨_, rfl⟩
    rw [hbd] at HCW HV HM HXB HLT
    rw [hbd] at hla HBW
    have HLA := Lib.hid hla
    clear HS hh hc9 e2 hws hbw hmem hbdl hwl hxx hx hne hl0 hm hcw hV hgo hlast hla hbd HT9
    go_upto_region 9 with fail
    refine at_world (fun v => Sep b1 w v [.box b7 (.cells #[.int .i64 hd, .slice (some ⟨b9, o9, none⟩) (m + 1) d, .bool rt] 38 (0, 0)), rwW (.slice pv ws.length cv) ws, bxT b4 U, bxT b3 FI, bxT b2 z64, .box b1 (.cells #[.int .i64 (tn : Nat), .int .i64 s, .int .i64 (sn : Nat), .slice (some ⟨bb, o, none⟩) l.length c] 24 (0, 0))]) S5.out fun y6 hy6 => ?_
    have S6 := Lib.hid hy6
    clear hy6 S5 hb7 c0 c1 c2
    have k1 := (S6.out.boxAt 1).trans rfl
    go_upto_region 10 with fail
    clear k1 hsub hsub2 hmd hmd2
    go_loopw [35] (fun i wr => ∃ (i' : Nat) (U' : List Nat), i = .int .i64 (i' : Nat) ∧ i' ≤ m ∧ Hid (TbOk U') ∧ Hid (folRow FI (bd.drop i') U' = V) ∧ Hid (Sep b1 w wr [.box b7 (.cells #[.int .i64 hd, .slice (some ⟨b9, o9, none⟩) (m + 1) d, .bool rt] 38 (0, 0)), rwW (.slice pv ws.length cv) ws, bxT b4 U', bxT b3 FI, bxT b2 z64, .box b1 (.cells #[.int .i64 (tn : Nat), .int .i64 s, .int .i64 (sn : Nat), .slice (some ⟨bb, o, none⟩) l.length c] 24 (0, 0))])) (fun i _ => m - (intOf i).toNat)
    case atStart => exact ⟨0, U, rfl, by omega, HU, HV, S6⟩
    case round =>
    clear S6 HV HU
    obtain ⟨i, U', rfl, hi9, HU, HV, HS⟩ := hrel
    obtain ⟨wk, rfl⟩ : ∃ wk : World, wk = wr := ⟨_, rfl⟩
    have k1 := (HS.out.boxAt 1).trans rfl
    by_cases hlt2 : i < m
    · have hltI2 : (i : Int) < (m : Int) := by omega
      have hiI : ¬ (i : Int) < 0 := by omega
      have hi1 : i < bd.length := by rw [HM.out]; omega
      have hi2 : i + 1 < bd.length := by rw [HM.out]; omega
      have ca : wk.cell? ⟨b9, o9 + i, none⟩ = _ := cell_up (HCW.out i hi1) HS.out.bel hb9
      have cb : wk.cell? ⟨b9, o9 + (i + 1), none⟩ = _ := cell_up (HCW.out (i + 1) hi2) HS.out.bel hb9
      have cbw := HCW.out (i + 1) hi2
      have ha9 := HXB.out bd[i] (List.getElem_mem hi1)
      have hb99 := HXB.out bd[i + 1] (List.getElem_mem hi2)
      have hgo2 : folRow FI (bd.drop (i + 1)) (up1 U' bd[i].toNat (FI.getD bd[i + 1].toNat 0)) = V := by
        rw [← HV.out, List.drop_eq_getElem_cons hi1, List.drop_eq_getElem_cons hi2, folRow]
      generalize bd[i] = av at ca ha9 hgo2
      generalize bd[i + 1] = bv at cb cbw hb99 hgo2
      obtain ⟨an, rfl⟩ : ∃ n : Nat, (n : Int) = av := ⟨av.toNat, by omega⟩
      obtain ⟨bn, rfl⟩ : ∃ n : Nat, (n : Int) = bv := ⟨bv.toNat, by omega⟩
      rw [Int.toNat_natCast, Int.toNat_natCast] at hgo2
      have han : an < 64 := by omega
      have hbn : bn < 64 := by omega
      have ct : wk.cell? ⟨b4, an, none⟩ = _ := (HS.out.tl.tl.boxAt an).trans (tC_get U' (by rw [HU.out.ln]; exact han))
      have cf : wk.cell? ⟨b3, bn, none⟩ = _ := (HS.out.tl.tl.tl.boxAt bn).trans (tC_get FI (by rw [HFI.out.ln]; exact hbn))
      have cg : wk.frozen? ⟨b4, an, none⟩ = false := HS.out.tl.tl.fz an
      have hor := b_or (HU.out.lt an) (HFI.out.lt bn)
      have HU2 := Lib.hid (up1_ok HU.out (k := an) (HFI.out.lt bn))
      have e3 : tC (up1 U' an (FI.getD bn 0)) = (tC U').setIfInBounds an (.int .u64 ((U'.getD an 0 ||| FI.getD bn 0 : Nat) : Int)) := by unfold up1; rw [tC_set]
      have SD := Lib.hid HS.out.drew
      have S7 := Lib.hid ((SD.out.setAt [_, _] an (.int .u64 ((U'.getD an 0 ||| FI.getD bn 0 : Nat) : Int))))
      rw [← e3] at S7
      have HGO2 := Lib.hid hgo2
      generalize U'.getD an 0 = u1 at ct hor S7
      obtain ⟨u2, hu2⟩ : ∃ z, FI.getD bn 0 = z := ⟨_, rfl⟩
      rw [hu2] at cf hor S7 HU2 HGO2
      have hi1I : ¬ (i : Int) + 1 < 0 := by omega
      have hi2I : (i : Int) + 1 < (m : Int) + 1 := by omega
      have hai : ¬ (an : Int) < 0 := by omega
      have hbi : ¬ (bn : Int) < 0 := by omega
      have hai2 : (an : Int) < 64 := by omega
      have hbi2 : (bn : Int) < 64 := by omega
      have HSK : Hid (∀ (v : World) (M : List It), Sep b1 w v M → .box b7 (.cells #[.int .i64 hd, .slice (some ⟨b9, o9, none⟩) (m + 1) d, .bool rt] 38 (0, 0)) ∈ M → bxT b3 FI ∈ M → v.cell? ⟨b7, 1, none⟩ = some (.slice (some ⟨b9, o9, none⟩) (m + 1) d) ∧ v.cell? ⟨b9, o9 + (i + 1), none⟩ = some (.int .i64 (bn : Nat)) ∧ v.cell? ⟨b3, bn, none⟩ = some (.int .u64 (u2 : Nat))) := Lib.hid (fun v M hs hmem hmem2 => ⟨(cell_of_row v b7 1 _ 38 (0, 0) (hs.li _ hmem).2).trans rfl, cell_up cbw hs.bel hb9, (cell_of_row v b3 bn _ 54 (0, 0) (hs.li _ hmem2).2).trans (by rw [tC_get FI (by rw [HFI.out.ln]; exact hbn), hu2])⟩)
      have k4 : wk.drew.cell? ⟨b4, an, none⟩ = _ := ct
      have f4 : wk.drew.frozen? ⟨b4, an, none⟩ = false := cg
      clear hgo2 e3 hu2 ha9 hb99 HV HU HS cbw cb ct cf cg
      go_upto_region 12 with fail
      clear ca
      refine wp_region_held_drew (S := fun v => v.cell? ⟨b7, 1, none⟩ = some (.slice (some ⟨b9, o9, none⟩) (m + 1) d) ∧ v.cell? ⟨b9, o9 + (i + 1), none⟩ = some (.int .i64 (bn : Nat)) ∧ v.cell? ⟨b3, bn, none⟩ = some (.int .u64 (u2 : Nat))) (by kernel_rfl) (HSK.out _ _ SD.out (by simp) (by simp)) (fun hHeld => ?_)
      refine wpAnyH_take (i := 0) (v := (.int .i64 (an : Nat))) rfl (by kernel_rfl) (by kernel_rfl) (by kernel_rfl) (fun _ _ _ h => h) (Or.inl ⟨by rfl, by (intro w hSw; (try dsimp only at hSw); go_simp)⟩) hHeld ?_
      (try simp only [Act.put, List.getElem_toArray, List.getElem_cons_zero, List.getElem_cons_succ, List.setIfInBounds_toArray, List.set_cons_zero, List.set_cons_succ])
      refine wpAnyH_take (i := 1) (v := (.pointer (some ⟨b4, an, none⟩))) rfl (by kernel_rfl) (by kernel_rfl) (by kernel_rfl) (fun _ _ _ h => h) (Or.inl ⟨by rfl, by (intro w hSw; (try dsimp only at hSw); go_simp)⟩) hHeld ?_
      (try simp only [Act.put, List.getElem_toArray, List.getElem_cons_zero, List.getElem_cons_succ, List.setIfInBounds_toArray, List.set_cons_zero, List.set_cons_succ])
      refine wpAnyH_take (i := 3) (v := (.pointer (some ⟨b7, 1, none⟩))) rfl (by kernel_rfl) (by kernel_rfl) (by kernel_rfl) (fun _ _ _ h => h) (Or.inl ⟨by rfl, by (intro w hSw; (try dsimp only at hSw); go_simp)⟩) hHeld ?_
      (try simp only [Act.put, List.getElem_toArray, List.getElem_cons_zero, List.getElem_cons_succ, List.setIfInBounds_toArray, List.set_cons_zero, List.set_cons_succ])
      refine wpAnyH_take (i := 4) (v := (.slice (some ⟨b9, o9, none⟩) (m + 1) d)) rfl (by kernel_rfl) (by kernel_rfl) (by kernel_rfl) (fun _ _ _ h => h) (Or.inl ⟨by rfl, by (intro w9 hSw; (try dsimp only at hSw); have c9_ := hSw.1; go_simp)⟩) hHeld ?_
      (try simp only [Act.put, List.getElem_toArray, List.getElem_cons_zero, List.getElem_cons_succ, List.setIfInBounds_toArray, List.set_cons_zero, List.set_cons_succ])
      refine wpAnyH_take (i := 5) (v := (.int .i64 (i : Nat))) rfl (by kernel_rfl) (by kernel_rfl) (by kernel_rfl) (fun _ _ _ h => h) (Or.inl ⟨by rfl, by (intro w hSw; (try dsimp only at hSw); go_simp)⟩) hHeld ?_
      (try simp only [Act.put, List.getElem_toArray, List.getElem_cons_zero, List.getElem_cons_succ, List.setIfInBounds_toArray, List.set_cons_zero, List.set_cons_succ])
      refine wpAnyH_take (i := 6) (v := (.int .i64 ((i : Nat) + 1))) rfl (by kernel_rfl) (by kernel_rfl) (by kernel_rfl) (fun _ _ _ h => h) (Or.inl ⟨by rfl, by (intro w hSw; (try dsimp only at hSw); go_simp; exact IntWalk.i64_in _ (by omega))⟩) hHeld ?_
      (try simp only [Act.put, List.getElem_toArray, List.getElem_cons_zero, List.getElem_cons_succ, List.setIfInBounds_toArray, List.set_cons_zero, List.set_cons_succ])
      refine wpAnyH_take (i := 7) (v := (.pointer (some ⟨b9, o9 + (i + 1), none⟩))) rfl (by kernel_rfl) (by kernel_rfl) (by kernel_rfl) (fun _ _ _ h => h) (Or.inl ⟨by rfl, by (intro w hSw; (try dsimp only at hSw); go_simp)⟩) hHeld ?_
      (try simp only [Act.put, List.getElem_toArray, List.getElem_cons_zero, List.getElem_cons_succ, List.setIfInBounds_toArray, List.set_cons_zero, List.set_cons_succ])
      refine wpAnyH_take (i := 8) (v := (.int .i64 (bn : Nat))) rfl (by kernel_rfl) (by kernel_rfl) (by kernel_rfl) (fun _ _ _ h => h) (Or.inl ⟨by rfl, by (intro w9 hSw; (try dsimp only at hSw); have c9_ := hSw.2.1; go_simp)⟩) hHeld ?_
      (try simp only [Act.put, List.getElem_toArray, List.getElem_cons_zero, List.getElem_cons_succ, List.setIfInBounds_toArray, List.set_cons_zero, List.set_cons_succ])
      refine wpAnyH_take (i := 9) (v := (.pointer (some ⟨b3, bn, none⟩))) rfl (by kernel_rfl) (by kernel_rfl) (by kernel_rfl) (fun _ _ _ h => h) (Or.inl ⟨by rfl, by (intro w hSw; (try dsimp only at hSw); go_simp)⟩) hHeld ?_
      (try simp only [Act.put, List.getElem_toArray, List.getElem_cons_zero, List.getElem_cons_succ, List.setIfInBounds_toArray, List.set_cons_zero, List.set_cons_succ])
      refine wpAnyH_take (i := 10) (v := (.int .u64 (u2 : Nat))) rfl (by kernel_rfl) (by kernel_rfl) (by kernel_rfl) (fun _ _ _ h => h) (Or.inl ⟨by rfl, by (intro w9 hSw; (try dsimp only at hSw); have c9_ := hSw.2.2; go_simp)⟩) hHeld ?_
      (try simp only [Act.put, List.getElem_toArray, List.getElem_cons_zero, List.getElem_cons_succ, List.setIfInBounds_toArray, List.set_cons_zero, List.set_cons_succ])
      refine wpAnyH_ready (rs := [2]) (by kernel_rfl) (by simp) ?_
      refine AllReadyH.cons rfl (fun K9 hK => ?_) (AllReadyH.nil)
      rw [if_pos (by rfl)]
      go_wp2_with fail
      refine hK.out _ _ (HSK.out _ _ SD.out (by simp) (by simp)) (fun hHeld2 => ?_)
      clear hHeld hK
      have hHeld := hHeld2
      clear hHeld2
      (try simp only [Act.put, List.getElem_toArray, List.getElem_cons_zero, List.getElem_cons_succ, List.setIfInBounds_toArray, List.set_cons_zero, List.set_cons_succ])
      refine wpAnyH_take (i := 11) (v := (.int .u64 ((u1 ||| u2 : Nat) : Int))) rfl (by kernel_rfl) (by kernel_rfl) (by kernel_rfl) (fun _ _ _ h => h) (Or.inl ⟨by rfl, by (intro w hSw; (try dsimp only at hSw); go_simp)⟩) hHeld ?_
      (try simp only [Act.put, List.getElem_toArray, List.getElem_cons_zero, List.getElem_cons_succ, List.setIfInBounds_toArray, List.set_cons_zero, List.set_cons_succ])
      refine wpAnyH_take (i := 12) (v := (.pointer (some ⟨b4, an, none⟩))) rfl (by kernel_rfl) (by kernel_rfl) (by kernel_rfl) (fun _ _ _ h => h) (Or.inl ⟨by rfl, by (intro w hSw; (try dsimp only at hSw); go_simp)⟩) hHeld ?_
      (try simp only [Act.put, List.getElem_toArray, List.getElem_cons_zero, List.getElem_cons_succ, List.setIfInBounds_toArray, List.set_cons_zero, List.set_cons_succ])
      refine wpAnyH_ready (rs := [13]) (by kernel_rfl) (by simp) ?_
      refine AllReadyH.cons rfl (fun K9 hK => ?_) (AllReadyH.nil)
      rw [if_pos (by rfl)]
      go_wp2_with fail
      refine hK.out _ _ (HSK.out _ _ S7.out (by simp) (by simp)) (fun hHeld2 => ?_)
      clear hHeld hK
      have hHeld := hHeld2
      clear hHeld2
      (try simp only [Act.put, List.getElem_toArray, List.getElem_cons_zero, List.getElem_cons_succ, List.setIfInBounds_toArray, List.set_cons_zero, List.set_cons_succ])
      refine wpAnyH_done (by kernel_rfl) ?_ _
      clear hHeld k4 f4
      go_wp2_with fail
      go_roundw
      case rel => exact ⟨i + 1, _, by go_num, by omega, HU2, HGO2, S7⟩
      case measure => simp [intOf]; omega
    · obtain rfl : i = m := by omega
      have hltI2 : ¬ (i : Int) < (i : Int) := by omega
      have hUV : U' = V := by
        have h := HV.out
        have hi1 : i < bd.length := by rw [HM.out]; omega
        rw [List.drop_eq_getElem_cons hi1, List.drop_of_length_le (by rw [HM.out]; omega)] at h
        exact h
      subst hUV
      have hc9 : w.cell? ⟨b9, o9 + i, none⟩ = some (.int .i64 (bd.getLastD 0)) := by
        have hi1 : i < bd.length := by rw [HM.out]; omega
        have h := HLT.out
        rw [List.getElem?_eq_getElem hi1, Option.some.injEq] at h
        rw [← h]; exact HCW.out i hi1
      have HSK : Hid (∀ (v : World) (M : List It), Sep b1 w v M → .box b7 (.cells #[.int .i64 hd, .slice (some ⟨b9, o9, none⟩) (i + 1) d, .bool rt] 38 (0, 0)) ∈ M → v.cell? ⟨b7, 0, none⟩ = some (.int .i64 hd) ∧ v.cell? ⟨b7, 1, none⟩ = some (.slice (some ⟨b9, o9, none⟩) (i + 1) d) ∧ v.cell? ⟨b9, o9 + i, none⟩ = some (.int .i64 (bd.getLastD 0))) := Lib.hid (fun v M hs hmem => ⟨(cell_of_row v b7 0 _ 38 (0, 0) (hs.li _ hmem).2).trans rfl, (cell_of_row v b7 1 _ 38 (0, 0) (hs.li _ hmem).2).trans rfl, cell_up hc9 hs.bel hb9⟩)
      have hmI : (i : Int) < (i : Int) + 1 := by omega
      generalize bd.getLastD 0 = fy at HBW HSK hc9
      clear hc9 k1 HV HLT HCW HXB HLA
      go_upto_region 14 with fail
      have SD := Lib.hid HS.out.drew
      clear HS
      refine wp_region_held_drew (S := fun v => v.cell? ⟨b7, 0, none⟩ = some (.int .i64 hd) ∧ v.cell? ⟨b7, 1, none⟩ = some (.slice (some ⟨b9, o9, none⟩) (i + 1) d) ∧ v.cell? ⟨b9, o9 + i, none⟩ = some (.int .i64 fy)) (by kernel_rfl) (HSK.out _ _ SD.out (by simp)) (fun hHeld => ?_)
      refine wpAnyH_take (i := 0) (v := (.slice pv ws.length cv)) rfl (by kernel_rfl) (by kernel_rfl) (by kernel_rfl) (fun _ _ _ h => h) (Or.inl ⟨by rfl, by (intro w hSw; (try dsimp only at hSw); go_simp)⟩) hHeld ?_
      (try simp only [Act.put, List.getElem_toArray, List.getElem_cons_zero, List.getElem_cons_succ, List.setIfInBounds_toArray, List.set_cons_zero, List.set_cons_succ])
      refine wpAnyH_take (i := 1) (v := (.pointer (some ⟨b7, 0, none⟩))) rfl (by kernel_rfl) (by kernel_rfl) (by kernel_rfl) (fun _ _ _ h => h) (Or.inl ⟨by rfl, by (intro w hSw; (try dsimp only at hSw); go_simp)⟩) hHeld ?_
      (try simp only [Act.put, List.getElem_toArray, List.getElem_cons_zero, List.getElem_cons_succ, List.setIfInBounds_toArray, List.set_cons_zero, List.set_cons_succ])
      refine wpAnyH_take (i := 2) (v := (.int .i64 hd)) rfl (by kernel_rfl) (by kernel_rfl) (by kernel_rfl) (fun _ _ _ h => h) (Or.inl ⟨by rfl, by (intro w9 hSw; (try dsimp only at hSw); have c9_ := hSw.1; go_simp)⟩) hHeld ?_
      (try simp only [Act.put, List.getElem_toArray, List.getElem_cons_zero, List.getElem_cons_succ, List.setIfInBounds_toArray, List.set_cons_zero, List.set_cons_succ])
      refine wpAnyH_take (i := 3) (v := (.pointer (some ⟨b7, 1, none⟩))) rfl (by kernel_rfl) (by kernel_rfl) (by kernel_rfl) (fun _ _ _ h => h) (Or.inl ⟨by rfl, by (intro w hSw; (try dsimp only at hSw); go_simp)⟩) hHeld ?_
      (try simp only [Act.put, List.getElem_toArray, List.getElem_cons_zero, List.getElem_cons_succ, List.setIfInBounds_toArray, List.set_cons_zero, List.set_cons_succ])
      refine wpAnyH_take (i := 4) (v := (.slice (some ⟨b9, o9, none⟩) (i + 1) d)) rfl (by kernel_rfl) (by kernel_rfl) (by kernel_rfl) (fun _ _ _ h => h) (Or.inl ⟨by rfl, by (intro w9 hSw; (try dsimp only at hSw); have c9_ := hSw.2.1; go_simp)⟩) hHeld ?_
      (try simp only [Act.put, List.getElem_toArray, List.getElem_cons_zero, List.getElem_cons_succ, List.setIfInBounds_toArray, List.set_cons_zero, List.set_cons_succ])
      refine wpAnyH_take (i := 5) (v := (.int .i64 (i : Nat))) rfl (by kernel_rfl) (by kernel_rfl) (by kernel_rfl) (fun _ _ _ h => h) (Or.inl ⟨by rfl, by (intro w hSw; (try dsimp only at hSw); go_simp)⟩) hHeld ?_
      (try simp only [Act.put, List.getElem_toArray, List.getElem_cons_zero, List.getElem_cons_succ, List.setIfInBounds_toArray, List.set_cons_zero, List.set_cons_succ])
      refine wpAnyH_take (i := 6) (v := (.pointer (some ⟨b9, o9 + i, none⟩))) rfl (by kernel_rfl) (by kernel_rfl) (by kernel_rfl) (fun _ _ _ h => h) (Or.inl ⟨by rfl, by (intro w hSw; (try dsimp only at hSw); go_simp)⟩) hHeld ?_
      (try simp only [Act.put, List.getElem_toArray, List.getElem_cons_zero, List.getElem_cons_succ, List.setIfInBounds_toArray, List.set_cons_zero, List.set_cons_succ])
      refine wpAnyH_take (i := 7) (v := (.int .i64 fy)) rfl (by kernel_rfl) (by kernel_rfl) (by kernel_rfl) (fun _ _ _ h => h) (Or.inl ⟨by rfl, by (intro w9 hSw; (try dsimp only at hSw); have c9_ := hSw.2.2; go_simp)⟩) hHeld ?_
      (try simp only [Act.put, List.getElem_toArray, List.getElem_cons_zero, List.getElem_cons_succ, List.setIfInBounds_toArray, List.set_cons_zero, List.set_cons_succ])
      refine wpAnyH_take (i := 8) (v := (.agg #[.int .i64 hd, .int .i64 fy])) rfl (by kernel_rfl) (by kernel_rfl) (by kernel_rfl) (fun _ _ _ h => h) (Or.inl ⟨by rfl, by (intro w hSw; (try dsimp only at hSw); go_simp)⟩) hHeld ?_
      (try simp only [Act.put, List.getElem_toArray, List.getElem_cons_zero, List.getElem_cons_succ, List.setIfInBounds_toArray, List.set_cons_zero, List.set_cons_succ])
      have SH := Lib.hid (SD.out.up ((Below.refl _ _).alloc (Nat.le_refl _) (.cells #[.int .i64 hd, .int .i64 fy] 70)))
      refine wpAnyH_ready (rs := [9]) (by kernel_rfl) (by simp) ?_
      refine AllReadyH.cons rfl (fun K9 hK => ?_) (AllReadyH.nil)
      rw [if_pos (by rfl)]
      go_wp2_with fail
      refine hK.out _ _ (HSK.out _ _ SH.out (by simp)) (fun hHeld2 => ?_)
      clear hHeld hK
      have hHeld := hHeld2
      clear hHeld2
      (try simp only [Act.put, List.getElem_toArray, List.getElem_cons_zero, List.getElem_cons_succ, List.setIfInBounds_toArray, List.set_cons_zero, List.set_cons_succ])
      refine wpAnyH_ready (rs := [10]) (by kernel_rfl) (by simp) ?_
      refine AllReadyH.cons rfl (fun K9 hK => ?_) (AllReadyH.nil)
      rw [if_pos (by rfl)]
      refine wp_append_own (.tmp 54) (.tmp 63) 68 rfl b1 70 i0 (.agg #[.int .i64 0, .int .i64 0]) 2 16 Try.underlying68 hi hiz0 hiz1 hiz2 rfl (by decide) (.slice pv ws.length cv) ws.length (zw ws) rfl (SH.out.li (rwW (.slice pv ws.length cv) ws) (by simp)) ⟨wk.drew.heap.size, 0, none⟩ 1 1 [.int .i64 hd, .int .i64 fy] rfl rfl ?e2 ?e3 ?e4 ?e5 ?e6 ?_
      case e2 => exact new_pair wk.drew _ _ 70
      case e3 => simp [Value.oneCell']
      case e4 => have := HWL.out; unfold maxLen; omega
      case e5 => have := HWL.out; omega
      case e6 => exact SH.out.sz
      intro v' wa hown hgrow hat
      have hs7 := Sep.wayAt [_] SH.out hown hgrow hat
      rw [← HBW.out] at hs7
      have S8 := Lib.hid hs7
      clear hs7 hown hgrow hat SH
      refine hK.out _ _ (HSK.out _ _ S8.out (by simp)) (fun hHeld2 => ?_)
      clear hHeld hK
      have hHeld := hHeld2
      clear hHeld2
      (try simp only [Act.put, List.getElem_toArray, List.getElem_cons_zero, List.getElem_cons_succ, List.setIfInBounds_toArray, List.set_cons_zero, List.set_cons_succ])
      refine wpAnyH_take (i := 11) (v := v') rfl (by kernel_rfl) (by kernel_rfl) (by kernel_rfl) (fun _ _ _ h => h) (Or.inl ⟨by rfl, by (intro w hSw; (try dsimp only at hSw); go_simp)⟩) hHeld ?_
      (try simp only [Act.put, List.getElem_toArray, List.getElem_cons_zero, List.getElem_cons_succ, List.setIfInBounds_toArray, List.set_cons_zero, List.set_cons_succ])
      refine wpAnyH_done (by kernel_rfl) ?_ _
      clear hHeld
      go_wp2_with fail
      go_roundw
      case rel => exact ⟨k + 1, _, by go_num, by omega, HVK, HGO, Lib.hid (Sep.tl S8.out)⟩
      case measure => simp [intOf]; omega
  · obtain rfl : k = l.length := by omega
    have hltI : ¬ (l.length : Int) < (l.length : Int) := by omega
    have hS := HS.out
    rw [List.take_length] at hS
    have hU9 : U = T9 := by have h := HT9.out; rwa [List.drop_length, folT] at h
    subst hU9
    have HX := Lib.hid hS
    obtain ⟨pw2, cw, hpw2, hwv, hwm⟩ := wv_of hS.at
    injection hpw2 with e1 e2 e3
    subst e1 e3
    have HC := Lib.hid (led_any (c := cv) hwv HWS.out HU.out (by rw [folWs_len]; omega))
    rw [HR.out] at HC
    have HTL := Lib.hid HU.out.ln
    have H4 : Hid (wo.heap[b4]? = some (.cells (tC U) 54)) := Lib.hid HX.out.tl.at.2
    rw [List.take_length]
    generalize (folWs l).length = n9 at HC ⊢
    clear hS hwv hwm e2 HS hlt HT9
    go_wp2_with (refine wpList_load_T rfl (.tmp 4) rfl b4 U rfl HTL.out H4.out ?_)
    refine HC.out.mono ?_
    rintro _ w1 ⟨rfl, hb1⟩
    have S4 := Lib.hid (HX.out.up hb1)
    have H2 : Hid (w1.heap[b2]? = some (.cells (tC z64) 54)) := Lib.hid S4.out.tl.tl.tl.at.2
    clear hb1 H4
    go_wp2_with (refine wpList_store_row rfl 54 (.tmp 2) (.tmp 68) rfl b2 (tC R) rfl rfl 54 _ H2.out (by rw [info54, tC_size, HRL.out]) (by rw [tC_size, tC_size, HRL.out, z64_ok.ln]) (tC_one _) ?_)
    refine bodyPost_ret (v := .agg (tC R)) (results_T rfl _ _ b2 R rfl (setRow_heap _ b2 _ _ 54 (0, 0) H2.out) HRL.out) rfl ⟨rfl, ?_⟩
    rw [HBE.out]
    exact (S4.out.tl.tl.tl.putRow (tC R)).bel
end Go.Proofs.Ytpmkdpjcpimhkaa
