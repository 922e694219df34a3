/- Package relex. -/
import Derived.Test.YtemkppjdfjoipaaProg
import Derived.Test.YtemkppjdfjoipaaW23
import Derived.Deep.SlicePairs
import Derived.Deep.Slices
import Derived.Laws.IdiomArrays
import Derived.OpenShut
import Derived.WideBlind
import Derived.Great.BuildSlice
import Derived.WalkKit
import Derived.Maps.OwnSet
import Derived.Maps.OwnOps
import Derived.Maps.Own
import Derived.DeepKeys5
import Derived.BigFrame
import Derived.WalkMore
import Derived.ScopeJumps
import Derived.StillTailTactics
import Derived.Stop.BytesEq
import Derived.WalkLawsBesides
import Derived.WalkSpells
import Derived.Outline
import Derived.Lib.Walk
import Derived.Lib.Hide
import Derived.Lib.Slices
import Derived.Lib.Strings
import Derived.RegionTactic
import Derived.LoopTactic
import Derived.Below
import Derived.IntWalk
import Derived.Deep.QuietTactic
import Derived.BigQuiet
import Derived.Deep.MidRow
import Derived.Maps.AppendAt
import Derived.Laws.Rows
import Derived.Laws.Tables
import Derived.Deep.WholeRow
import Derived.Deep.Cut
import Derived.Deep.CutRange
import Derived.Lib.SliceRun
import Derived.Laws.MakeOwn
import Derived.Deep.RegionLaw
import Derived.Deep.RegionLawGrows
import Derived.Deep.RegionHeld3
import Derived.RegionCalls
import Derived.Deep.RegionWith
import Derived.Deep.Light
import Derived.Laws.CopyOwn
import Derived.Laws.ResultCell
namespace Go.Proofs.Ytemkppjdfjoipaa.I1.X
set_option linter.unusedSimpArgs false
set_option linter.unusedVariables false
set_option maxRecDepth 100000
open Go.RowKit
/- piece. -/
theorem zero38 : ∀ w, (zeroValue 38).run Try.prog w = .ok (.agg #[.int .i64 0, .int .i64 0, .int .i64 0]) w := (zero_of_info (show (Try.prog.info? 38).map (fun i => (i.zero, i.size)) = some (some (.agg #[.int .i64 0, .int .i64 0, .int .i64 0]), 3) by kernel_rfl)).1
theorem lt_byte {t : ByteArray} {k x : Nat} (h : (bl t)[k]? = some x) : x < 256 := by
  have := List.mem_of_getElem? h
  unfold bl at this
  obtain ⟨c, _, rfl⟩ := List.mem_map.1 this
  exact c.toNat_lt
set_option maxHeartbeats 32000000 in
theorem piece_any12 {N : Nat} {w : World} {bs : Nat} {d : Df} {kl : List Int} {t : ByteArray} (hsn : SN N w bs d kl) (hmay : MayD d) (hkl : ∀ r ∈ d.rl, r < (kl.length : Int)) (hk9 : kl.length ≤ 9223372036854775806) (hne : 0 < t.size) (ht : t.size ≤ 1000000) :
    Calls Try.prog 68 #[.pointer (some ⟨bs, 0, none⟩), .string t] w fun e w' => e = .returned (.agg (rwA (pcF (ksL kl) (ofF d (bl t))))) ∧ Below w.heap.size w w' := by
  obtain ⟨ds, p, q, qk, po, c, f, fk, fo, h⟩ := hsn
  have H := Lib.hid h
  have HMAY := Lib.hid hmay
  have HKL := Lib.hid hkl
  have hz := zero38
  obtain ⟨R, hR⟩ : ∃ R, ofF d (bl t) = R := ⟨_, rfl⟩
  rw [hR]
  have HR := Lib.hid hR
  have hnel : Hid (bl t ≠ []) := Lib.hid (by intro e; have := congrArg List.length e; rw [bl_len] at this; simp only [List.length_nil] at this; omega)
  obtain ⟨b4, hb4⟩ : ∃ b, w.heap.size = b := ⟨_, rfl⟩
  have S0 := ((Sb.start w).alloc (.cells #[.int .i64 0, .int .i64 0, .int .i64 0] 38)).alloc (.cells #[.int .i64 23, .int .i64 1, .int .i64 0] 38)
  have hs1 : (w.alloc (.cells #[.int .i64 0, .int .i64 0, .int .i64 0] 38)).heap.size = b4 + 1 := by simp [hb4]
  rw [hs1, hb4] at S0
  have S0 := Lib.hid S0
  have hcell : ∀ y L, Sb w y L → ∀ (j : Nat) v, w.cell? ⟨bs, j, none⟩ = some v → y.cell? ⟨bs, j, none⟩ = some v := fun y L hy j v hv => (cell_same (hy.1.block bs (Nat.lt_of_lt_of_le h.bn h.nw)) _).trans hv
  have HCELL := Lib.hid hcell
  have hlow : ∀ y L, Sb w y L → ∀ b, b < N → ∀ (j : Nat) v, w.cell? ⟨b, j, none⟩ = some v → y.cell? ⟨b, j, none⟩ = some v := fun y L hy b hb j v hv => (cell_same (hy.1.block b (Nat.lt_of_lt_of_le hb h.nw)) _).trans hv
  have HLOW := Lib.hid hlow
  have hst : w.cell? ⟨bs, 1, none⟩ = some (.int .i64 d.st) := h.cs 0 _ h.dc.st
  have HL1 := Lib.hid h.dm.l1
  have HL2 := Lib.hid h.dm.l2
  obtain ⟨st, hstn⟩ : ∃ st : Nat, d.st = (st : Int) := ⟨d.st.toNat, by have := hmay.s0; omega⟩
  have hst1 : st < d.nx.length := by have := hmay.s1; omega
  rw [hstn] at hst
  have HM0 : Hid (MLI d (bl t) (st : Int) 0 (-1) 0) := Lib.hid ⟨by rw [List.take_zero]; exact hstn, by omega, rfl, Nat.zero_le _, fun i h1 h2 => by omega⟩
  clear h hmay hkl hR hcell hlow hstn
  go_enter Try.func68, Try.ntmps68
  go_upto_region 2 with fail
  clear hs1
  refine at_world (fun y => Sb w y [(b4 + 1, .cells #[.int .i64 23, .int .i64 1, .int .i64 0] 38), (b4, .cells #[.int .i64 0, .int .i64 0, .int .i64 0] 38)]) (by have := S0.out; simpa [hb4] using this) fun y hy => ?_
  have c1 : y.cell? ⟨bs, 1, none⟩ = some (.int .i64 (st : Nat)) := HCELL.out y _ hy _ _ hst
  have S1 := Lib.hid hy
  clear hy S0
  go_wp2_with fail
  clear c1 hst
  go_loopw [6, 7] (fun sv _ wr => ∃ (k s n : Nat) (r : Int), sv = .int .i64 (s : Nat) ∧ k ≤ t.size ∧ s < d.nx.length ∧ r < (kl.length : Int) ∧ Hid (MLI d (bl t) (s : Int) k r n) ∧ Hid (Sb w wr [(b4 + 1, .cells #[.int .i64 (kdF kl r), .int .i64 (lnF r n : Nat), .int .i64 (k : Nat)] 38), (b4, .cells #[.int .i64 0, .int .i64 0, .int .i64 0] 38)])) (fun _ _ wr => t.size + 1 - (match wr.cell? ⟨b4 + 1, 2, none⟩ with | some v => (intOf v).toNat | none => 0))
  case atStart => exact ⟨0, st, 0, -1, rfl, by omega, hst1, by omega, HM0, S1⟩
  case round =>
  clear S1 HM0 hst1
  obtain ⟨k, s, n, r, rfl, hk, hs, hrk, HM, HS⟩ := hrel
  obtain ⟨wo, rfl⟩ : ∃ wo : World, wo = wr := ⟨_, rfl⟩
  have e2 : wo.cell? ⟨b4 + 1, 2, none⟩ = some (.int .i64 (k : Nat)) := HS.out.cell 2
  have E2 := Lib.hid e2
  have x260 : wo.cell? ⟨bs, 260, none⟩ = some (.slice po d.nx.length fo) := HCELL.out _ _ HS.out _ _ H.out.o0
  have HON : Hid (onD d (s : Int) = onRow d.nx[s]) := Lib.hid (by unfold onD; rw [Int.toNat_natCast, List.getElem?_eq_getElem hs])
  obtain ⟨p', c', he, hh⟩ := H.out.ov
  injection he with e1' e3' e4'
  subst e1' e4'
  clear e3'
  obtain ⟨bo, oo, rfl, hbo, hco⟩ := hh (by intro e; rw [List.map_eq_nil_iff] at e; rw [e] at hs; simp at hs)
  have xo : wo.cell? ⟨bo, oo + s, none⟩ = some (.bool (onRow d.nx[s])) := HLOW.out _ _ HS.out bo hbo _ _ (by have := hco s (by simpa using hs); simpa using this)
  clear hh hco
  have f2 : wo.frozen? ⟨b4 + 1, 2, none⟩ = false := HS.out.free 2
  have sk : IntKind.i64.wrap ((k : Int) + 1) = ((k : Int) + 1) := IntWalk.i64_in _ (by omega)
  have HSK : Hid (Sb w (wo.setCell ⟨b4 + 1, 2, none⟩ (.int .i64 ((k : Int) + 1))) [(b4 + 1, .cells #[.int .i64 (kdF kl r), .int .i64 (lnF r n : Nat), .int .i64 ((k : Int) + 1)] 38), (b4, .cells #[.int .i64 0, .int .i64 0, .int .i64 0] 38)]) := Lib.hid (HS.out.set (i := 2) (.int .i64 ((k : Int) + 1)) (by simp))
  have hsI : (s : Int) < (d.nx.length : Int) := by omega
  have hsI0 : ¬ (s : Int) < 0 := by omega
  obtain ⟨on, hon⟩ : ∃ b, onRow d.nx[s] = b := ⟨_, rfl⟩
  rw [hon] at xo HON
  clear hon
  by_cases hk0 : k = 0
  · have kb : ((k : Int) == 0) = true := by simp [hk0]
    have HB : Hid ((k == 0 || on) = true) := Lib.hid (by simp [hk0])
    clear hk0
    go_upto_region 4 with fail
    clear kb
    go_upto_region 5 with fail
    refine at_world (fun z => Sb w z [(b4 + 1, .cells #[.int .i64 (kdF kl r), .int .i64 (lnF r n : Nat), .int .i64 ((k : Int) + 1)] 38), (b4, .cells #[.int .i64 0, .int .i64 0, .int .i64 0] 38)]) HSK.out fun z hz => ?_
    have HZ := Lib.hid hz
    clear hz HSK e2 f2 x260 xo sk
    have z2 : z.cell? ⟨b4 + 1, 2, none⟩ = some (.int .i64 ((k : Int) + 1)) := HZ.out.cell 2
    by_cases hlt : k < t.size
    · have hkI : ¬ ((k : Int) + 1) > (t.size : Int) := by omega
      have hkl : k < (bl t).length := by rw [bl_len]; exact hlt
      obtain ⟨x, hx⟩ : ∃ x, (bl t)[k] = x := ⟨_, rfl⟩
      have hgx : (bl t)[k]? = some x := by rw [List.getElem?_eq_getElem hkl, hx]
      have hix := index9 t k x hgx
      have hx9 := lt_byte hgx
      have hdr : (bl t).drop k = x :: (bl t).drop (k + 1) := by rw [List.drop_eq_getElem_cons hkl, hx]
      have HDR := Lib.hid hdr
      have hcl := H.out.dc.cl x hx9
      have x1 : z.cell? ⟨bs, 1 + (1 + x), none⟩ = some (.int .u8 (d.cl x : Nat)) := HCELL.out _ _ HZ.out _ _ (H.out.cs _ _ hcl.1)
      rw [show 1 + (1 + x) = 2 + x by omega] at x1
      have x257 : z.cell? ⟨bs, 258, none⟩ = some (.slice p d.nx.length c) := HCELL.out _ _ HZ.out _ _ (H.out.cs 257 _ H.out.dc.nx)
      have hrw := HMAY.out.rw d.nx[s] (List.getElem_mem hs)
      have hcl2 : d.cl x < d.nx[s].length := by rw [hrw.1]; exact HMAY.out.cl x hx9
      obtain ⟨p', c', he, hh⟩ := H.out.dm.nx
      injection he with e1 e3 e4
      subst e1 e4
      obtain ⟨b, o, rfl, hb, hc⟩ := hh (by intro e; rw [e] at hs; simp at hs)
      obtain ⟨qf, ff, hiv, hcj⟩ := hc s hs
      have cx : z.cell? ⟨b, o + s, none⟩ = some (.slice qf d.nx[s].length ff) := HLOW.out _ _ HZ.out b hb _ _ hcj
      obtain ⟨p', c', he, hh2⟩ := hiv
      injection he with e1 e5 e4
      subst e1 e4
      obtain ⟨bf, of, rfl, hbf, hcf⟩ := hh2 (by intro e; rw [e] at hcl2; simp at hcl2)
      have x2 : z.cell? ⟨bf, of + d.cl x, none⟩ = some (.int .i64 (d.nx[s][d.cl x])) := HLOW.out _ _ HZ.out bf hbf _ _ (hcf _ hcl2)
      have htt : cellAt d s (d.cl x) = d.nx[s][d.cl x] := by
        unfold cellAt
        rw [List.getElem?_eq_getElem hs]
        show (d.nx[s]).getD (d.cl x) (-1) = _
        rw [List.getD_eq_getElem?_getD, List.getElem?_eq_getElem hcl2]; rfl
      have htl : d.nx[s][d.cl x] < (d.nx.length : Int) := hrw.2 _ (List.getElem_mem hcl2)
      have hl3 := H.out.dm.l3 d.nx[s] (List.getElem_mem hs)
      have hlm := H.out.dm.l1
      obtain ⟨tt, ht9⟩ : ∃ tt, d.nx[s][d.cl x] = tt := ⟨_, rfl⟩
      rw [ht9] at x2 htt htl
      have HTT := Lib.hid htt
      have hclI : ((d.cl x : Nat) : Int) < (d.nx[s].length : Int) := by omega
      have hclI0 : ¬ ((d.cl x : Nat) : Int) < 0 := by omega
      have sm : IntKind.i64.wrap (((k : Int) + 1) - 1) = (k : Int) := by rw [IntWalk.i64_in _ (by omega)]; omega
      have hkI2 : (k : Int) < (t.size : Int) := by omega
      have hkI0 : ¬ (k : Int) < 0 := by omega
      clear hh hc hcj hh2 hcf ht9 htt hrw hcl hgx hx hkl hdr
      go_upto_region 6 with fail
      go_quiet (fail)
      refine at_worldQ (fun y => Sb w y [(b4 + 1, .cells #[.int .i64 (kdF kl r), .int .i64 (lnF r n : Nat), .int .i64 ((k : Int) + 1)] 38), (b4, .cells #[.int .i64 0, .int .i64 0, .int .i64 0] 38)]) (HZ.out.drewN _) fun y hy => ?_
      have HY := Lib.hid hy
      clear hy HZ z2 x257 cx x1 x2 hcl2 hclI hclI0 hix sm
      have y2 : y.cell? ⟨b4 + 1, 2, none⟩ = some (.int .i64 ((k : Int) + 1)) := HY.out.cell 2
      by_cases ht0 : 0 ≤ tt
      · obtain ⟨tn, rfl⟩ : ∃ tn : Nat, tt = (tn : Int) := ⟨tt.toNat, by omega⟩
        have ht0' : ¬ (tn : Int) < 0 := by omega
        have htl2 : tn < d.rl.length := by rw [← HMAY.out.ln]; omega
        have htn : tn < d.nx.length := by omega
        have y259 : y.cell? ⟨bs, 259, none⟩ = some (.slice q d.rl.length f) := HCELL.out _ _ HY.out _ _ (H.out.cs 258 _ H.out.dc.rl)
        obtain ⟨p', c', he, hh⟩ := H.out.dm.rl
        injection he with e1 e5 e4
        subst e1 e4
        obtain ⟨b2, o2, rfl, hb2, hc2⟩ := hh (by intro e; rw [e] at htl2; simp at htl2)
        have yr : y.cell? ⟨b2, o2 + tn, none⟩ = some (.int .i64 d.rl[tn]) := HLOW.out _ _ HY.out b2 hb2 _ _ (hc2 tn htl2)
        have hrg : d.rl.getD tn (-1) = d.rl[tn] := by rw [List.getD_eq_getElem?_getD, List.getElem?_eq_getElem htl2]; rfl
        have hl2 := H.out.dm.l2
        have hrlt : d.rl[tn] < (kl.length : Int) := HKL.out _ (List.getElem_mem _)
        have HM2 := Lib.hid (MLI.step HM.out HDR.out (by rw [Int.toNat_natCast, HTT.out]; exact ht0))
        rw [Int.toNat_natCast, HTT.out, Int.toNat_natCast, hrg] at HM2
        obtain ⟨rr, hrr⟩ : ∃ rr, d.rl[tn] = rr := ⟨_, rfl⟩
        rw [hrr] at yr HM2 hrlt
        have htI : (tn : Int) < (d.rl.length : Int) := by omega
        have htI0 : ¬ (tn : Int) < 0 := by omega
        clear hh hc2 hrr hrg HDR HTT hb2 HM
        by_cases hr0 : 0 ≤ rr
        · obtain ⟨rn, rfl⟩ : ∃ rn : Nat, rr = (rn : Int) := ⟨rr.toNat, by omega⟩
          rw [if_pos hr0, if_pos hr0] at HM2
          have hr0' : ¬ (rn : Int) < 0 := by omega
          have hrnl : rn < kl.length := by omega
          have k0 : y.cell? ⟨bs, 0, none⟩ = some (.slice qk kl.length fk) := HCELL.out _ _ HY.out _ _ H.out.k0
          obtain ⟨p', c', he, hh⟩ := H.out.kv
          injection he with e1 e5 e4
          subst e1 e4
          obtain ⟨b6, o6, rfl, hb6, hc6⟩ := hh (by intro e; rw [e] at hrnl; simp at hrnl)
          have yk : y.cell? ⟨b6, o6 + rn, none⟩ = some (.int .i64 kl[rn]) := HLOW.out _ _ HY.out b6 hb6 _ _ (hc6 rn hrnl)
          have hkd : kdF kl (rn : Int) = kl[rn] := by unfold kdF; rw [if_neg hr0', Int.toNat_natCast, List.getD_eq_getElem?_getD, List.getElem?_eq_getElem hrnl]; rfl
          have hln : lnF (rn : Int) (k + 1) = k + 1 := by unfold lnF; rw [if_neg hr0']
          rw [← hkd] at yk
          have HLN := Lib.hid hln
          have hrnI : (rn : Int) < (kl.length : Int) := by omega
          clear hh hc6 hkd hln
          have y0 : y.cell? ⟨b4 + 1, 0, none⟩ = some (.int .i64 (kdF kl r)) := HY.out.cell 0
          have y1 : y.cell? ⟨b4 + 1, 1, none⟩ = some (.int .i64 (lnF r n : Nat)) := HY.out.cell 1
          have f0 : y.frozen? ⟨b4 + 1, 0, none⟩ = false := HY.out.free 0
          have f1 : y.frozen? ⟨b4 + 1, 1, none⟩ = false := HY.out.free 1
          have HZ3 : Hid (Sb w ((y.setCell ⟨b4 + 1, 0, none⟩ (.int .i64 (kdF kl (rn : Int)))).setCell ⟨b4 + 1, 1, none⟩ (.int .i64 ((k : Int) + 1))).drew [(b4 + 1, .cells #[.int .i64 (kdF kl (rn : Int)), .int .i64 ((k : Int) + 1), .int .i64 ((k : Int) + 1)] 38), (b4, .cells #[.int .i64 0, .int .i64 0, .int .i64 0] 38)]) := Lib.hid (by
            have h1 := HY.out.set (i := 0) (.int .i64 (kdF kl (rn : Int))) (by simp)
            exact (h1.set (i := 1) (.int .i64 ((k : Int) + 1)) (by simp)).drew)
          go_upto_region 10 with fail
          go_region
          refine at_worldQ (fun z => Sb w z [(b4 + 1, .cells #[.int .i64 (kdF kl (rn : Int)), .int .i64 ((k : Int) + 1), .int .i64 ((k : Int) + 1)] 38), (b4, .cells #[.int .i64 0, .int .i64 0, .int .i64 0] 38)]) HZ3.out fun v hv => ?_
          have HV := Lib.hid hv
          clear hv HZ3 y0 y1 y2 f0 f1 yk k0 yr y259 HY
          go_wp2_with fail
          go_roundw
          case rel => exact ⟨k + 1, tn, k + 1, rn, rfl, by omega, htn, hrlt, HM2, Lib.hid (by rw [HLN.out]; exact HV.out)⟩
          case measure =>
            have v2 : v.cell? ⟨b4 + 1, 2, none⟩ = some (.int .i64 ((k : Int) + 1)) := HV.out.cell 2
            simp only [v2, E2.out]
            have e7 : t.size + 1 - (k + 1) < t.size + 1 - k := by omega
            first | (have e9 : (intOf (.int .i64 ((k : Int) + 1))).toNat = k + 1 := by simp only [intOf]; omega
                     rw [← e9] at e7; simpa [intOf] using e7) | exact e7
        · have hr0' : rr < 0 := by omega
          rw [if_neg (by omega), if_neg (by omega)] at HM2
          go_wp2_with fail
          go_roundw
          case rel => exact ⟨k + 1, tn, n, r, rfl, by omega, htn, hrk, HM2, Lib.hid HY.out⟩
          case measure =>
            simp only [y2, E2.out]
            have e7 : t.size + 1 - (k + 1) < t.size + 1 - k := by omega
            first | (have e9 : (intOf (.int .i64 ((k : Int) + 1))).toNat = k + 1 := by simp only [intOf]; omega
                     rw [← e9] at e7; simpa [intOf] using e7) | exact e7
      · have ht0' : tt < 0 := by omega
        have HRES : Hid ((r, n, k + 1) = R) := Lib.hid ((mli_on HM.out hnel.out (by rw [HON.out]; exact HB.out) (.inr ⟨x, _, HDR.out, by rw [Int.toNat_natCast, HTT.out]; omega⟩)).trans HR.out)
        clear HDR HTT HM
        obtain ⟨z, hz9⟩ : ∃ z, z = y := ⟨_, rfl⟩
        rw [← hz9] at HY y2 ⊢
        have HZ := HY
        clear HY hz9 y2
        have y0 : z.cell? ⟨b4 + 1, 0, none⟩ = some (.int .i64 (kdF kl r)) := HZ.out.cell 0
        have y1 : z.cell? ⟨b4 + 1, 1, none⟩ = some (.int .i64 (lnF r n : Nat)) := HZ.out.cell 1
        have y2 : z.cell? ⟨b4 + 1, 2, none⟩ = some (.int .i64 (((k : Int) + 1))) := HZ.out.cell 2
        have o0 : z.cell? ⟨b4, 0, none⟩ = some (.int .i64 0) := HZ.out.tl.cell 0
        have o1 : z.cell? ⟨b4, 1, none⟩ = some (.int .i64 0) := HZ.out.tl.cell 1
        have o2 : z.cell? ⟨b4, 2, none⟩ = some (.int .i64 0) := HZ.out.tl.cell 2
        have g0 : z.frozen? ⟨b4, 0, none⟩ = false := HZ.out.tl.free 0
        have g1 : z.frozen? ⟨b4, 1, none⟩ = false := HZ.out.tl.free 1
        have g2 : z.frozen? ⟨b4, 2, none⟩ = false := HZ.out.tl.free 2
        have hyp : Hid (Sb w (((z.setCell ⟨b4, 0, none⟩ (.int .i64 (kdF kl r))).setCell ⟨b4, 1, none⟩ (.int .i64 (lnF r n : Nat))).setCell ⟨b4, 2, none⟩ (.int .i64 (((k : Int) + 1)))) [(b4, .cells #[.int .i64 (kdF kl r), .int .i64 (lnF r n : Nat), .int .i64 (((k : Int) + 1))] 38)]) := Lib.hid (by
          have h0 := HZ.out.tl
          exact ((h0.set (i := 0) (.int .i64 (kdF kl r)) (by simp)).set (i := 1) (.int .i64 (lnF r n : Nat)) (by simp)).set (i := 2) (.int .i64 (((k : Int) + 1))) (by simp))
        go_wp2_with fail
        refine bodyPost_ret (results_cell_row rfl _ _ b4 38 _ (0, 0) _ rfl hyp.out.heap Try.underlying38 rfl (by kernel_rfl)) rfl ⟨?_, hb4 ▸ hyp.out.1⟩
        rw [← HRES.out, pcF_kd]; rfl
    · obtain rfl : k = t.size := by omega
      have hkI : ((t.size : Int) + 1) > (t.size : Int) := by omega
      have HRES : Hid ((r, n, t.size + 1) = R) := Lib.hid ((mli_on HM.out hnel.out (by rw [HON.out]; exact HB.out) (.inl (by rw [List.drop_eq_nil_of_le (by rw [bl_len]; omega)]))).trans HR.out)
      clear HM z2
      have y0 : z.cell? ⟨b4 + 1, 0, none⟩ = some (.int .i64 (kdF kl r)) := HZ.out.cell 0
      have y1 : z.cell? ⟨b4 + 1, 1, none⟩ = some (.int .i64 (lnF r n : Nat)) := HZ.out.cell 1
      have y2 : z.cell? ⟨b4 + 1, 2, none⟩ = some (.int .i64 (((t.size : Int) + 1))) := HZ.out.cell 2
      have o0 : z.cell? ⟨b4, 0, none⟩ = some (.int .i64 0) := HZ.out.tl.cell 0
      have o1 : z.cell? ⟨b4, 1, none⟩ = some (.int .i64 0) := HZ.out.tl.cell 1
      have o2 : z.cell? ⟨b4, 2, none⟩ = some (.int .i64 0) := HZ.out.tl.cell 2
      have g0 : z.frozen? ⟨b4, 0, none⟩ = false := HZ.out.tl.free 0
      have g1 : z.frozen? ⟨b4, 1, none⟩ = false := HZ.out.tl.free 1
      have g2 : z.frozen? ⟨b4, 2, none⟩ = false := HZ.out.tl.free 2
      have hyp : Hid (Sb w (((z.setCell ⟨b4, 0, none⟩ (.int .i64 (kdF kl r))).setCell ⟨b4, 1, none⟩ (.int .i64 (lnF r n : Nat))).setCell ⟨b4, 2, none⟩ (.int .i64 (((t.size : Int) + 1)))) [(b4, .cells #[.int .i64 (kdF kl r), .int .i64 (lnF r n : Nat), .int .i64 (((t.size : Int) + 1))] 38)]) := Lib.hid (by
        have h0 := HZ.out.tl
        exact ((h0.set (i := 0) (.int .i64 (kdF kl r)) (by simp)).set (i := 1) (.int .i64 (lnF r n : Nat)) (by simp)).set (i := 2) (.int .i64 (((t.size : Int) + 1))) (by simp))
      go_wp2_with fail
      refine bodyPost_ret (results_cell_row rfl _ _ b4 38 _ (0, 0) _ rfl hyp.out.heap Try.underlying38 rfl (by kernel_rfl)) rfl ⟨?_, hb4 ▸ hyp.out.1⟩
      rw [← HRES.out, pcF_kd]; rfl
  · have kb : ((k : Int) == 0) = false := by simp; omega
    cases on with
    | true =>
      have HB : Hid ((k == 0 || true) = true) := Lib.hid (by simp)
      go_upto_region 4 with fail
      clear kb hk0
      go_upto_region 5 with fail
      refine at_world (fun z => Sb w z [(b4 + 1, .cells #[.int .i64 (kdF kl r), .int .i64 (lnF r n : Nat), .int .i64 ((k : Int) + 1)] 38), (b4, .cells #[.int .i64 0, .int .i64 0, .int .i64 0] 38)]) HSK.out fun z hz => ?_
      have HZ := Lib.hid hz
      clear hz HSK e2 f2 x260 xo sk
      have z2 : z.cell? ⟨b4 + 1, 2, none⟩ = some (.int .i64 ((k : Int) + 1)) := HZ.out.cell 2
      by_cases hlt : k < t.size
      · have hkI : ¬ ((k : Int) + 1) > (t.size : Int) := by omega
        have hkl : k < (bl t).length := by rw [bl_len]; exact hlt
        obtain ⟨x, hx⟩ : ∃ x, (bl t)[k] = x := ⟨_, rfl⟩
        have hgx : (bl t)[k]? = some x := by rw [List.getElem?_eq_getElem hkl, hx]
        have hix := index9 t k x hgx
        have hx9 := lt_byte hgx
        have hdr : (bl t).drop k = x :: (bl t).drop (k + 1) := by rw [List.drop_eq_getElem_cons hkl, hx]
        have HDR := Lib.hid hdr
        have hcl := H.out.dc.cl x hx9
        have x1 : z.cell? ⟨bs, 1 + (1 + x), none⟩ = some (.int .u8 (d.cl x : Nat)) := HCELL.out _ _ HZ.out _ _ (H.out.cs _ _ hcl.1)
        rw [show 1 + (1 + x) = 2 + x by omega] at x1
        have x257 : z.cell? ⟨bs, 258, none⟩ = some (.slice p d.nx.length c) := HCELL.out _ _ HZ.out _ _ (H.out.cs 257 _ H.out.dc.nx)
        have hrw := HMAY.out.rw d.nx[s] (List.getElem_mem hs)
        have hcl2 : d.cl x < d.nx[s].length := by rw [hrw.1]; exact HMAY.out.cl x hx9
        obtain ⟨p', c', he, hh⟩ := H.out.dm.nx
        injection he with e1 e3 e4
        subst e1 e4
        obtain ⟨b, o, rfl, hb, hc⟩ := hh (by intro e; rw [e] at hs; simp at hs)
        obtain ⟨qf, ff, hiv, hcj⟩ := hc s hs
        have cx : z.cell? ⟨b, o + s, none⟩ = some (.slice qf d.nx[s].length ff) := HLOW.out _ _ HZ.out b hb _ _ hcj
        obtain ⟨p', c', he, hh2⟩ := hiv
        injection he with e1 e5 e4
        subst e1 e4
        obtain ⟨bf, of, rfl, hbf, hcf⟩ := hh2 (by intro e; rw [e] at hcl2; simp at hcl2)
        have x2 : z.cell? ⟨bf, of + d.cl x, none⟩ = some (.int .i64 (d.nx[s][d.cl x])) := HLOW.out _ _ HZ.out bf hbf _ _ (hcf _ hcl2)
        have htt : cellAt d s (d.cl x) = d.nx[s][d.cl x] := by
          unfold cellAt
          rw [List.getElem?_eq_getElem hs]
          show (d.nx[s]).getD (d.cl x) (-1) = _
          rw [List.getD_eq_getElem?_getD, List.getElem?_eq_getElem hcl2]; rfl
        have htl : d.nx[s][d.cl x] < (d.nx.length : Int) := hrw.2 _ (List.getElem_mem hcl2)
        have hl3 := H.out.dm.l3 d.nx[s] (List.getElem_mem hs)
        have hlm := H.out.dm.l1
        obtain ⟨tt, ht9⟩ : ∃ tt, d.nx[s][d.cl x] = tt := ⟨_, rfl⟩
        rw [ht9] at x2 htt htl
        have HTT := Lib.hid htt
        have hclI : ((d.cl x : Nat) : Int) < (d.nx[s].length : Int) := by omega
        have hclI0 : ¬ ((d.cl x : Nat) : Int) < 0 := by omega
        have sm : IntKind.i64.wrap (((k : Int) + 1) - 1) = (k : Int) := by rw [IntWalk.i64_in _ (by omega)]; omega
        have hkI2 : (k : Int) < (t.size : Int) := by omega
        have hkI0 : ¬ (k : Int) < 0 := by omega
        clear hh hc hcj hh2 hcf ht9 htt hrw hcl hgx hx hkl hdr
        go_upto_region 6 with fail
        go_quiet (fail)
        refine at_worldQ (fun y => Sb w y [(b4 + 1, .cells #[.int .i64 (kdF kl r), .int .i64 (lnF r n : Nat), .int .i64 ((k : Int) + 1)] 38), (b4, .cells #[.int .i64 0, .int .i64 0, .int .i64 0] 38)]) (HZ.out.drewN _) fun y hy => ?_
        have HY := Lib.hid hy
        clear hy HZ z2 x257 cx x1 x2 hcl2 hclI hclI0 hix sm
        have y2 : y.cell? ⟨b4 + 1, 2, none⟩ = some (.int .i64 ((k : Int) + 1)) := HY.out.cell 2
        by_cases ht0 : 0 ≤ tt
        · obtain ⟨tn, rfl⟩ : ∃ tn : Nat, tt = (tn : Int) := ⟨tt.toNat, by omega⟩
          have ht0' : ¬ (tn : Int) < 0 := by omega
          have htl2 : tn < d.rl.length := by rw [← HMAY.out.ln]; omega
          have htn : tn < d.nx.length := by omega
          have y259 : y.cell? ⟨bs, 259, none⟩ = some (.slice q d.rl.length f) := HCELL.out _ _ HY.out _ _ (H.out.cs 258 _ H.out.dc.rl)
          obtain ⟨p', c', he, hh⟩ := H.out.dm.rl
          injection he with e1 e5 e4
          subst e1 e4
          obtain ⟨b2, o2, rfl, hb2, hc2⟩ := hh (by intro e; rw [e] at htl2; simp at htl2)
          have yr : y.cell? ⟨b2, o2 + tn, none⟩ = some (.int .i64 d.rl[tn]) := HLOW.out _ _ HY.out b2 hb2 _ _ (hc2 tn htl2)
          have hrg : d.rl.getD tn (-1) = d.rl[tn] := by rw [List.getD_eq_getElem?_getD, List.getElem?_eq_getElem htl2]; rfl
          have hl2 := H.out.dm.l2
          have hrlt : d.rl[tn] < (kl.length : Int) := HKL.out _ (List.getElem_mem _)
          have HM2 := Lib.hid (MLI.step HM.out HDR.out (by rw [Int.toNat_natCast, HTT.out]; exact ht0))
          rw [Int.toNat_natCast, HTT.out, Int.toNat_natCast, hrg] at HM2
          obtain ⟨rr, hrr⟩ : ∃ rr, d.rl[tn] = rr := ⟨_, rfl⟩
          rw [hrr] at yr HM2 hrlt
          have htI : (tn : Int) < (d.rl.length : Int) := by omega
          have htI0 : ¬ (tn : Int) < 0 := by omega
          clear hh hc2 hrr hrg HDR HTT hb2 HM
          by_cases hr0 : 0 ≤ rr
          · obtain ⟨rn, rfl⟩ : ∃ rn : Nat, rr = (rn : Int) := ⟨rr.toNat, by omega⟩
            rw [if_pos hr0, if_pos hr0] at HM2
            have hr0' : ¬ (rn : Int) < 0 := by omega
            have hrnl : rn < kl.length := by omega
            have k0 : y.cell? ⟨bs, 0, none⟩ = some (.slice qk kl.length fk) := HCELL.out _ _ HY.out _ _ H.out.k0
            obtain ⟨p', c', he, hh⟩ := H.out.kv
            injection he with e1 e5 e4
            subst e1 e4
            obtain ⟨b6, o6, rfl, hb6, hc6⟩ := hh (by intro e; rw [e] at hrnl; simp at hrnl)
            have yk : y.cell? ⟨b6, o6 + rn, none⟩ = some (.int .i64 kl[rn]) := HLOW.out _ _ HY.out b6 hb6 _ _ (hc6 rn hrnl)
            have hkd : kdF kl (rn : Int) = kl[rn] := by unfold kdF; rw [if_neg hr0', Int.toNat_natCast, List.getD_eq_getElem?_getD, List.getElem?_eq_getElem hrnl]; rfl
            have hln : lnF (rn : Int) (k + 1) = k + 1 := by unfold lnF; rw [if_neg hr0']
            rw [← hkd] at yk
            have HLN := Lib.hid hln
            have hrnI : (rn : Int) < (kl.length : Int) := by omega
            clear hh hc6 hkd hln
            have y0 : y.cell? ⟨b4 + 1, 0, none⟩ = some (.int .i64 (kdF kl r)) := HY.out.cell 0
            have y1 : y.cell? ⟨b4 + 1, 1, none⟩ = some (.int .i64 (lnF r n : Nat)) := HY.out.cell 1
            have f0 : y.frozen? ⟨b4 + 1, 0, none⟩ = false := HY.out.free 0
            have f1 : y.frozen? ⟨b4 + 1, 1, none⟩ = false := HY.out.free 1
            have HZ3 : Hid (Sb w ((y.setCell ⟨b4 + 1, 0, none⟩ (.int .i64 (kdF kl (rn : Int)))).setCell ⟨b4 + 1, 1, none⟩ (.int .i64 ((k : Int) + 1))).drew [(b4 + 1, .cells #[.int .i64 (kdF kl (rn : Int)), .int .i64 ((k : Int) + 1), .int .i64 ((k : Int) + 1)] 38), (b4, .cells #[.int .i64 0, .int .i64 0, .int .i64 0] 38)]) := Lib.hid (by
              have h1 := HY.out.set (i := 0) (.int .i64 (kdF kl (rn : Int))) (by simp)
              exact (h1.set (i := 1) (.int .i64 ((k : Int) + 1)) (by simp)).drew)
            go_upto_region 10 with fail
            go_region
            refine at_worldQ (fun z => Sb w z [(b4 + 1, .cells #[.int .i64 (kdF kl (rn : Int)), .int .i64 ((k : Int) + 1), .int .i64 ((k : Int) + 1)] 38), (b4, .cells #[.int .i64 0, .int .i64 0, .int .i64 0] 38)]) HZ3.out fun v hv => ?_
            have HV := Lib.hid hv
            clear hv HZ3 y0 y1 y2 f0 f1 yk k0 yr y259 HY
            go_wp2_with fail
            go_roundw
            case rel => exact ⟨k + 1, tn, k + 1, rn, rfl, by omega, htn, hrlt, HM2, Lib.hid (by rw [HLN.out]; exact HV.out)⟩
            case measure =>
              have v2 : v.cell? ⟨b4 + 1, 2, none⟩ = some (.int .i64 ((k : Int) + 1)) := HV.out.cell 2
              simp only [v2, E2.out]
              have e7 : t.size + 1 - (k + 1) < t.size + 1 - k := by omega
              first | (have e9 : (intOf (.int .i64 ((k : Int) + 1))).toNat = k + 1 := by simp only [intOf]; omega
                       rw [← e9] at e7; simpa [intOf] using e7) | exact e7
          · have hr0' : rr < 0 := by omega
            rw [if_neg (by omega), if_neg (by omega)] at HM2
            go_wp2_with fail
            go_roundw
            case rel => exact ⟨k + 1, tn, n, r, rfl, by omega, htn, hrk, HM2, Lib.hid HY.out⟩
            case measure =>
              simp only [y2, E2.out]
              have e7 : t.size + 1 - (k + 1) < t.size + 1 - k := by omega
              first | (have e9 : (intOf (.int .i64 ((k : Int) + 1))).toNat = k + 1 := by simp only [intOf]; omega
                       rw [← e9] at e7; simpa [intOf] using e7) | exact e7
        · have ht0' : tt < 0 := by omega
          have HRES : Hid ((r, n, k + 1) = R) := Lib.hid ((mli_on HM.out hnel.out (by rw [HON.out]; exact HB.out) (.inr ⟨x, _, HDR.out, by rw [Int.toNat_natCast, HTT.out]; omega⟩)).trans HR.out)
          clear HDR HTT HM
          obtain ⟨z, hz9⟩ : ∃ z, z = y := ⟨_, rfl⟩
          rw [← hz9] at HY y2 ⊢
          have HZ := HY
          clear HY hz9 y2
          have y0 : z.cell? ⟨b4 + 1, 0, none⟩ = some (.int .i64 (kdF kl r)) := HZ.out.cell 0
          have y1 : z.cell? ⟨b4 + 1, 1, none⟩ = some (.int .i64 (lnF r n : Nat)) := HZ.out.cell 1
          have y2 : z.cell? ⟨b4 + 1, 2, none⟩ = some (.int .i64 (((k : Int) + 1))) := HZ.out.cell 2
          have o0 : z.cell? ⟨b4, 0, none⟩ = some (.int .i64 0) := HZ.out.tl.cell 0
          have o1 : z.cell? ⟨b4, 1, none⟩ = some (.int .i64 0) := HZ.out.tl.cell 1
          have o2 : z.cell? ⟨b4, 2, none⟩ = some (.int .i64 0) := HZ.out.tl.cell 2
          have g0 : z.frozen? ⟨b4, 0, none⟩ = false := HZ.out.tl.free 0
          have g1 : z.frozen? ⟨b4, 1, none⟩ = false := HZ.out.tl.free 1
          have g2 : z.frozen? ⟨b4, 2, none⟩ = false := HZ.out.tl.free 2
          have hyp : Hid (Sb w (((z.setCell ⟨b4, 0, none⟩ (.int .i64 (kdF kl r))).setCell ⟨b4, 1, none⟩ (.int .i64 (lnF r n : Nat))).setCell ⟨b4, 2, none⟩ (.int .i64 (((k : Int) + 1)))) [(b4, .cells #[.int .i64 (kdF kl r), .int .i64 (lnF r n : Nat), .int .i64 (((k : Int) + 1))] 38)]) := Lib.hid (by
            have h0 := HZ.out.tl
            exact ((h0.set (i := 0) (.int .i64 (kdF kl r)) (by simp)).set (i := 1) (.int .i64 (lnF r n : Nat)) (by simp)).set (i := 2) (.int .i64 (((k : Int) + 1))) (by simp))
          go_wp2_with fail
          refine bodyPost_ret (results_cell_row rfl _ _ b4 38 _ (0, 0) _ rfl hyp.out.heap Try.underlying38 rfl (by kernel_rfl)) rfl ⟨?_, hb4 ▸ hyp.out.1⟩
          rw [← HRES.out, pcF_kd]; rfl
      · obtain rfl : k = t.size := by omega
        have hkI : ((t.size : Int) + 1) > (t.size : Int) := by omega
        have HRES : Hid ((r, n, t.size + 1) = R) := Lib.hid ((mli_on HM.out hnel.out (by rw [HON.out]; exact HB.out) (.inl (by rw [List.drop_eq_nil_of_le (by rw [bl_len]; omega)]))).trans HR.out)
        clear HM z2
        have y0 : z.cell? ⟨b4 + 1, 0, none⟩ = some (.int .i64 (kdF kl r)) := HZ.out.cell 0
        have y1 : z.cell? ⟨b4 + 1, 1, none⟩ = some (.int .i64 (lnF r n : Nat)) := HZ.out.cell 1
        have y2 : z.cell? ⟨b4 + 1, 2, none⟩ = some (.int .i64 (((t.size : Int) + 1))) := HZ.out.cell 2
        have o0 : z.cell? ⟨b4, 0, none⟩ = some (.int .i64 0) := HZ.out.tl.cell 0
        have o1 : z.cell? ⟨b4, 1, none⟩ = some (.int .i64 0) := HZ.out.tl.cell 1
        have o2 : z.cell? ⟨b4, 2, none⟩ = some (.int .i64 0) := HZ.out.tl.cell 2
        have g0 : z.frozen? ⟨b4, 0, none⟩ = false := HZ.out.tl.free 0
        have g1 : z.frozen? ⟨b4, 1, none⟩ = false := HZ.out.tl.free 1
        have g2 : z.frozen? ⟨b4, 2, none⟩ = false := HZ.out.tl.free 2
        have hyp : Hid (Sb w (((z.setCell ⟨b4, 0, none⟩ (.int .i64 (kdF kl r))).setCell ⟨b4, 1, none⟩ (.int .i64 (lnF r n : Nat))).setCell ⟨b4, 2, none⟩ (.int .i64 (((t.size : Int) + 1)))) [(b4, .cells #[.int .i64 (kdF kl r), .int .i64 (lnF r n : Nat), .int .i64 (((t.size : Int) + 1))] 38)]) := Lib.hid (by
          have h0 := HZ.out.tl
          exact ((h0.set (i := 0) (.int .i64 (kdF kl r)) (by simp)).set (i := 1) (.int .i64 (lnF r n : Nat)) (by simp)).set (i := 2) (.int .i64 (((t.size : Int) + 1))) (by simp))
        go_wp2_with fail
        refine bodyPost_ret (results_cell_row rfl _ _ b4 38 _ (0, 0) _ rfl hyp.out.heap Try.underlying38 rfl (by kernel_rfl)) rfl ⟨?_, hb4 ▸ hyp.out.1⟩
        rw [← HRES.out, pcF_kd]; rfl
    | false =>
      have HRES : Hid ((r, n, k) = R) := Lib.hid ((mli_off HM.out hnel.out hk0 HON.out).trans HR.out)
      clear HSK HM
      obtain ⟨z, hz9⟩ : ∃ z, z = wo := ⟨_, rfl⟩
      rw [← hz9] at HS e2 f2 x260 xo E2 ⊢
      have HZ := HS
      clear HS hz9
      have y0 : z.cell? ⟨b4 + 1, 0, none⟩ = some (.int .i64 (kdF kl r)) := HZ.out.cell 0
      have y1 : z.cell? ⟨b4 + 1, 1, none⟩ = some (.int .i64 (lnF r n : Nat)) := HZ.out.cell 1
      have y2 : z.cell? ⟨b4 + 1, 2, none⟩ = some (.int .i64 ((k : Nat))) := HZ.out.cell 2
      have o0 : z.cell? ⟨b4, 0, none⟩ = some (.int .i64 0) := HZ.out.tl.cell 0
      have o1 : z.cell? ⟨b4, 1, none⟩ = some (.int .i64 0) := HZ.out.tl.cell 1
      have o2 : z.cell? ⟨b4, 2, none⟩ = some (.int .i64 0) := HZ.out.tl.cell 2
      have g0 : z.frozen? ⟨b4, 0, none⟩ = false := HZ.out.tl.free 0
      have g1 : z.frozen? ⟨b4, 1, none⟩ = false := HZ.out.tl.free 1
      have g2 : z.frozen? ⟨b4, 2, none⟩ = false := HZ.out.tl.free 2
      have hyp : Hid (Sb w (((z.setCell ⟨b4, 0, none⟩ (.int .i64 (kdF kl r))).setCell ⟨b4, 1, none⟩ (.int .i64 (lnF r n : Nat))).setCell ⟨b4, 2, none⟩ (.int .i64 ((k : Nat)))) [(b4, .cells #[.int .i64 (kdF kl r), .int .i64 (lnF r n : Nat), .int .i64 ((k : Nat))] 38)]) := Lib.hid (by
        have h0 := HZ.out.tl
        exact ((h0.set (i := 0) (.int .i64 (kdF kl r)) (by simp)).set (i := 1) (.int .i64 (lnF r n : Nat)) (by simp)).set (i := 2) (.int .i64 ((k : Nat))) (by simp))
      go_wp2_with fail
      refine bodyPost_ret (results_cell_row rfl _ _ b4 38 _ (0, 0) _ rfl hyp.out.heap Try.underlying38 rfl (by kernel_rfl)) rfl ⟨?_, hb4 ▸ hyp.out.1⟩
      rw [← HRES.out, pcF_kd]; rfl
end Go.Proofs.Ytemkppjdfjoipaa.I1.X
