/- Package grams. -/
import Derived.Test.YtpmkdpjcpimhkaaProg
import Derived.Test.YtpmkdpjcpimhkaaIe
import Derived.Test.YtpmkdpjcpimhkaaId
import Derived.Deep.SlicePairs
import Derived.Deep.Slices
import Derived.Laws.IdiomArrays
import Derived.OpenShut
import Derived.WideBlind
import Derived.Great.BuildSlice
import Derived.WalkKit
import Derived.Maps.OwnSet
import Derived.Maps.OwnOps
import Derived.Maps.Own
import Derived.DeepKeys5
import Derived.BigFrame
import Derived.WalkMore
import Derived.ScopeJumps
import Derived.StillTailTactics
import Derived.Stop.BytesEq
import Derived.WalkLawsBesides
import Derived.WalkSpells
import Derived.Outline
import Derived.Lib.Walk
import Derived.Lib.Hide
import Derived.Lib.Slices
import Derived.Lib.Strings
import Derived.RegionTactic
import Derived.LoopTactic
import Derived.Below
import Derived.IntWalk
import Derived.Deep.QuietTactic
import Derived.BigQuiet
import Derived.Deep.MidRow
import Derived.Maps.AppendAt
import Derived.Laws.Rows
import Derived.Laws.Tables
import Derived.Deep.WholeRow
import Derived.Deep.Cut
import Derived.Deep.CutRange
import Derived.Lib.SliceRun
import Derived.Laws.MakeOwn
import Derived.Deep.RegionLaw
import Derived.Deep.RegionLawGrows
import Derived.Deep.RegionHeld3
import Derived.RegionCalls
import Derived.Deep.RegionWith
import Derived.Deep.Light
import Derived.Laws.CopyOwn
import Derived.Laws.ResultCell
namespace Go.Proofs.Ytpmkdpjcpimhkaa
set_option linter.unusedSimpArgs false
set_option linter.unusedVariables false
set_option maxRecDepth 100000
open Go.RowKit
/- Check. -/
open Go.Maps
theorem come_lt {g : Gr} (hn : NumOk g) {x : Int} (h : Come g x) : x < g.s := by
  cases h with
  | st => exact hn.st2
  | go hp _ hx => exact (hn.bd _ hp _ hx).2
theorem chk_if (g : Gr) : chk g = if nmB g = false ∨ twB g.ps = true then 2 else if (g.ps.any fun q => decide (8 < q.bd.length)) = true then 3 else if (g.ps.any fun q => decide (q.bd.length = 0)) = true then 130
    else if ¬ (wd (fun k => (k : Int) < g.t ∨ Come g k) &&& wd (fun k => Good g k) = 2 ^ g.s.toNat - 1) then 131 else if rdB g = true then 132 else 0 := by
  unfold chk
  by_cases h1 : NumOk g
  · rw [nmB_t h1]
    by_cases h2 : Twins g.ps
    · rw [if_pos (.inr h2), if_pos (.inr (twB_t h2))]
    · rw [if_neg (by rw [not_or, Classical.not_not]; exact ⟨h1, h2⟩)]
      have e3 : (∃ p ∈ g.ps, 8 < p.bd.length) ↔ (g.ps.any fun q => decide (8 < q.bd.length)) = true := by simp
      have e4 : (∃ p ∈ g.ps, p.bd = []) ↔ (g.ps.any fun q => decide (q.bd.length = 0)) = true := by simp
      have hs := h1.s2
      have ht := h1.t1
      have hts := h1.s1
      have e5 : (∀ x, g.t ≤ x → x < g.s → Come g x ∧ Good g x) ↔ (wd (fun k => (k : Int) < g.t ∨ Come g k) &&& wd (fun k => Good g k) = 2 ^ g.s.toNat - 1) := by
        rw [wd_and, wd_below (by omega)]
        constructor
        · intro h
          refine wd_congr fun k hk => ⟨fun hh => ?_, fun hh => ?_⟩
          · rcases hh.1 with h3 | h3
            · omega
            · have := come_lt h1 h3
              omega
          · by_cases h3 : (k : Int) < g.t
            · exact ⟨.inl h3, .tm (by omega) h3⟩
            · have h4 := h k (by omega) (by omega)
              exact ⟨.inr h4.1, h4.2⟩
        · intro h x hx1 hx2
          have h3 := (wd_inj h x.toNat (by omega)).2 (by omega)
          rw [Int.toNat_of_nonneg (by omega)] at h3
          exact ⟨h3.1.elim (fun h => by omega) id, h3.2⟩
      have e6 : (∃ x, g.t ≤ x ∧ x < g.s ∧ Rnd g x x) ↔ rdB g = true := ⟨rdB_t, fun h => Classical.byContradiction fun h2 => by rw [rdB_f h2] at h; cases h⟩
      by_cases q3 : ∃ p ∈ g.ps, 8 < p.bd.length
      · rw [if_pos q3, if_neg (by rw [twB_f h2]; simp), if_pos (e3.1 q3)]
      · rw [if_neg q3, if_neg (by rw [twB_f h2]; simp : ¬ (true = false ∨ twB g.ps = true)), if_neg (fun h => q3 (e3.2 h))]
        by_cases q4 : ∃ p ∈ g.ps, p.bd = []
        · rw [if_pos q4, if_pos (e4.1 q4)]
        · rw [if_neg q4, if_neg (fun h => q4 (e4.2 h))]
          by_cases q5 : ∀ x, g.t ≤ x → x < g.s → Come g x ∧ Good g x
          · rw [if_neg (show ¬ ¬ ∀ x, g.t ≤ x → x < g.s → Come g x ∧ Good g x from fun h => h q5), if_neg (show ¬ ¬ (wd (fun k => (k : Int) < g.t ∨ Come g k) &&& wd (fun k => Good g k) = 2 ^ g.s.toNat - 1) from fun h => h (e5.1 q5))]
            by_cases q6 : ∃ x, g.t ≤ x ∧ x < g.s ∧ Rnd g x x
            · rw [if_pos q6, if_pos (e6.1 q6)]
            · rw [if_neg q6, if_neg (fun h => q6 (e6.2 h))]
          · rw [if_pos q5, if_pos (fun h => q5 (e5.2 h))]
  · rw [if_pos (.inl h1), if_pos (.inl (nmB_f h1))]
set_option maxHeartbeats 16000000 in
theorem check_any {D : Nat → Prop} {w : World} {g : Gr} {p : Option Addr} {c : Nat} (hg : GM D w g.ps p) (hc : g.ps.length ≤ c) :
    Calls Try.prog 13 #[.agg #[.int .i64 g.t, .int .i64 g.s, .int .i64 g.st, .slice p g.ps.length c]] w fun e w' => e = .returned (.int .i64 (chk g)) ∧ Below w.heap.size w w' := by
  have HG := Lib.hid hg
  have HCC := Lib.hid hc
  have hchk := chk_if g
  have hw0 := (Below.refl w.heap.size w).alloc (Nat.le_refl _) (.cells (gC g p c) 24)
  obtain ⟨k0, k1, k2, k3⟩ := gC_at (GB.new (w := w) (g := g) (p := p) (c := c))
  have HU := Lib.hid (hg.up hw0)
  have hnot : ∀ (x : Bool) (w : World), (Op.unary .not (.bool x)).run Try.prog w = .ok (.bool (!x)) w := fun _ _ => rfl
  have HW := Lib.hid hw0
  have hlt : w.heap.size < (w.alloc (.cells (gC g p c) 24)).heap.size := by simp
  obtain ⟨b, hb⟩ : ∃ b, w.heap.size = b := ⟨_, rfl⟩
  rw [hb] at k0 k1 k2 k3 hlt
  obtain ⟨Y, hY⟩ : ∃ Y, w.alloc (.cells (gC g p c) 24) = Y := ⟨_, rfl⟩
  rw [hY] at k0 k1 k2 k3 HU HW hlt
  unfold gC at hY
  have K0 := Lib.hid k0
  have K1 := Lib.hid k1
  have K2 := Lib.hid k2
  have K3 := Lib.hid k3
  have HLT := Lib.hid hlt
  have hnl := hg.nl
  obtain ⟨R, hR⟩ : ∃ R, chk g = R := ⟨_, rfl⟩
  rw [hR] at hchk ⊢
  have HR := Lib.hid hchk
  have HN := Lib.hid (numbers_any (c := c) HU.out)
  have HT := Lib.hid (fun (z : World) (hz : Below Y.heap.size Y z) => twins_any (c := c) (HU.out.up hz) hc)
  have HL := Lib.hid (fun (z : World) (hz : Below Y.heap.size Y z) => contains30_31 (c := c) (f := fun q => decide (8 < q.bd.length)) (HU.out.up hz) (fun v q a d _ _ _ => clo31 q a d v))
  have HE := Lib.hid (fun (z : World) (hz : Below Y.heap.size Y z) => contains30_32 (c := c) (f := fun q => decide (q.bd.length = 0)) (HU.out.up hz) (fun v q a d _ _ _ => clo32 q a d v))
  clear hR hchk hg hc hw0 k0 k1 k2 k3 hlt
  go_enter Try.func13, Try.ntmps13
  go_upto_region 1 with fail
  refine at_world (fun v => v = Y) (by first | exact hY | rfl) fun y hy => ?_
  subst hy
  clear hY hb
  have k0 := K0.out
  have k1 := K1.out
  have k2 := K2.out
  have k3 := K3.out
  cases hn : nmB g with
  | false =>
    rw [hn] at HN
    have hR : R = 2 := by rw [HR.out, if_pos (.inl hn)]
    subst hR
    clear hn
    go_wp2_with fail
    refine HN.out.mono ?_
    rintro _ w1 ⟨rfl, hb1⟩
    have HB := Lib.hid (HW.out.trans (hb1.mono HW.out.size))
    clear hb1 k0 k1 k2 k3
    go_wp2_with fail
    go_ret
    exact ⟨rfl, HB.out⟩
  | true =>
    have hNum : NumOk g := Classical.byContradiction fun h => by rw [nmB_f h] at hn; cases hn
    have HNum := Lib.hid hNum
    rw [hn] at HN HR
    clear hn hNum
    go_wp2_with fail
    refine HN.out.mono ?_
    rintro _ w1 ⟨rfl, hb1⟩
    have HB1 := Lib.hid hb1
    have j3 := cell_up K3.out hb1 HLT.out
    clear hb1 k0 k1 k2 k3 HN
    cases ht : twB g.ps with
    | true =>
      have hR : R = 2 := by rw [HR.out, if_pos (.inr ht)]
      subst hR
      have HTT := Lib.hid (HT.out w1 HB1.out)
      rw [ht] at HTT
      clear ht
      go_wp2_with fail
      refine HTT.out.mono ?_
      rintro _ w2 ⟨rfl, hb2⟩
      have HB := Lib.hid (HW.out.trans ((HB1.out.trans (hb2.mono HB1.out.size)).mono HW.out.size))
      clear hb2 j3
      go_wp2_with fail
      go_ret
      exact ⟨rfl, HB.out⟩
    | false =>
      have HTT := Lib.hid (HT.out w1 HB1.out)
      rw [ht] at HTT HR
      have hR : R = _ := HR.out.trans (if_neg (by simp))
      replace HR := Lib.hid hR
      clear ht hR
      go_wp2_with fail
      refine HTT.out.mono ?_
      rintro _ w2 ⟨rfl, hb2⟩
      have HB2 := Lib.hid (HB1.out.trans (hb2.mono HB1.out.size))
      clear hb2 j3 HTT
      have j3 := cell_up K3.out HB2.out HLT.out
      have HTT := Lib.hid (HL.out w2 HB2.out)
      cases ht : (g.ps.any fun q => decide (8 < q.bd.length)) with
      | true =>
        have hR : R = 3 := HR.out.trans (if_pos ht)
        subst hR
        rw [ht] at HTT
        clear ht
        go_wp2_with fail
        refine HTT.out.mono ?_
        rintro _ w3 ⟨rfl, hb3⟩
        have HB := Lib.hid (HW.out.trans ((HB2.out.trans (hb3.mono HB2.out.size)).mono HW.out.size))
        clear hb3 j3
        go_wp2_with fail
        go_ret
        exact ⟨rfl, HB.out⟩
      | false =>
        rw [ht] at HTT
        have hR : R = _ := HR.out.trans (if_neg (by rw [ht]; simp))
        replace HR := Lib.hid hR
        clear ht hR
        go_wp2_with fail
        refine HTT.out.mono ?_
        rintro _ w3 ⟨rfl, hb3⟩
        have HB3 := Lib.hid (HB2.out.trans (hb3.mono HB2.out.size))
        clear hb3 j3 HTT
        have j3 := cell_up K3.out HB3.out HLT.out
        have HTT := Lib.hid (HE.out w3 HB3.out)
        cases ht : (g.ps.any fun q => decide (q.bd.length = 0)) with
        | true =>
          have hR : R = 130 := HR.out.trans (if_pos ht)
          subst hR
          rw [ht] at HTT
          clear ht
          go_wp2_with fail
          refine HTT.out.mono ?_
          rintro _ w4 ⟨rfl, hb4⟩
          have HB := Lib.hid (HW.out.trans ((HB3.out.trans (hb4.mono HB3.out.size)).mono HW.out.size))
          clear hb4 j3
          go_wp2_with fail
          go_ret
          exact ⟨rfl, HB.out⟩
        | false =>
          rw [ht] at HTT
          have hR : R = _ := HR.out.trans (if_neg (by rw [ht]; simp))
          replace HR := Lib.hid hR
          clear ht hR
          go_wp2_with fail
          refine HTT.out.mono ?_
          rintro _ w4 ⟨rfl, hb4⟩
          have HB4 := Lib.hid (HB3.out.trans (hb4.mono HB3.out.size))
          clear hb4 j3 HTT
          have hts : 0 ≤ g.s ∧ g.s ≤ 64 := by have := HNum.out.s1; have := HNum.out.s2; have := HNum.out.t1; omega
          have H1 := Lib.hid (fun (z : World) (hz : Below y.heap.size y z) => come_any (c := c) (HU.out.up hz) HNum.out)
          have H2 := Lib.hid (fun (z : World) (hz : Below y.heap.size y z) => good_any (c := c) (HU.out.up hz) HNum.out)
          have H3 := Lib.hid (fun (z : World) => below_any hts.1 hts.2 z)
          have H4 := Lib.hid (fun (z : World) (hz : Below y.heap.size y z) => round_any (c := c) (HU.out.up hz) HNum.out)
          have hand := b_and (wd_lt (fun k => (k : Int) < g.t ∨ Come g k)) (wd_lt (fun k => Good g k))
          clear HT HL HE
          generalize wd (fun k => (k : Int) < g.t ∨ Come g k) = A1 at HR H1 hand
          generalize wd (fun k => Good g k) = A2 at HR H2 hand
          generalize 2 ^ g.s.toNat - 1 = A3 at HR H3
          obtain ⟨A4, hA4⟩ : ∃ A, A1 &&& A2 = A := ⟨_, rfl⟩
          rw [hA4] at HR hand
          generalize rdB g = rd at HR H4
          generalize g.ps.length = n at *
          generalize g.t = t at *
          generalize g.s = s at *
          generalize g.st = st at *
          clear hA4 hts HU HNum HG HCC
          go_upto_region 7 with fail
          have HS0 : Hid ((fun v => Below y.heap.size y v) w4.drew) := Lib.hid (below_drewN HB4.out 1)
          refine wp_region_held_drew (S := fun v => Below y.heap.size y v) (by kernel_rfl) HS0.out (fun hHeld => ?_)
          refine wpAnyH_take (i := 0) (v := (.agg #[.int .i64 t, .int .i64 s, .int .i64 st, .slice p n c])) rfl (by kernel_rfl) (by kernel_rfl) (by kernel_rfl) (fun _ _ _ h => h) (Or.inl ⟨by rfl, by (intro w9 hSw; (try dsimp only at hSw); have c0_ := cell_up K0.out hSw HLT.out; have c1_ := cell_up K1.out hSw HLT.out; have c2_ := cell_up K2.out hSw HLT.out; have c3_ := cell_up K3.out hSw HLT.out; go_simp)⟩) hHeld ?_
          (try simp only [Act.put, List.getElem_toArray, List.getElem_cons_zero, List.getElem_cons_succ, List.setIfInBounds_toArray, List.set_cons_zero, List.set_cons_succ])
          refine wpAnyH_take (i := 2) (v := (.agg #[.int .i64 t, .int .i64 s, .int .i64 st, .slice p n c])) rfl (by kernel_rfl) (by kernel_rfl) (by kernel_rfl) (fun _ _ _ h => h) (Or.inl ⟨by rfl, by (intro w9 hSw; (try dsimp only at hSw); have c0_ := cell_up K0.out hSw HLT.out; have c1_ := cell_up K1.out hSw HLT.out; have c2_ := cell_up K2.out hSw HLT.out; have c3_ := cell_up K3.out hSw HLT.out; go_simp)⟩) hHeld ?_
          (try simp only [Act.put, List.getElem_toArray, List.getElem_cons_zero, List.getElem_cons_succ, List.setIfInBounds_toArray, List.set_cons_zero, List.set_cons_succ])
          refine wpAnyH_take (i := 5) (v := (.pointer (some ⟨b, 1, none⟩))) rfl (by kernel_rfl) (by kernel_rfl) (by kernel_rfl) (fun _ _ _ h => h) (Or.inl ⟨by rfl, by (intro w hSw; (try dsimp only at hSw); go_simp)⟩) hHeld ?_
          (try simp only [Act.put, List.getElem_toArray, List.getElem_cons_zero, List.getElem_cons_succ, List.setIfInBounds_toArray, List.set_cons_zero, List.set_cons_succ])
          refine wpAnyH_take (i := 6) (v := (.int .i64 s)) rfl (by kernel_rfl) (by kernel_rfl) (by kernel_rfl) (fun _ _ _ h => h) (Or.inl ⟨by rfl, by (intro w9 hSw; (try dsimp only at hSw); have c1_ := cell_up K1.out hSw HLT.out; go_simp)⟩) hHeld ?_
          (try simp only [Act.put, List.getElem_toArray, List.getElem_cons_zero, List.getElem_cons_succ, List.setIfInBounds_toArray, List.set_cons_zero, List.set_cons_succ])
          refine wpAnyH_ready (rs := [1]) (by kernel_rfl) (by simp) ?_
          refine AllReadyH.cons rfl (fun K hK => ?_) (AllReadyH.nil)
          rw [if_pos (by rfl)]
          go_wp2_with fail
          refine (H1.out _ hHeld).mono ?_
          rintro _ v2 ⟨rfl, hbv⟩
          refine hK.out _ _ (Below.trans hHeld (Below.mono hbv (Below.size hHeld))) (fun hHeld2 => ?_)
          clear hHeld hK
          have hHeld := hHeld2
          clear hHeld2
          (try simp only [Act.put, List.getElem_toArray, List.getElem_cons_zero, List.getElem_cons_succ, List.setIfInBounds_toArray, List.set_cons_zero, List.set_cons_succ])
          refine wpAnyH_ready (rs := [3]) (by kernel_rfl) (by simp) ?_
          refine AllReadyH.cons rfl (fun K hK => ?_) (AllReadyH.nil)
          rw [if_pos (by rfl)]
          go_wp2_with fail
          refine (H2.out _ hHeld).mono ?_
          rintro _ v2 ⟨rfl, hbv⟩
          refine hK.out _ _ (Below.trans hHeld (Below.mono hbv (Below.size hHeld))) (fun hHeld2 => ?_)
          clear hHeld hK
          have hHeld := hHeld2
          clear hHeld2
          (try simp only [Act.put, List.getElem_toArray, List.getElem_cons_zero, List.getElem_cons_succ, List.setIfInBounds_toArray, List.set_cons_zero, List.set_cons_succ])
          refine wpAnyH_take (i := 4) (v := (.int .u64 (A4 : Nat))) rfl (by kernel_rfl) (by kernel_rfl) (by kernel_rfl) (fun _ _ _ h => h) (Or.inl ⟨by rfl, by (intro w hSw; (try dsimp only at hSw); go_simp)⟩) hHeld ?_
          (try simp only [Act.put, List.getElem_toArray, List.getElem_cons_zero, List.getElem_cons_succ, List.setIfInBounds_toArray, List.set_cons_zero, List.set_cons_succ])
          refine wpAnyH_ready (rs := [7]) (by kernel_rfl) (by simp) ?_
          refine AllReadyH.cons rfl (fun K hK => ?_) (AllReadyH.nil)
          rw [if_pos (by rfl)]
          go_wp2_with fail
          refine (H3.out _).mono ?_
          rintro _ v2 ⟨rfl, rfl⟩
          refine hK.out _ _ (hHeld) (fun hHeld2 => ?_)
          clear hHeld hK
          have hHeld := hHeld2
          clear hHeld2
          (try simp only [Act.put, List.getElem_toArray, List.getElem_cons_zero, List.getElem_cons_succ, List.setIfInBounds_toArray, List.set_cons_zero, List.set_cons_succ])
          by_cases hq : A4 = A3
          · have hR : R = _ := HR.out.trans (if_neg (by rw [Classical.not_not]; exact hq))
            replace HR := Lib.hid hR
            have hqI : (((A4 : Nat) : Int) != ((A3 : Nat) : Int)) = false := by rw [hq]; simp
            clear hR hq
            refine wpAnyH_take (i := 8) (v := (.bool false)) rfl (by kernel_rfl) (by kernel_rfl) (by kernel_rfl) (fun _ _ _ h => h) (Or.inl ⟨by rfl, by (intro w hSw; (try dsimp only at hSw); go_simp)⟩) hHeld ?_
            (try simp only [Act.put, List.getElem_toArray, List.getElem_cons_zero, List.getElem_cons_succ, List.setIfInBounds_toArray, List.set_cons_zero, List.set_cons_succ])
            refine wpAnyH_take (i := 9) (v := (.bool false)) rfl (by kernel_rfl) (by kernel_rfl) (by kernel_rfl) (fun _ _ _ h => h) (Or.inl ⟨by rfl, by (intro w hSw; (try dsimp only at hSw); go_simp)⟩) hHeld ?_
            (try simp only [Act.put, List.getElem_toArray, List.getElem_cons_zero, List.getElem_cons_succ, List.setIfInBounds_toArray, List.set_cons_zero, List.set_cons_succ])
            refine wpAnyH_done (by kernel_rfl) ?_ _
            have HB5 := Lib.hid (show Below y.heap.size y _ from hHeld)
            have k0 := cell_up K0.out HB5.out HLT.out
            have k1 := cell_up K1.out HB5.out HLT.out
            have k2 := cell_up K2.out HB5.out HLT.out
            have k3 := cell_up K3.out HB5.out HLT.out
            have H5 := Lib.hid (H4.out _ HB5.out)
            clear hHeld H1 H2 H3 H4
            go_wp2_with fail
            refine H5.out.mono ?_
            rintro _ w6 ⟨rfl, hb6⟩
            have HB := Lib.hid (HW.out.trans ((HB5.out.trans (hb6.mono HB5.out.size)).mono HW.out.size))
            clear hb6 k0 k1 k2 k3 H5
            cases rd with
            | true =>
              have hR : R = 132 := HR.out.trans (if_pos (by trivial))
              subst hR
              go_wp2_with fail
              go_ret
              exact ⟨rfl, HB.out⟩
            | false =>
              have hR : R = 0 := HR.out.trans (if_neg (by simp))
              subst hR
              go_wp2_with fail
              go_ret
              exact ⟨rfl, HB.out⟩
          · have hR : R = 131 := HR.out.trans (if_pos hq)
            subst hR
            have hqI : (((A4 : Nat) : Int) != ((A3 : Nat) : Int)) = true := by rw [bne_iff_ne]; omega
            clear hq
            refine wpAnyH_take (i := 8) (v := (.bool true)) rfl (by kernel_rfl) (by kernel_rfl) (by kernel_rfl) (fun _ _ _ h => h) (Or.inl ⟨by rfl, by (intro w hSw; (try dsimp only at hSw); go_simp)⟩) hHeld ?_
            (try simp only [Act.put, List.getElem_toArray, List.getElem_cons_zero, List.getElem_cons_succ, List.setIfInBounds_toArray, List.set_cons_zero, List.set_cons_succ])
            refine wpAnyH_take (i := 9) (v := (.bool true)) rfl (by kernel_rfl) (by kernel_rfl) (by kernel_rfl) (fun _ _ _ h => h) (Or.inl ⟨by rfl, by (intro w hSw; (try dsimp only at hSw); go_simp)⟩) hHeld ?_
            (try simp only [Act.put, List.getElem_toArray, List.getElem_cons_zero, List.getElem_cons_succ, List.setIfInBounds_toArray, List.set_cons_zero, List.set_cons_succ])
            refine wpAnyH_done (by kernel_rfl) ?_ _
            have HB5 := Lib.hid (show Below y.heap.size y _ from hHeld)
            clear hHeld H1 H2 H3 H4
            go_wp2_with fail
            go_ret
            exact ⟨rfl, HW.out.trans (HB5.out.mono HW.out.size)⟩
end Go.Proofs.Ytpmkdpjcpimhkaa
