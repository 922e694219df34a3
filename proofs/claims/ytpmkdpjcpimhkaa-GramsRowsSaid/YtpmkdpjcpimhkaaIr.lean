/- Package grams. -/
import Derived.Test.YtpmkdpjcpimhkaaProg
import Derived.Test.YtpmkdpjcpimhkaaIn
import Derived.Deep.SlicePairs
import Derived.Deep.Slices
import Derived.Laws.IdiomArrays
import Derived.OpenShut
import Derived.WideBlind
import Derived.Great.BuildSlice
import Derived.WalkKit
import Derived.Maps.OwnSet
import Derived.Maps.OwnOps
import Derived.Maps.Own
import Derived.DeepKeys5
import Derived.BigFrame
import Derived.WalkMore
import Derived.ScopeJumps
import Derived.StillTailTactics
import Derived.Stop.BytesEq
import Derived.WalkLawsBesides
import Derived.WalkSpells
import Derived.Outline
import Derived.Lib.Walk
import Derived.Lib.Hide
import Derived.Lib.Slices
import Derived.Lib.Strings
import Derived.RegionTactic
import Derived.LoopTactic
import Derived.Below
import Derived.IntWalk
import Derived.Deep.QuietTactic
import Derived.BigQuiet
import Derived.Deep.MidRow
import Derived.Maps.AppendAt
import Derived.Laws.Rows
import Derived.Laws.Tables
import Derived.Deep.WholeRow
import Derived.Deep.Cut
import Derived.Deep.CutRange
import Derived.Lib.SliceRun
import Derived.Laws.MakeOwn
import Derived.Deep.RegionLaw
import Derived.Deep.RegionLawGrows
import Derived.Deep.RegionHeld3
import Derived.RegionCalls
import Derived.Deep.RegionWith
import Derived.Deep.Light
import Derived.Laws.CopyOwn
import Derived.Laws.ResultCell
namespace Go.Proofs.Ytpmkdpjcpimhkaa
set_option linter.unusedSimpArgs false
set_option linter.unusedVariables false
set_option maxRecDepth 100000
open Go.RowKit
/- GramsBegins. -/
open Go.Maps
structure Cbg (g : Gr) (prods : List Int) (i : Nat) (all : List Int) : Prop where
  past : ∀ j, j < i → ∀ n : Nat, prods[j]? = some (n : Int) → ∀ p, g.ps[n]? = some p → ∀ x ∈ firL g (p.bd.headD 0), x ∈ all
  ln : all.length ≤ 64 * i
theorem Cbg.app {g : Gr} {prods : List Int} {i n : Nat} {all : List Int} {p : Pr} (h : Cbg g prods i all) (hn : prods[i]? = some (n : Int)) (hp : g.ps[n]? = some p) : Cbg g prods (i + 1) (all ++ firL g (p.bd.headD 0)) :=
  ⟨fun j hj n' hn' p' hp' x hx => by
    rcases Nat.lt_or_ge j i with h1 | h1
    · exact List.mem_append_left _ (h.past j h1 n' hn' p' hp' x hx)
    · obtain rfl : j = i := by omega
      rw [hn, Option.some.injEq] at hn'
      obtain rfl : n = n' := by omega
      rw [hp, Option.some.injEq] at hp'
      subst hp'
      exact List.mem_append_right _ hx, by have := h.ln; have := fir_len g (p.bd.headD 0); rw [List.length_append]; omega⟩
theorem beg_inv {g : Gr} {s x : Int} (hs : g.t ≤ s) (h : Beg g s x) : ∃ p ∈ g.ps, p.hd = s ∧ p.bd ≠ [] ∧ Beg g (p.bd.headD 0) x := by
  cases h with
  | tm h0 h1 => omega
  | @go p y _ l hp e hb => exact ⟨p, hp, rfl, by rw [e]; simp, by rw [e]; exact hb⟩
theorem good_inv {g : Gr} {s : Int} (hs : g.t ≤ s) (h : Good g s) : ∃ p ∈ g.ps, p.hd = s := by
  cases h with
  | tm h0 h1 => omega
  | go hp _ => exact ⟨_, hp, rfl⟩
theorem bg_end {g : Gr} (hg : GrOk g) {s x : Int} {all : List Int} (hs : g.t ≤ s) (hs2 : s < g.s) (h : Cbg g (idK s g.ps g.ps.length) (idK s g.ps g.ps.length).length all) (hx : x ∈ firL g s) : x ∈ all := by
  have ht := hg.nm.t1
  obtain ⟨p, hp, rfl, hne, hb⟩ := beg_inv hs ((mem_fir' hg (by omega) hs2).1 hx)
  obtain ⟨n, hn, rfl⟩ := List.getElem_of_mem hp
  have hmem : ((n : Nat) : Int) ∈ idK g.ps[n].hd g.ps g.ps.length := mem_id.2 ⟨n, rfl, hn, by rw [List.getElem?_eq_getElem hn]; rfl⟩
  obtain ⟨j, hj, he⟩ := List.getElem_of_mem hmem
  have hbr := hg.nm.bd _ hp _ (hd_mem hne)
  exact h.past j hj n (by rw [List.getElem?_eq_getElem hj, he]) _ (List.getElem?_eq_getElem hn) x ((mem_fir' hg hbr.1 hbr.2).2 hb)
theorem id_ne {g : Gr} (hg : GrOk g) {s : Int} (hs : g.t ≤ s) (hs2 : s < g.s) : 0 < (idK s g.ps g.ps.length).length := by
  obtain ⟨p, hp, rfl⟩ := good_inv hs (hg.gd s hs hs2)
  obtain ⟨n, hn, rfl⟩ := List.getElem_of_mem hp
  have hmem : ((n : Nat) : Int) ∈ idK g.ps[n].hd g.ps g.ps.length := mem_id.2 ⟨n, rfl, hn, by rw [List.getElem?_eq_getElem hn]; rfl⟩
  exact List.length_pos_of_mem hmem
theorem bg_in {g : Gr} (hg : GrOk g) {p : Pr} (hp : p ∈ g.ps) : ((firL g (p.bd.headD 0)).all fun x => decide (x ∈ firL g p.hd)) = true := by
  have hne := hg.ne p hp
  have hbr := hg.nm.bd _ hp _ (hd_mem hne)
  have hh := hg.nm.hd p hp
  have ht := hg.nm.t1
  refine List.all_eq_true.2 fun x hx => decide_eq_true ((mem_fir' hg (by omega) hh.2).2 ?_)
  have hb := (mem_fir' hg hbr.1 hbr.2).1 hx
  cases hl : p.bd with
  | nil => exact absurd hl hne
  | cons a l => rw [hl] at hb; exact .go hp hl hb
set_option maxHeartbeats 16000000 in
theorem begs_any {D : Nat → Prop} {w : World} {g : Gr} {p : Option Addr} {c : Nat} (hg : GM D w g.ps p) (hc : g.ps.length ≤ c) :
    Calls Try.prog 7 #[.agg #[.int .i64 g.t, .int .i64 g.s, .int .i64 g.st, .slice p g.ps.length c]] w fun e w' => e = .returned (.bool true) ∧ Below w.heap.size w w' := by
  have HG := Lib.hid hg
  obtain ⟨b1, hb1⟩ : ∃ b, w.heap.size = b := ⟨_, rfl⟩
  have HBE := Lib.hid hb1
  have S0 := Lib.hid ((Sep.start w).allocAt hb1 (.cells (gC g p c) 24))
  have HBG := Lib.hid (fun (z : World) (hz : Below w.heap.size w z) => big_any (c := c) (hg.up hz))
  have HCK := Lib.hid (fun (z : World) (hz : Below w.heap.size w z) => check_any (c := c) (hg.up hz) hc)
  have HOF := Lib.hid (fun (z : World) (s : Int) (hz : Below w.heap.size w z) => of18_any (c := c) s (hg.up hz) hc)
  have HFI := Lib.hid (fun (z : World) (s : Int) (hz : Below w.heap.size w z) => first_any (c := c) s (hg.up hz) hc)
  have HAL := Lib.hid alive_any
  have HOK : Hid (chk g = 0 → GrOk g) := Lib.hid (fun h => (chk_ok g).1 h)
  have hnot : ∀ (x : Bool) (w : World), (Op.unary .not (.bool x)).run Try.prog w = .ok (.bool (!x)) w := fun _ _ => rfl
  unfold gC at S0
  clear hg hc
  go_enter Try.func7, Try.ntmps7
  go_upto_region 1 with fail
  refine at_world (fun v => Sep b1 w v [.box b1 (.cells #[.int .i64 g.t, .int .i64 g.s, .int .i64 g.st, .slice p g.ps.length c] 24 (0, 0))]) (HBE.out ▸ S0.out) fun y1 hy1 => ?_
  have S1 := Lib.hid hy1
  clear hy1 S0 hb1
  have k0 := (S1.out.boxAt 0).trans rfl
  have k1 := (S1.out.boxAt 1).trans rfl
  have k2 := (S1.out.boxAt 2).trans rfl
  have k3 := (S1.out.boxAt 3).trans rfl
  have H1 := Lib.hid (HBG.out y1 (HBE.out ▸ S1.out.bel))
  generalize decide (100000 < tot g.ps) = tb at H1
  go_wp2_with fail
  refine H1.out.mono ?_
  rintro _ y2 ⟨rfl, hb2⟩
  have S2 := Lib.hid (S1.out.up hb2)
  clear hb2 k0 k1 k2 k3 S1 H1 HBG
  cases tb with
  | true =>
    go_wp2_with fail
    refine (HAL.out _).mono ?_
    rintro _ y4 ⟨rfl, hb4⟩
    have HB := Lib.hid (S2.out.up hb4).bel
    clear hb4
    go_wp2_with fail
    go_ret
    exact ⟨rfl, by rw [HBE.out]; exact HB.out⟩
  | false =>
    have k0 := (S2.out.boxAt 0).trans rfl
    have k1 := (S2.out.boxAt 1).trans rfl
    have k2 := (S2.out.boxAt 2).trans rfl
    have k3 := (S2.out.boxAt 3).trans rfl
    have H1 := Lib.hid (HCK.out y2 (HBE.out ▸ S2.out.bel))
    obtain ⟨E, hE⟩ : ∃ E, chk g = E := ⟨_, rfl⟩
    rw [hE] at H1 HOK
    clear hE
    go_wp2_with fail
    refine H1.out.mono ?_
    rintro _ y3 ⟨rfl, hb3⟩
    have S3 := Lib.hid (S2.out.up hb3)
    clear hb3 k0 k1 k2 k3 S2 H1 HCK
    by_cases hE : E = 0
    · subst hE
      have HOKG := Lib.hid (HOK.out rfl)
      have hps : g.ps.length ≤ 64 := HOKG.out.nm.n2
      have k0 := (S3.out.boxAt 0).trans rfl
      have ht1 := HOKG.out.nm.t1
      have ht2 := HOKG.out.nm.t2
      have hs2 := HOKG.out.nm.s2
      have hs1 := HOKG.out.nm.s1
      go_wp2_with fail
      clear k0
      go_loopw [3] (fun sv wr => ∃ s : Int, sv = .int .i64 s ∧ g.t ≤ s ∧ s ≤ g.s ∧ Hid (Sep b1 w wr [.box b1 (.cells #[.int .i64 g.t, .int .i64 g.s, .int .i64 g.st, .slice p g.ps.length c] 24 (0, 0))])) (fun sv _ => (g.s - intOf sv).toNat)
      case atStart => exact ⟨g.t, rfl, by omega, by omega, S3⟩
      case round =>
      clear S3
      obtain ⟨s, rfl, hst, hss, HS⟩ := hrel
      obtain ⟨wo, rfl⟩ : ∃ wo : World, wo = wr := ⟨_, rfl⟩
      have k0 := (HS.out.boxAt 0).trans rfl
      have k1 := (HS.out.boxAt 1).trans rfl
      have k2 := (HS.out.boxAt 2).trans rfl
      have k3 := (HS.out.boxAt 3).trans rfl
      by_cases hlt : s < g.s
      · have hask := ask_of HOKG.out (s := s) (f := 0) (by omega) hlt
        have hask2 := ask_of HOKG.out (s := s) (f := g.t) hst hlt
        have H1 := Lib.hid (HFI.out wo s (HBE.out ▸ HS.out.bel))
        have hofl : ofL g s = idK s g.ps g.ps.length := by unfold ofL; rw [if_pos hask2]
        have hpos := id_ne HOKG.out hst hlt
        have hend := fun all h x hx => bg_end HOKG.out hst hlt (all := all) h (x := x) hx
        have HEND := Lib.hid hend
        rw [hask] at H1
        have hFl := fir_len g s
        obtain ⟨F, hF⟩ : ∃ F, firL g s = F := ⟨_, rfl⟩
        rw [hF] at H1 hFl HEND
        have HFE := Lib.hid hF
        go_wp2_with fail
        refine H1.out.mono ?_
        rintro _ y5 hn5
        obtain ⟨pF, cF, rfl, hs5⟩ := NumP.row HS.out hn5
        have S5 := Lib.hid hs5
        clear hn5 hs5 k0 k1 k2 k3 H1 hask hend hF HS
        have k0 := (S5.out.tl.boxAt 0).trans rfl
        have k1 := (S5.out.tl.boxAt 1).trans rfl
        have k2 := (S5.out.tl.boxAt 2).trans rfl
        have k3 := (S5.out.tl.boxAt 3).trans rfl
        have H1 := Lib.hid (HOF.out y5 s (HBE.out ▸ S5.out.bel))
        rw [hask2, hofl] at H1
        have hPm : ∀ x ∈ idK s g.ps g.ps.length, ∃ n : Nat, (n : Int) = x ∧ ∃ hn : n < g.ps.length, g.ps[n].hd = s := fun x hx => by
          obtain ⟨n, h1, h2, h3⟩ := mem_id.1 hx
          refine ⟨n, h1, h2, ?_⟩
          rw [List.getElem?_eq_getElem h2, Option.map_some, Option.some.injEq] at h3
          exact h3
        have hPl := idK_len s g.ps g.ps.length
        obtain ⟨P, hP⟩ : ∃ P, idK s g.ps g.ps.length = P := ⟨_, rfl⟩
        rw [hP] at H1 hPm hpos hPl HEND
        have HPM := Lib.hid hPm
        go_wp2_with fail
        refine H1.out.mono ?_
        rintro _ y6 hn6
        obtain ⟨pP, cP, rfl, hs6⟩ := NumP.row S5.out hn6
        obtain ⟨nP, hnP⟩ : ∃ n, P.length = n := ⟨_, rfl⟩
        obtain ⟨nF, hnF⟩ : ∃ n, F.length = n := ⟨_, rfl⟩
        have HNP := Lib.hid hnP
        have HNF := Lib.hid hnF
        rw [hnP] at hs6 hpos hPl HEND ⊢
        rw [hnF] at hs6 hFl ⊢
        have S6 := Lib.hid (hs6.none_ 3 1)
        have hp0 : (((nP : Nat) : Int) == 0) = false := by rw [beq_eq_false_iff_ne]; omega
        have HC0 : Hid (Cbg g P 0 []) := Lib.hid ⟨fun j hj => by omega, by simp⟩
        clear hn6 hs6 k0 k1 k2 k3 H1 hask2 hofl hPm hP S5 hnP hnF hpos
        have S7 : Hid (Sep b1 w y6 [rI (.slice none ([] : List Int).length 0) [], rI (.slice pP nP cP) P, rI (.slice pF nF cF) F, .box b1 (.cells #[.int .i64 g.t, .int .i64 g.s, .int .i64 g.st, .slice p g.ps.length c] 24 (0, 0))]) := S6
        clear S6
        go_wp2_with fail
        go_loopw [8, 9] (fun av i wr => ∃ (i' : Nat) (all : List Int) (pW : Option Addr) (cW : Nat), i = .int .i64 (i' : Nat) ∧ av = .slice pW all.length cW ∧ i' ≤ nP ∧ Hid (Cbg g P i' all) ∧ Hid (Sep b1 w wr [rI (.slice pW all.length cW) all, rI (.slice pP nP cP) P, rI (.slice pF nF cF) F, .box b1 (.cells #[.int .i64 g.t, .int .i64 g.s, .int .i64 g.st, .slice p g.ps.length c] 24 (0, 0))])) (fun _ i _ => nP - (intOf i).toNat)
        case atStart => exact ⟨0, [], none, 0, rfl, rfl, by omega, HC0, S7⟩
        case round =>
        clear HC0 S7
        obtain ⟨i, all, pW, cW, rfl, rfl, hi9, HC, HS⟩ := hrel
        obtain ⟨wi, rfl⟩ : ∃ wo : World, wo = wr := ⟨_, rfl⟩
        by_cases hli : i < nP
        · have hliI : (i : Int) < (nP : Int) := by omega
          have hiI : ¬ (i : Int) < 0 := by omega
          have hiP : i < P.length := by rw [HNP.out]; exact hli
          obtain ⟨gp, cgp, hpp, hgb, hrc⟩ := own_at (HS.out.li (rI (.slice pP nP cP) P) (by simp)) (by omega)
          injection hpp with e1 e2 e3
          subst e1
          have cpi : wi.cell? ⟨gp, i, none⟩ = some (.int .i64 P[i]) := hrc i _ (by simp [zi, hiP])
          obtain ⟨m, hm, hml, hmh⟩ := HPM.out P[i] (List.getElem_mem hiP)
          have HPI : Hid (P[i]? = some (m : Int)) := Lib.hid (by rw [List.getElem?_eq_getElem hiP, hm])
          rw [← hm] at cpi
          obtain ⟨bb, o, q, d, hpb, hbb, c0, c1, c2, hiv, hbdl, hmem⟩ := (HG.out.up (HBE.out ▸ HS.out.bel)).at hml
          subst hpb
          have k0 := (HS.out.tl.tl.tl.boxAt 0).trans rfl
          have k1 := (HS.out.tl.tl.tl.boxAt 1).trans rfl
          have k2 := (HS.out.tl.tl.tl.boxAt 2).trans rfl
          have k3 := (HS.out.tl.tl.tl.boxAt 3).trans rfl
          rw [hmh] at c0
          obtain ⟨x, hxx⟩ : ∃ x, g.ps[m] = x := ⟨_, rfl⟩
          have hgx : g.ps[m]? = some x := by rw [List.getElem?_eq_getElem hml, hxx]
          rw [hxx] at c1 hiv hbdl hmem hmh
          have hne := HOKG.out.ne x hmem
          have hl0 : 0 < x.bd.length := List.length_pos_iff.2 hne
          obtain ⟨q', d', he, hh⟩ := hiv
          injection he with e4 e5 e6
          subst e4 e6
          obtain ⟨b9, o9, rfl, hD9, hc9⟩ := hh hne
          have c9 := hc9 0 hl0
          rw [hd_get hl0, Nat.add_zero] at c9
          have hbr := HOKG.out.nm.bd x hmem _ (hd_mem hne)
          have hask := ask_of HOKG.out (s := x.bd.headD 0) (f := 0) hbr.1 hbr.2
          have HASK := Lib.hid hask
          have hin := bg_in HOKG.out hmem
          rw [hmh, HFE.out] at hin
          have HIN := Lib.hid hin
          have HNL := Lib.hid (HC.out.app HPI.out hgx)
          have HLN := Lib.hid HC.out.ln
          have hn0 : ¬ x.bd.length = 0 := by omega
          have hl0I : (0 : Int) < (x.bd.length : Int) := by omega
          have hml2 : (m : Int) < (g.ps.length : Int) := by omega
          have hml3 : ¬ (g.ps.length : Int) ≤ (m : Int) := by omega
          have hm0 : ¬ (m : Int) < 0 := by omega
          have hse : (s != s) = false := by simp
          generalize x.bd.headD 0 = fy at c9 HASK HIN HNL
          generalize x.bd.length = n at c1 hn0 hl0I
          clear hrc hgb hh hc9 hask hin hbr hgx hxx hmem hbdl hm hne hl0 e2 e3 e5 c2 hmh hD9 HC
          go_wp2_with fail
          go_quiet (fail)
          refine at_worldQ (fun z => Below wi.heap.size wi z) (below_drewN (Below.refl _ _) _) fun wj hwj => ?_
          have HWJ := Lib.hid hwj
          clear hwj
          go_upto_region 16 with fail
          have HB1Y := Lib.hid (blk_lt k0)
          have K0 := Lib.hid k0
          have K1 := Lib.hid k1
          have K2 := Lib.hid k2
          have K3 := Lib.hid k3
          have HCP := Lib.hid cpi
          have HBP := Lib.hid (blk_lt cpi)
          have HCA := Lib.hid c1
          have HBA := Lib.hid (blk_lt c1)
          have HCB := Lib.hid c9
          have HBB9 := Lib.hid (blk_lt c9)
          have HS0 : Hid ((fun v => Below wi.heap.size wi v) wj.drew) := Lib.hid (below_drewN HWJ.out 1)
          refine wp_region_held_drew (S := fun v => Below wi.heap.size wi v) (by kernel_rfl) HS0.out (fun hHeld => ?_)
          refine wpAnyH_take (i := 0) (v := (.agg #[.int .i64 g.t, .int .i64 g.s, .int .i64 g.st, .slice (some ⟨bb, o, none⟩) g.ps.length c])) rfl (by kernel_rfl) (by kernel_rfl) (by kernel_rfl) (fun _ _ _ h => h) (Or.inl ⟨by rfl, by (intro w9 hSw; (try dsimp only at hSw); have c0_ := cell_up K0.out hSw HB1Y.out; have c1_ := cell_up K1.out hSw HB1Y.out; have c2_ := cell_up K2.out hSw HB1Y.out; have c3_ := cell_up K3.out hSw HB1Y.out; go_simp)⟩) hHeld ?_
          (try simp only [Act.put, List.getElem_toArray, List.getElem_cons_zero, List.getElem_cons_succ, List.setIfInBounds_toArray, List.set_cons_zero, List.set_cons_succ])
          refine wpAnyH_take (i := 1) (v := (.pointer (some ⟨b1, 3, none⟩))) rfl (by kernel_rfl) (by kernel_rfl) (by kernel_rfl) (fun _ _ _ h => h) (Or.inl ⟨by rfl, by (intro w hSw; (try dsimp only at hSw); go_simp)⟩) hHeld ?_
          (try simp only [Act.put, List.getElem_toArray, List.getElem_cons_zero, List.getElem_cons_succ, List.setIfInBounds_toArray, List.set_cons_zero, List.set_cons_succ])
          refine wpAnyH_take (i := 2) (v := (.slice (some ⟨bb, o, none⟩) g.ps.length c)) rfl (by kernel_rfl) (by kernel_rfl) (by kernel_rfl) (fun _ _ _ h => h) (Or.inl ⟨by rfl, by (intro w9 hSw; (try dsimp only at hSw); have c3_ := cell_up K3.out hSw HB1Y.out; go_simp)⟩) hHeld ?_
          (try simp only [Act.put, List.getElem_toArray, List.getElem_cons_zero, List.getElem_cons_succ, List.setIfInBounds_toArray, List.set_cons_zero, List.set_cons_succ])
          refine wpAnyH_take (i := 3) (v := (.slice (some ⟨gp, 0, none⟩) nP cP)) rfl (by kernel_rfl) (by kernel_rfl) (by kernel_rfl) (fun _ _ _ h => h) (Or.inl ⟨by rfl, by (intro w hSw; (try dsimp only at hSw); go_simp)⟩) hHeld ?_
          (try simp only [Act.put, List.getElem_toArray, List.getElem_cons_zero, List.getElem_cons_succ, List.setIfInBounds_toArray, List.set_cons_zero, List.set_cons_succ])
          refine wpAnyH_take (i := 4) (v := (.int .i64 (i : Nat))) rfl (by kernel_rfl) (by kernel_rfl) (by kernel_rfl) (fun _ _ _ h => h) (Or.inl ⟨by rfl, by (intro w hSw; (try dsimp only at hSw); go_simp)⟩) hHeld ?_
          (try simp only [Act.put, List.getElem_toArray, List.getElem_cons_zero, List.getElem_cons_succ, List.setIfInBounds_toArray, List.set_cons_zero, List.set_cons_succ])
          refine wpAnyH_take (i := 5) (v := (.pointer (some ⟨gp, i, none⟩))) rfl (by kernel_rfl) (by kernel_rfl) (by kernel_rfl) (fun _ _ _ h => h) (Or.inl ⟨by rfl, by (intro w hSw; (try dsimp only at hSw); go_simp)⟩) hHeld ?_
          (try simp only [Act.put, List.getElem_toArray, List.getElem_cons_zero, List.getElem_cons_succ, List.setIfInBounds_toArray, List.set_cons_zero, List.set_cons_succ])
          refine wpAnyH_take (i := 6) (v := (.int .i64 (m : Nat))) rfl (by kernel_rfl) (by kernel_rfl) (by kernel_rfl) (fun _ _ _ h => h) (Or.inl ⟨by rfl, by (intro w9 hSw; (try dsimp only at hSw); have c9_ := cell_up HCP.out hSw HBP.out; go_simp)⟩) hHeld ?_
          (try simp only [Act.put, List.getElem_toArray, List.getElem_cons_zero, List.getElem_cons_succ, List.setIfInBounds_toArray, List.set_cons_zero, List.set_cons_succ])
          refine wpAnyH_take (i := 7) (v := (.pointer (some ⟨bb, o + m * 3, none⟩))) rfl (by kernel_rfl) (by kernel_rfl) (by kernel_rfl) (fun _ _ _ h => h) (Or.inl ⟨by rfl, by (intro w hSw; (try dsimp only at hSw); go_simp)⟩) hHeld ?_
          (try simp only [Act.put, List.getElem_toArray, List.getElem_cons_zero, List.getElem_cons_succ, List.setIfInBounds_toArray, List.set_cons_zero, List.set_cons_succ])
          refine wpAnyH_take (i := 8) (v := (.pointer (some ⟨bb, o + m * 3 + 1, none⟩))) rfl (by kernel_rfl) (by kernel_rfl) (by kernel_rfl) (fun _ _ _ h => h) (Or.inl ⟨by rfl, by (intro w hSw; (try dsimp only at hSw); go_simp)⟩) hHeld ?_
          (try simp only [Act.put, List.getElem_toArray, List.getElem_cons_zero, List.getElem_cons_succ, List.setIfInBounds_toArray, List.set_cons_zero, List.set_cons_succ])
          refine wpAnyH_take (i := 9) (v := (.slice (some ⟨b9, o9, none⟩) n d)) rfl (by kernel_rfl) (by kernel_rfl) (by kernel_rfl) (fun _ _ _ h => h) (Or.inl ⟨by rfl, by (intro w9 hSw; (try dsimp only at hSw); have c9_ := cell_up HCA.out hSw HBA.out; go_simp)⟩) hHeld ?_
          (try simp only [Act.put, List.getElem_toArray, List.getElem_cons_zero, List.getElem_cons_succ, List.setIfInBounds_toArray, List.set_cons_zero, List.set_cons_succ])
          refine wpAnyH_take (i := 10) (v := (.pointer (some ⟨b9, o9, none⟩))) rfl (by kernel_rfl) (by kernel_rfl) (by kernel_rfl) (fun _ _ _ h => h) (Or.inl ⟨by rfl, by (intro w hSw; (try dsimp only at hSw); go_simp)⟩) hHeld ?_
          (try simp only [Act.put, List.getElem_toArray, List.getElem_cons_zero, List.getElem_cons_succ, List.setIfInBounds_toArray, List.set_cons_zero, List.set_cons_succ])
          refine wpAnyH_take (i := 11) (v := (.int .i64 fy)) rfl (by kernel_rfl) (by kernel_rfl) (by kernel_rfl) (fun _ _ _ h => h) (Or.inl ⟨by rfl, by (intro w9 hSw; (try dsimp only at hSw); have c9_ := cell_up HCB.out hSw HBB9.out; go_simp)⟩) hHeld ?_
          (try simp only [Act.put, List.getElem_toArray, List.getElem_cons_zero, List.getElem_cons_succ, List.setIfInBounds_toArray, List.set_cons_zero, List.set_cons_succ])
          refine wpAnyH_ready (rs := [12]) (by kernel_rfl) (by simp) ?_
          refine AllReadyH.cons rfl (fun K hK => ?_) (AllReadyH.nil)
          rw [if_pos (by rfl)]
          go_wp2_with fail
          refine (HFI.out _ fy (HBE.out ▸ (Below.trans HS.out.bel (Below.mono hHeld HS.out.sz)))).mono ?_
          rintro _ v9 hn9
          have hb9x := Below.trans hHeld (Below.mono hn9.bel (Below.size hHeld))
          obtain ⟨xp, xc, rfl, hs9⟩ := NumP.row (HS.out.up hHeld) hn9
          have S9 := Lib.hid hs9
          clear hn9 hs9
          refine hK.out _ _ hb9x (fun hHeld2 => ?_)
          clear hb9x
          clear hHeld hK
          have hHeld := hHeld2
          clear hHeld2
          (try simp only [Act.put, List.getElem_toArray, List.getElem_cons_zero, List.getElem_cons_succ, List.setIfInBounds_toArray, List.set_cons_zero, List.set_cons_succ])
          refine wpAnyH_take (i := 13) (v := (.tuple #[.slice xp (firL g fy).length xc, .int .i64 (askV g fy 0)])) rfl (by kernel_rfl) (by kernel_rfl) (by kernel_rfl) (fun _ _ _ h => h) (Or.inl ⟨by rfl, by (intro w hSw; (try dsimp only at hSw); go_simp)⟩) hHeld ?_
          (try simp only [Act.put, List.getElem_toArray, List.getElem_cons_zero, List.getElem_cons_succ, List.setIfInBounds_toArray, List.set_cons_zero, List.set_cons_succ])
          refine wpAnyH_take (i := 14) (v := (.slice xp (firL g fy).length xc)) rfl (by kernel_rfl) (by kernel_rfl) (by kernel_rfl) (fun _ _ _ h => h) (Or.inl ⟨by rfl, by (intro w hSw; (try dsimp only at hSw); go_simp)⟩) hHeld ?_
          (try simp only [Act.put, List.getElem_toArray, List.getElem_cons_zero, List.getElem_cons_succ, List.setIfInBounds_toArray, List.set_cons_zero, List.set_cons_succ])
          refine wpAnyH_take (i := 15) (v := (.int .i64 (askV g fy 0))) rfl (by kernel_rfl) (by kernel_rfl) (by kernel_rfl) (fun _ _ _ h => h) (Or.inl ⟨by rfl, by (intro w hSw; (try dsimp only at hSw); go_simp)⟩) hHeld ?_
          (try simp only [Act.put, List.getElem_toArray, List.getElem_cons_zero, List.getElem_cons_succ, List.setIfInBounds_toArray, List.set_cons_zero, List.set_cons_succ])
          refine wpAnyH_take (i := 16) (v := (.slice xp (firL g fy).length xc)) rfl (by kernel_rfl) (by kernel_rfl) (by kernel_rfl) (fun _ _ _ h => h) (Or.inl ⟨by rfl, by (intro w hSw; (try dsimp only at hSw); go_simp)⟩) hHeld ?_
          (try simp only [Act.put, List.getElem_toArray, List.getElem_cons_zero, List.getElem_cons_succ, List.setIfInBounds_toArray, List.set_cons_zero, List.set_cons_succ])
          refine wpAnyH_take (i := 17) (v := (.int .i64 (askV g fy 0))) rfl (by kernel_rfl) (by kernel_rfl) (by kernel_rfl) (fun _ _ _ h => h) (Or.inl ⟨by rfl, by (intro w hSw; (try dsimp only at hSw); go_simp)⟩) hHeld ?_
          (try simp only [Act.put, List.getElem_toArray, List.getElem_cons_zero, List.getElem_cons_succ, List.setIfInBounds_toArray, List.set_cons_zero, List.set_cons_succ])
          refine wpAnyH_done (by kernel_rfl) ?_ _
          rw [HASK.out] at *
          have HLx := Lib.hid (fir_len g fy)
          obtain ⟨Y, hY⟩ : ∃ Y, firL g fy = Y := ⟨_, rfl⟩
          rw [hY] at S9 HIN HNL HLx ⊢
          have HWI := Lib.hid (within_any (a := Y) (b := F) (w := v9) (pa := xp) (ca := xc) (pb := pF) (cb := cF) (by have := HLx.out; omega) (by rw [HNF.out]; omega) (fun b h => h) (fun b h => h) (S9.out.iv (n := Y.length) (by simp)) (S9.out.iv (n := nF) (by simp)))
          rw [HIN.out, HNF.out] at HWI
          clear hHeld k0 k1 k2 k3 cpi c0 c1 c9 HS0 K0 K1 K2 K3 HB1Y HS HCP HBP HCA HBA HCB HBB9 hY
          go_wp2_with fail
          refine HWI.out.mono ?_
          rintro _ y9 ⟨rfl, hb9y⟩
          have SA := Lib.hid ((S9.out.up hb9y).swap)
          clear hb9y S9 HWI
          have hln : all.length + Y.length ≤ 1000000 := by have := HLN.out; have := HLx.out; omega
          go_wp2_with (at_builtin; refine wpList_app rfl (.tmp 109) (.tmp 110) rfl [] rfl rfl SA.out rfl (SA.out.iv (n := Y.length) (by simp)) hln ?_)
          intro R9 hR9 p2 c2 w4 hs4
          rw [← hR9.out] at HNL
          have S6 : Hid (Sep b1 w w4 [rI (.slice p2 R9.length c2) R9, rI (.slice (some ⟨gp, 0, none⟩) nP cP) P, rI (.slice pF nF cF) F, .box b1 (.cells #[.int .i64 g.t, .int .i64 g.s, .int .i64 g.st, .slice (some ⟨bb, o, none⟩) g.ps.length c] 24 (0, 0))]) := Lib.hid (hs4.swap.tl)
          clear hs4 SA hln hR9
          go_wp2_with fail
          go_roundw
          case rel => exact ⟨i + 1, _, p2, c2, by go_num, rfl, by omega, HNL, S6⟩
          case measure => simp [intOf]; omega
        · obtain rfl : i = nP := by omega
          have hliI : ¬ (i : Int) < (i : Int) := by omega
          have hall : (F.all fun x => decide (x ∈ all)) = true := List.all_eq_true.2 fun x hx => decide_eq_true (HEND.out all HC.out x hx)
          have hwl : all.length ≤ 1000000 := by have := HC.out.ln; omega
          have HWI := Lib.hid (within_any (a := F) (b := all) (w := wi) (pa := pF) (ca := cF) (pb := pW) (cb := cW) (by rw [HNF.out]; omega) (by omega) (fun b h => h) (fun b h => h) (HS.out.iv (n := nF) (by simp)) (HS.out.iv (n := all.length) (by simp)))
          rw [hall, HNF.out] at HWI
          clear hall hli hwl HC
          go_wp2_with fail
          refine HWI.out.mono ?_
          rintro _ y9 ⟨rfl, hb9y⟩
          have SA := Lib.hid ((HS.out.up hb9y).tl.tl.tl)
          clear hb9y HWI HS
          go_wp2_with fail
          go_roundw
          case rel => exact ⟨s + 1, by go_num, by omega, by omega, SA⟩
          case measure => simp [intOf]; omega
      · obtain rfl : s = g.s := by omega
        have HB0 := Lib.hid HS.out
        clear hlt
        go_wp2_with fail
        refine (HAL.out _).mono ?_
        rintro _ y4 ⟨rfl, hb4⟩
        have HB := Lib.hid (HB0.out.up hb4).bel
        clear hb4
        go_wp2_with fail
        go_ret
        exact ⟨rfl, by rw [HBE.out]; exact HB.out⟩
    · have hEI : (E != 0) = true := by rw [bne_iff_ne]; exact hE
      clear hE
      go_wp2_with fail
      refine (HAL.out _).mono ?_
      rintro _ y4 ⟨rfl, hb4⟩
      have HB := Lib.hid (S3.out.up hb4).bel
      clear hb4
      go_wp2_with fail
      go_ret
      exact ⟨rfl, by rw [HBE.out]; exact HB.out⟩
end Go.Proofs.Ytpmkdpjcpimhkaa
