/- Package grams. -/
import Derived.Test.YtpmkdpjcpimhkaaProg
import Derived.Test.YtpmkdpjcpimhkaaIw0
import Derived.Test.YtpmkdpjcpimhkaaIr
import Derived.Deep.SlicePairs
import Derived.Deep.Slices
import Derived.Laws.IdiomArrays
import Derived.OpenShut
import Derived.WideBlind
import Derived.Great.BuildSlice
import Derived.WalkKit
import Derived.Maps.OwnSet
import Derived.Maps.OwnOps
import Derived.Maps.Own
import Derived.DeepKeys5
import Derived.BigFrame
import Derived.WalkMore
import Derived.ScopeJumps
import Derived.StillTailTactics
import Derived.Stop.BytesEq
import Derived.WalkLawsBesides
import Derived.WalkSpells
import Derived.Outline
import Derived.Lib.Walk
import Derived.Lib.Hide
import Derived.Lib.Slices
import Derived.Lib.Strings
import Derived.RegionTactic
import Derived.LoopTactic
import Derived.Below
import Derived.IntWalk
import Derived.Deep.QuietTactic
import Derived.BigQuiet
import Derived.Deep.MidRow
import Derived.Maps.AppendAt
import Derived.Laws.Rows
import Derived.Laws.Tables
import Derived.Deep.WholeRow
import Derived.Deep.Cut
import Derived.Deep.CutRange
import Derived.Lib.SliceRun
import Derived.Laws.MakeOwn
import Derived.Deep.RegionLaw
import Derived.Deep.RegionLawGrows
import Derived.Deep.RegionHeld3
import Derived.RegionCalls
import Derived.Deep.RegionWith
import Derived.Deep.Light
import Derived.Laws.CopyOwn
import Derived.Laws.ResultCell
namespace Go.Proofs.Ytpmkdpjcpimhkaa
set_option linter.unusedSimpArgs false
set_option linter.unusedVariables false
set_option maxRecDepth 100000
open Go.RowKit
/- GramsRows. -/
open Go.Maps
set_option maxHeartbeats 32000000 in
theorem rows_any {D E' : Nat → Prop} {w : World} {g : Gr} {p : Option Addr} {c : Nat} {K : List Int} {pk : Option Addr} {ck : Nat} (hg : GM D w g.ps p) (hc : g.ps.length ≤ c) (hkv : IV E' w K (.slice pk K.length ck)) (hkE : ∀ b, E' b → b < w.heap.size) (hkl : K.length ≤ 9223372036854775806) :
    Calls Try.prog 8 #[.agg #[.int .i64 g.t, .int .i64 g.s, .int .i64 g.st, .slice p g.ps.length c], .slice pk K.length ck] w fun e w' => e = .returned (.bool true) ∧ Below w.heap.size w w' := by
  have HG := Lib.hid hg
  have HKV := Lib.hid hkv
  have HKE := Lib.hid hkE
  obtain ⟨b1, hb1⟩ : ∃ b, w.heap.size = b := ⟨_, rfl⟩
  have HBE := Lib.hid hb1
  have S0 := Lib.hid ((Sep.start w).allocAt hb1 (.cells (gC g p c) 24))
  have HBG := Lib.hid (fun (z : World) (hz : Below w.heap.size w z) => big_any (c := c) (hg.up hz))
  have HCK := Lib.hid (fun (z : World) (hz : Below w.heap.size w z) => check_any (c := c) (hg.up hz) hc)
  have HOF := Lib.hid (fun (z : World) (s : Int) (hz : Below w.heap.size w z) => of18_any (c := c) s (hg.up hz) hc)
  have HFI := Lib.hid (fun (z : World) (s : Int) (hz : Below w.heap.size w z) => first_any (c := c) s (hg.up hz) hc)
  have HFO := Lib.hid (fun (z : World) (s : Int) (hz : Below w.heap.size w z) => follow_any (c := c) s (hg.up hz) hc)
  have HAL := Lib.hid alive_any
  have HOK : Hid (chk g = 0 → GrOk g) := Lib.hid (fun h => (chk_ok g).1 h)
  have hnot : ∀ (x : Bool) (w : World), (Op.unary .not (.bool x)).run Try.prog w = .ok (.bool (!x)) w := fun _ _ => rfl
  unfold gC at S0
  obtain ⟨nK, hnK⟩ : ∃ n, K.length = n := ⟨_, rfl⟩
  have HNK := Lib.hid hnK
  rw [hnK] at hkl ⊢
  clear hg hc hkv hkE hnK
  go_enter Try.func8, Try.ntmps8
  go_upto_region 1 with fail
  refine at_world (fun v => Sep b1 w v [.box b1 (.cells #[.int .i64 g.t, .int .i64 g.s, .int .i64 g.st, .slice p g.ps.length c] 24 (0, 0))]) (HBE.out ▸ S0.out) fun y1 hy1 => ?_
  have S1 := Lib.hid hy1
  clear hy1 S0 hb1
  have k0 := (S1.out.boxAt 0).trans rfl
  have k1 := (S1.out.boxAt 1).trans rfl
  have k2 := (S1.out.boxAt 2).trans rfl
  have k3 := (S1.out.boxAt 3).trans rfl
  have H1 := Lib.hid (HBG.out y1 (HBE.out ▸ S1.out.bel))
  generalize decide (100000 < tot g.ps) = tb at H1
  go_wp2_with fail
  refine H1.out.mono ?_
  rintro _ y2 ⟨rfl, hb2⟩
  have S2 := Lib.hid (S1.out.up hb2)
  clear hb2 k0 k1 k2 k3 S1 H1 HBG
  cases tb with
  | true =>
    go_wp2_with fail
    refine (HAL.out _).mono ?_
    rintro _ y4 ⟨rfl, hb4⟩
    have HB := Lib.hid (S2.out.up hb4).bel
    clear hb4
    go_wp2_with fail
    go_ret
    exact ⟨rfl, by rw [HBE.out]; exact HB.out⟩
  | false =>
    have k0 := (S2.out.boxAt 0).trans rfl
    have k1 := (S2.out.boxAt 1).trans rfl
    have k2 := (S2.out.boxAt 2).trans rfl
    have k3 := (S2.out.boxAt 3).trans rfl
    have H1 := Lib.hid (HCK.out y2 (HBE.out ▸ S2.out.bel))
    obtain ⟨E, hE⟩ : ∃ E, chk g = E := ⟨_, rfl⟩
    rw [hE] at H1 HOK
    clear hE
    go_wp2_with fail
    refine H1.out.mono ?_
    rintro _ y3 ⟨rfl, hb3⟩
    have S3 := Lib.hid (S2.out.up hb3)
    clear hb3 k0 k1 k2 k3 S2 H1 HCK
    by_cases hE : E = 0
    · subst hE
      have HOKG := Lib.hid (HOK.out rfl)
      have hps : g.ps.length ≤ 64 := HOKG.out.nm.n2
      have HR0 := Lib.hid (RowOk.start HOKG.out)
      have k2 := (S3.out.boxAt 2).trans rfl
      obtain ⟨br, hbr⟩ : ∃ b, y3.heap.size = b := ⟨_, rfl⟩
      have S4 : Hid (Sep b1 w (y3.alloc (.cells #[.int .i64 g.st] 3)) [rI (.slice (some ⟨br, 0, none⟩) ([g.st] : List Int).length 1) [g.st], .box b1 (.cells #[.int .i64 g.t, .int .i64 g.s, .int .i64 g.st, .slice p g.ps.length c] 24 (0, 0))]) := Lib.hid ((S3.out.allocAt hbr (.cells #[.int .i64 g.st] 3)).full (n := 1) (size := 1) rfl (by decide))
      go_upto_region 4 with fail
      refine at_world (fun v => Sep b1 w v [rI (.slice (some ⟨br, 0, none⟩) ([g.st] : List Int).length 1) [g.st], .box b1 (.cells #[.int .i64 g.t, .int .i64 g.s, .int .i64 g.st, .slice p g.ps.length c] 24 (0, 0))]) S4.out fun y4 hy4 => ?_
      have S5 := Lib.hid hy4
      clear hy4 S4 S3 hbr k2
      obtain ⟨row0, hrow0⟩ : ∃ l : List Int, [g.st] = l := ⟨_, rfl⟩
      have hr0l : row0.length = 1 := by rw [← hrow0]; rfl
      rw [hrow0] at S5 HR0
      clear hrow0
      go_wp2_with fail
      go_loopw [5, 6] (fun rv i wr => ∃ (i' : Nat) (row : List Int) (pv : Option Addr) (cv : Nat), i = .int .i64 (i' : Nat) ∧ rv = .slice pv row.length cv ∧ i' ≤ 82 ∧ row.length ≤ 208 ∧ Hid (RowOk g row) ∧ Hid (Sep b1 w wr [rI (.slice pv row.length cv) row, .box b1 (.cells #[.int .i64 g.t, .int .i64 g.s, .int .i64 g.st, .slice p g.ps.length c] 24 (0, 0))])) (fun _ i _ => 82 - (intOf i).toNat)
      case atStart => exact ⟨0, row0, some ⟨br, 0, none⟩, 1, rfl, by rw [hr0l], by omega, by omega, HR0, S5⟩
      case round =>
      clear S5 HR0 hr0l
      obtain ⟨i, row, pv, cv, rfl, rfl, hi9, hr9, HR, HS⟩ := hrel
      obtain ⟨wo, rfl⟩ : ∃ wo : World, wo = wr := ⟨_, rfl⟩
      obtain ⟨nr, hnr⟩ : ∃ n, row.length = n := ⟨_, rfl⟩
      have HNR := Lib.hid hnr
      have hpos : 0 < nr := by rw [← hnr]; exact List.length_pos_iff.2 HR.out.ne
      rw [hnr] at hr9 ⊢
      rw [hnr] at HS
      clear hnr
      go_upto_region 5 with fail
      go_cut [47] from 34 to 47 (fun s47 wx => s47 = .bool (decide (i + 1 < nK ∧ i < 80 ∧ nr ≤ 200)) ∧ wx = wo)
      case first =>
        by_cases q1 : i + 1 < nK
        · have q1I : (i : Int) + 1 < (nK : Int) := by omega
          by_cases q2 : i < 80
          · have q2I : (i : Int) < 80 := by omega
            by_cases q3 : nr ≤ 200
            · have q3I : (nr : Int) ≤ 200 := by omega
              have hd : decide (i + 1 < nK ∧ i < 80 ∧ nr ≤ 200) = true := decide_eq_true ⟨q1, q2, q3⟩
              clear q1 q2 q3
              go_wp2_with fail
              go_meet
              case rel => exact ⟨by rw [hd], rfl⟩
            · have q3I : ¬ (nr : Int) ≤ 200 := by omega
              have hd : decide (i + 1 < nK ∧ i < 80 ∧ nr ≤ 200) = false := decide_eq_false (fun h => q3 h.2.2)
              clear q1 q2 q3
              go_wp2_with fail
              go_meet
              case rel => exact ⟨by rw [hd], rfl⟩
          · have q2I : ¬ (i : Int) < 80 := by omega
            have hd : decide (i + 1 < nK ∧ i < 80 ∧ nr ≤ 200) = false := decide_eq_false (fun h => q2 h.2.1)
            clear q1 q2
            go_wp2_with fail
            go_meet
            case rel => exact ⟨by rw [hd], rfl⟩
        · have q1I : ¬ (i : Int) + 1 < (nK : Int) := by omega
          have hd : decide (i + 1 < nK ∧ i < 80 ∧ nr ≤ 200) = false := decide_eq_false (fun h => q1 h.1)
          clear q1
          go_wp2_with fail
          go_meet
          case rel => exact ⟨by rw [hd], rfl⟩
      obtain ⟨rfl, hwx⟩ := hcut
      subst hwx
      by_cases hgo : i + 1 < nK ∧ i < 80 ∧ nr ≤ 200
      · rw [decide_eq_true hgo]
        obtain ⟨q1, q2, q3⟩ := hgo
        have hiK : i < K.length := by rw [HNK.out]; omega
        have hiK1 : i + 1 < K.length := by rw [HNK.out]; omega
        obtain ⟨pk', ck', he, hh⟩ := HKV.out
        injection he with e1 e2 e3
        subst e1 e3
        obtain ⟨bk, ok, rfl, hDk, hck⟩ := hh (by intro e; rw [e] at hiK; simp at hiK)
        have hbk : bk < b1 := by rw [← HBE.out]; exact HKE.out bk hDk
        have ck1 := cell_up (hck i hiK) HS.out.bel hbk
        have hck2w := hck (i + 1) hiK1
        generalize K[i] = v1 at ck1
        generalize K[i + 1] = v2 at hck2w
        have HCK2 := Lib.hid hck2w
        have HBK := Lib.hid hbk
        have q1I : (i : Int) < (nK : Int) := by omega
        have hiI : ¬ (i : Int) < 0 := by omega
        clear hh hck e2 hDk hck2w hbk hiK hiK1
        go_upto_region 8 with fail
        have hm1 := Int.lt_tmod_of_pos v1 (by omega : (0 : Int) < (nr : Int))
        have hm2 := Int.tmod_lt_of_pos v1 (by omega : (0 : Int) < (nr : Int))
        have hnrI : ¬ (nr : Int) = 0 := by omega
        go_upto_if 58 with fail
        generalize v1.tmod (nr : Int) = m1 at hm1 hm2 ⊢
        go_cut [7] from 34 to 136 (fun s7 wx => ∃ at_ : Nat, s7 = .int .i64 (at_ : Nat) ∧ at_ < nr ∧ wx = wc)
        case first =>
          by_cases hneg : m1 < 0
          · go_wp2_with fail
            go_meet
            case rel => exact ⟨(m1 + nr).toNat, by congr 1; omega, by omega, rfl⟩
          · go_wp2_with fail
            go_meet
            case rel => exact ⟨m1.toNat, by congr 1; omega, by omega, rfl⟩
        obtain ⟨at_, rfl, hat, hwx⟩ := hcut
        subst hwx
        clear hm1 hm2
        have hatr : at_ < row.length := by rw [HNR.out]; exact hat
        obtain ⟨gr, cgr, hgr, hgb, hrc⟩ := own_at (HS.out.li (rI (.slice pv nr cv) row) (by simp)) (by rw [HNR.out]; omega)
        injection hgr with e1 e2 e3
        subst e1
        have cra : wc.cell? ⟨gr, at_, none⟩ = some (.int .i64 row[at_]) := hrc at_ _ (by simp [zi, hatr])
        have hsplit : row = row.take at_ ++ row[at_] :: row.drop (at_ + 1) := by
          conv => lhs; rw [← List.take_append_drop at_ row, List.drop_eq_getElem_cons hatr]
        have hsm := HR.out.sm row[at_] (List.getElem_mem hatr)
        obtain ⟨A, hA⟩ : ∃ A, row[at_] = A := ⟨_, rfl⟩
        rw [hA] at cra hsplit hsm
        have HSP := Lib.hid hsplit
        have hatI : ¬ (at_ : Int) < 0 := by omega
        have hatI2 : (at_ : Int) < (nr : Int) := by omega
        have k0 := (HS.out.tl.boxAt 0).trans rfl
        have k1 := (HS.out.tl.boxAt 1).trans rfl
        have k2 := (HS.out.tl.boxAt 2).trans rfl
        have k3 := (HS.out.tl.boxAt 3).trans rfl
        clear hrc hgb e2 e3 hsplit hA ck1
        go_upto_region 10 with fail
        have HB1Y := Lib.hid (blk_lt k0)
        have K0 := Lib.hid k0
        have K1 := Lib.hid k1
        have K2 := Lib.hid k2
        have K3 := Lib.hid k3
        have HS0 : Hid ((fun v => Below wc.heap.size wc v) wc.drew) := Lib.hid (below_drewN (Below.refl _ _) 1)
        have HCA := Lib.hid cra
        have HCAB := Lib.hid (blk_lt cra)
        refine wp_region_held_drew (S := fun v => Below wc.heap.size wc v) (by kernel_rfl) HS0.out (fun hHeld => ?_)
        refine wpAnyH_take (i := 0) (v := (.agg #[.int .i64 g.t, .int .i64 g.s, .int .i64 g.st, .slice p g.ps.length c])) rfl (by kernel_rfl) (by kernel_rfl) (by kernel_rfl) (fun _ _ _ h => h) (Or.inl ⟨by rfl, by (intro w9 hSw; (try dsimp only at hSw); have c0_ := cell_up K0.out hSw HB1Y.out; have c1_ := cell_up K1.out hSw HB1Y.out; have c2_ := cell_up K2.out hSw HB1Y.out; have c3_ := cell_up K3.out hSw HB1Y.out; go_simp)⟩) hHeld ?_
        (try simp only [Act.put, List.getElem_toArray, List.getElem_cons_zero, List.getElem_cons_succ, List.setIfInBounds_toArray, List.set_cons_zero, List.set_cons_succ])
        refine wpAnyH_take (i := 1) (v := (.slice (some ⟨gr, 0, none⟩) nr cv)) rfl (by kernel_rfl) (by kernel_rfl) (by kernel_rfl) (fun _ _ _ h => h) (Or.inl ⟨by rfl, by (intro w hSw; (try dsimp only at hSw); go_simp)⟩) hHeld ?_
        (try simp only [Act.put, List.getElem_toArray, List.getElem_cons_zero, List.getElem_cons_succ, List.setIfInBounds_toArray, List.set_cons_zero, List.set_cons_succ])
        refine wpAnyH_take (i := 2) (v := (.int .i64 (at_ : Nat))) rfl (by kernel_rfl) (by kernel_rfl) (by kernel_rfl) (fun _ _ _ h => h) (Or.inl ⟨by rfl, by (intro w hSw; (try dsimp only at hSw); go_simp)⟩) hHeld ?_
        (try simp only [Act.put, List.getElem_toArray, List.getElem_cons_zero, List.getElem_cons_succ, List.setIfInBounds_toArray, List.set_cons_zero, List.set_cons_succ])
        refine wpAnyH_take (i := 3) (v := (.pointer (some ⟨gr, at_, none⟩))) rfl (by kernel_rfl) (by kernel_rfl) (by kernel_rfl) (fun _ _ _ h => h) (Or.inl ⟨by rfl, by (intro w hSw; (try dsimp only at hSw); go_simp)⟩) hHeld ?_
        (try simp only [Act.put, List.getElem_toArray, List.getElem_cons_zero, List.getElem_cons_succ, List.setIfInBounds_toArray, List.set_cons_zero, List.set_cons_succ])
        refine wpAnyH_take (i := 4) (v := (.int .i64 A)) rfl (by kernel_rfl) (by kernel_rfl) (by kernel_rfl) (fun _ _ _ h => h) (Or.inl ⟨by rfl, by (intro w9 hSw; (try dsimp only at hSw); have c9_ := cell_up HCA.out hSw HCAB.out; go_simp)⟩) hHeld ?_
        (try simp only [Act.put, List.getElem_toArray, List.getElem_cons_zero, List.getElem_cons_succ, List.setIfInBounds_toArray, List.set_cons_zero, List.set_cons_succ])
        refine wpAnyH_ready (rs := [5]) (by kernel_rfl) (by simp) ?_
        refine AllReadyH.cons rfl (fun K9 hK => ?_) (AllReadyH.nil)
        rw [if_pos (by rfl)]
        go_wp2_with fail
        refine (HOF.out _ A (HBE.out ▸ (Below.trans HS.out.bel (Below.mono hHeld HS.out.sz)))).mono ?_
        rintro _ v9 hn9
        have hb9x := Below.trans hHeld (Below.mono hn9.bel (Below.size hHeld))
        obtain ⟨xp, xc, rfl, hs9⟩ := NumP.row (HS.out.up hHeld) hn9
        have S9 := Lib.hid hs9
        clear hn9 hs9
        refine hK.out _ _ hb9x (fun hHeld2 => ?_)
        clear hb9x
        clear hHeld hK
        have hHeld := hHeld2
        clear hHeld2
        (try simp only [Act.put, List.getElem_toArray, List.getElem_cons_zero, List.getElem_cons_succ, List.setIfInBounds_toArray, List.set_cons_zero, List.set_cons_succ])
        refine wpAnyH_take (i := 6) (v := (.tuple #[.slice xp (ofL g A).length xc, .int .i64 (askV g A g.t)])) rfl (by kernel_rfl) (by kernel_rfl) (by kernel_rfl) (fun _ _ _ h => h) (Or.inl ⟨by rfl, by (intro w hSw; (try dsimp only at hSw); go_simp)⟩) hHeld ?_
        (try simp only [Act.put, List.getElem_toArray, List.getElem_cons_zero, List.getElem_cons_succ, List.setIfInBounds_toArray, List.set_cons_zero, List.set_cons_succ])
        refine wpAnyH_take (i := 7) (v := (.slice xp (ofL g A).length xc)) rfl (by kernel_rfl) (by kernel_rfl) (by kernel_rfl) (fun _ _ _ h => h) (Or.inl ⟨by rfl, by (intro w hSw; (try dsimp only at hSw); go_simp)⟩) hHeld ?_
        (try simp only [Act.put, List.getElem_toArray, List.getElem_cons_zero, List.getElem_cons_succ, List.setIfInBounds_toArray, List.set_cons_zero, List.set_cons_succ])
        refine wpAnyH_take (i := 8) (v := (.int .i64 (askV g A g.t))) rfl (by kernel_rfl) (by kernel_rfl) (by kernel_rfl) (fun _ _ _ h => h) (Or.inl ⟨by rfl, by (intro w hSw; (try dsimp only at hSw); go_simp)⟩) hHeld ?_
        (try simp only [Act.put, List.getElem_toArray, List.getElem_cons_zero, List.getElem_cons_succ, List.setIfInBounds_toArray, List.set_cons_zero, List.set_cons_succ])
        refine wpAnyH_take (i := 9) (v := (.slice xp (ofL g A).length xc)) rfl (by kernel_rfl) (by kernel_rfl) (by kernel_rfl) (fun _ _ _ h => h) (Or.inl ⟨by rfl, by (intro w hSw; (try dsimp only at hSw); go_simp)⟩) hHeld ?_
        (try simp only [Act.put, List.getElem_toArray, List.getElem_cons_zero, List.getElem_cons_succ, List.setIfInBounds_toArray, List.set_cons_zero, List.set_cons_succ])
        refine wpAnyH_take (i := 10) (v := (.int .i64 (askV g A g.t))) rfl (by kernel_rfl) (by kernel_rfl) (by kernel_rfl) (fun _ _ _ h => h) (Or.inl ⟨by rfl, by (intro w hSw; (try dsimp only at hSw); go_simp)⟩) hHeld ?_
        (try simp only [Act.put, List.getElem_toArray, List.getElem_cons_zero, List.getElem_cons_succ, List.setIfInBounds_toArray, List.set_cons_zero, List.set_cons_succ])
        refine wpAnyH_done (by kernel_rfl) ?_ _
        have HUP := Lib.hid (show Below wc.heap.size wc v9 from hHeld)
        clear hHeld K0 K1 K2 K3 HB1Y HS0
        have cra := cell_up HCA.out HUP.out HCAB.out
        have j0 := (S9.out.tl.tl.boxAt 0).trans rfl
        clear k0 k1 k2 k3
        by_cases hterm : A < g.t
        · go_wp2_with fail
          go_quiet (fail)
          refine at_worldQ (fun z => Sep b1 w z [rI (.slice (some ⟨gr, 0, none⟩) nr cv) row, .box b1 (.cells #[.int .i64 g.t, .int .i64 g.s, .int .i64 g.st, .slice p g.ps.length c] 24 (0, 0))]) (S9.out.tl.drewN _) fun z hz => ?_
          have SZ := Lib.hid hz
          clear hz
          go_wp2_with fail
          go_roundw
          case rel => exact ⟨i + 2, row, _, cv, by go_num, by rw [HNR.out], by omega, by rw [HNR.out]; omega, HR, Lib.hid (by rw [HNR.out]; exact SZ.out)⟩
          case measure => simp [intOf]; omega
        · have hask := ask_of HOKG.out (s := A) (f := g.t) (by omega) hsm.2
          have hofl : ofL g A = idK A g.ps g.ps.length := by unfold ofL; rw [if_pos hask]
          have hPpos := id_ne HOKG.out (by omega : g.t ≤ A) hsm.2
          have hPm : ∀ x ∈ idK A g.ps g.ps.length, ∃ n : Nat, (n : Int) = x ∧ ∃ hn : n < g.ps.length, g.ps[n].hd = A := fun x hx => by
            obtain ⟨n, h1, h2, h3⟩ := mem_id.1 hx
            refine ⟨n, h1, h2, ?_⟩
            rw [List.getElem?_eq_getElem h2, Option.map_some, Option.some.injEq] at h3
            exact h3
          have hPl := idK_len A g.ps g.ps.length
          rw [hask]
          obtain ⟨P, hP⟩ : ∃ P, ofL g A = P := ⟨_, rfl⟩
          rw [← hofl, hP] at hPpos hPm hPl
          rw [hP] at S9 ⊢
          have HPM := Lib.hid hPm
          obtain ⟨nP, hnP⟩ : ∃ n, P.length = n := ⟨_, rfl⟩
          have HNP := Lib.hid hnP
          rw [hnP] at hPpos hPl S9 ⊢
          clear hask hofl hPm hP hnP
          have hnP0 : ((nP : Int) == 0) = false := by rw [beq_eq_false_iff_ne]; omega
          have hnPI : ¬ (nP : Int) = 0 := by omega
          go_wp2_with fail
          go_quiet (fail)
          refine at_worldQ (fun z => Sep b1 w z [rI (.slice xp nP xc) P, rI (.slice (some ⟨gr, 0, none⟩) nr cv) row, .box b1 (.cells #[.int .i64 g.t, .int .i64 g.s, .int .i64 g.st, .slice p g.ps.length c] 24 (0, 0))]) (S9.out.drewN _) fun z hz => ?_
          have SZ := Lib.hid hz
          clear hz S9 cra j0
          have ck2 := cell_up HCK2.out SZ.out.bel HBK.out
          have hm1 := Int.lt_tmod_of_pos v2 (by omega : (0 : Int) < (nP : Int))
          have hm2 := Int.tmod_lt_of_pos v2 (by omega : (0 : Int) < (nP : Int))
          have q1J : (i : Int) + 1 < (nK : Int) := by omega
          go_upto_if 95 with fail
          generalize v2.tmod (nP : Int) = m2 at hm1 hm2 ⊢
          go_cut [10] from 34 to 136 (fun s7 wx => ∃ n : Nat, s7 = .int .i64 (n : Nat) ∧ n < nP ∧ wx = z)
          case first =>
            by_cases hneg : m2 < 0
            · go_wp2_with fail
              go_meet
              case rel => exact ⟨(m2 + nP).toNat, by congr 1; omega, by omega, rfl⟩
            · go_wp2_with fail
              go_meet
              case rel => exact ⟨m2.toNat, by congr 1; omega, by omega, rfl⟩
          obtain ⟨n, rfl, hn9, hwx⟩ := hcut
          subst hwx
          clear hm1 hm2 ck2
          have hnP2 : n < P.length := by rw [HNP.out]; exact hn9
          obtain ⟨m, hm, hml, hmh⟩ := HPM.out P[n] (List.getElem_mem hnP2)
          have hPn : P[n]? = some (m : Int) := by rw [List.getElem?_eq_getElem hnP2, hm]
          obtain ⟨gp, cgp, hgp, _, _⟩ := own_at (SZ.out.li (rI (.slice xp nP xc) P) (by simp)) (by rw [HNP.out]; omega)
          injection hgp with e1 e2 e3
          subst e1
          have cpn := SZ.out.cellI (g := gp) (n := nP) (c := xc) (l := P) (by simp) hPn
          have HPN := Lib.hid hPn
          obtain ⟨bb, o, q, d, hpb, hbb, c0, c1, c2, hiv, hbdl, hmem⟩ := HG.out.at hml
          have hbbb : bb < b1 := by rw [← HBE.out]; exact hbb
          subst hpb
          obtain ⟨x, hxx⟩ : ∃ x, g.ps[m] = x := ⟨_, rfl⟩
          rw [hxx] at c1 hiv hbdl hmem hmh
          have hlg := HOKG.out.lg x hmem
          have HSTEP : Hid (RowOk g (row.take at_ ++ x.bd ++ row.drop (at_ + 1))) := Lib.hid (RowOk.step HOKG.out (by rw [hmh, ← HSP.out]; exact HR.out) hmem)
          have HIVB := Lib.hid (fun (y : World) (hy : Below w.heap.size w y) => hiv.mono (E := fun b => b < w.heap.size) (fun b h => HG.out.lt b h) (fun b hb _ => hy.block b (HG.out.lt b hb)))
          have HC1 := Lib.hid c1
          have HBBB := Lib.hid hbbb
          have k3 := (SZ.out.tl.tl.boxAt 3).trans rfl
          have hmI : ¬ (m : Int) < 0 := by omega
          have hmI2 : ¬ (g.ps.length : Int) ≤ (m : Int) := by omega
          have hmI3 : (m : Int) < (g.ps.length : Int) := by omega
          have hnI : (n : Int) < (nP : Int) := by omega
          have hn0 : ¬ (n : Int) < 0 := by omega
          have hcapr : nr ≤ cv := SZ.out.capI (l := row) (n := nr) (c := cv) (p := some ⟨gr, 0, none⟩) (by simp) (by rw [HNR.out]; omega)
          clear c0 c1 c2 hiv hbdl hxx hm hPn e2 e3 hnP2 hmh hbb hmem hbbb
          go_wp2_with fail
          go_quiet (fail)
          refine at_worldQ (fun y => Sep b1 w y [rI (.slice (some ⟨gp, 0, none⟩) nP xc) P, rI (.slice (some ⟨gr, 0, none⟩) nr cv) row, .box b1 (.cells #[.int .i64 g.t, .int .i64 g.s, .int .i64 g.st, .slice (some ⟨bb, o, none⟩) g.ps.length c] 24 (0, 0))]) (SZ.out.drewN _) fun y hy => ?_
          have SY := Lib.hid hy
          clear hy SZ k3 cpn
          obtain ⟨be, hbe⟩ : ∃ b, y.heap.size = b := ⟨_, rfl⟩
          have SE : Hid (Sep b1 w _ [rI (.slice (some ⟨be, 0, none⟩) (0 : Nat) 0) [], rI (.slice (some ⟨gp, 0, none⟩) nP xc) P, rI (.slice (some ⟨gr, 0, none⟩) nr cv) row, .box b1 (.cells #[.int .i64 g.t, .int .i64 g.s, .int .i64 g.st, .slice (some ⟨bb, o, none⟩) g.ps.length c] 24 (0, 0))]) := Lib.hid (Sep.empty (e := 3) (size := 1) (SY.out.allocAt hbe (.cells #[] 3)))
          have hatc : ¬ (cv : Int) < (at_ : Int) := by omega
          have hatc2 : (at_ : Int) ≤ (cv : Int) := by omega
          have hat0 : (0 : Int) ≤ (at_ : Int) := by omega
          have htk : (row.take at_).length = at_ := by rw [List.length_take, HNR.out]; omega
          have HTK := Lib.hid htk
          have hdr : (row.drop (at_ + 1)).length = nr - (at_ + 1) := by rw [List.length_drop, HNR.out]
          have HDR := Lib.hid hdr
          clear htk hdr
          go_upto_region 19 with fail
          go_wp2_with (at_builtin; refine wpList_app rfl (.tmp 115) (.tmp 118) rfl [] (l := row.take at_) (A := []) rfl rfl SE.out HTK.out.symm ((SE.out.iv (p := some ⟨gr, 0, none⟩) (n := nr) (c := cv) (l := row) (by simp)).take at_ cv) (by rw [HTK.out]; simp; omega) ?_)
          intro R1 hR1 p2 c2 w4 hs4
          have S1 : Hid (Sep b1 w w4 [rI (.slice p2 R1.length c2) R1, rI (.slice (some ⟨gp, 0, none⟩) nP xc) P, rI (.slice (some ⟨gr, 0, none⟩) nr cv) row, .box b1 (.cells #[.int .i64 g.t, .int .i64 g.s, .int .i64 g.st, .slice (some ⟨bb, o, none⟩) g.ps.length c] 24 (0, 0))]) := Lib.hid hs4
          have HR1 : Hid (R1 = row.take at_) := Lib.hid (by rw [hR1.out])
          have hR1l : R1.length = at_ := by rw [HR1.out, HTK.out]
          have HR1L := Lib.hid hR1l
          clear hs4 SE hR1 hR1l hbe
          have k3 := (S1.out.tl.tl.tl.boxAt 3).trans rfl
          go_upto_region 20 with fail
          have HS0 : Hid ((fun v => Sep b1 w v [rI (.slice (some ⟨gp, 0, none⟩) nP xc) P, rI (.slice (some ⟨gr, 0, none⟩) nr cv) row, .box b1 (.cells #[.int .i64 g.t, .int .i64 g.s, .int .i64 g.st, .slice (some ⟨bb, o, none⟩) g.ps.length c] 24 (0, 0))]) w4.drew) := Lib.hid (S1.out.tl.drewN 1)
          refine wp_region_held_drew (S := fun v => Sep b1 w v [rI (.slice (some ⟨gp, 0, none⟩) nP xc) P, rI (.slice (some ⟨gr, 0, none⟩) nr cv) row, .box b1 (.cells #[.int .i64 g.t, .int .i64 g.s, .int .i64 g.st, .slice (some ⟨bb, o, none⟩) g.ps.length c] 24 (0, 0))]) (by kernel_rfl) HS0.out (fun hHeld => ?_)
          refine wpAnyH_take (i := 0) (v := (.slice p2 R1.length c2)) rfl (by kernel_rfl) (by kernel_rfl) (by kernel_rfl) (fun _ _ _ h => h) (Or.inl ⟨by rfl, by (intro w hSw; (try dsimp only at hSw); go_simp)⟩) hHeld ?_
          (try simp only [Act.put, List.getElem_toArray, List.getElem_cons_zero, List.getElem_cons_succ, List.setIfInBounds_toArray, List.set_cons_zero, List.set_cons_succ])
          refine wpAnyH_take (i := 1) (v := (.pointer (some ⟨b1, 3, none⟩))) rfl (by kernel_rfl) (by kernel_rfl) (by kernel_rfl) (fun _ _ _ h => h) (Or.inl ⟨by rfl, by (intro w hSw; (try dsimp only at hSw); go_simp)⟩) hHeld ?_
          (try simp only [Act.put, List.getElem_toArray, List.getElem_cons_zero, List.getElem_cons_succ, List.setIfInBounds_toArray, List.set_cons_zero, List.set_cons_succ])
          refine wpAnyH_take (i := 2) (v := (.slice (some ⟨bb, o, none⟩) g.ps.length c)) rfl (by kernel_rfl) (by kernel_rfl) (by kernel_rfl) (fun _ _ _ h => h) (Or.inl ⟨by rfl, by (intro w9 hSw; (try dsimp only at hSw); have c9_ := (hSw.tl.tl.boxAt 3).trans rfl; go_simp)⟩) hHeld ?_
          (try simp only [Act.put, List.getElem_toArray, List.getElem_cons_zero, List.getElem_cons_succ, List.setIfInBounds_toArray, List.set_cons_zero, List.set_cons_succ])
          refine wpAnyH_take (i := 3) (v := (.slice (some ⟨gp, 0, none⟩) nP xc)) rfl (by kernel_rfl) (by kernel_rfl) (by kernel_rfl) (fun _ _ _ h => h) (Or.inl ⟨by rfl, by (intro w hSw; (try dsimp only at hSw); go_simp)⟩) hHeld ?_
          (try simp only [Act.put, List.getElem_toArray, List.getElem_cons_zero, List.getElem_cons_succ, List.setIfInBounds_toArray, List.set_cons_zero, List.set_cons_succ])
          refine wpAnyH_take (i := 4) (v := (.int .i64 (n : Nat))) rfl (by kernel_rfl) (by kernel_rfl) (by kernel_rfl) (fun _ _ _ h => h) (Or.inl ⟨by rfl, by (intro w hSw; (try dsimp only at hSw); go_simp)⟩) hHeld ?_
          (try simp only [Act.put, List.getElem_toArray, List.getElem_cons_zero, List.getElem_cons_succ, List.setIfInBounds_toArray, List.set_cons_zero, List.set_cons_succ])
          refine wpAnyH_take (i := 5) (v := (.pointer (some ⟨gp, n, none⟩))) rfl (by kernel_rfl) (by kernel_rfl) (by kernel_rfl) (fun _ _ _ h => h) (Or.inl ⟨by rfl, by (intro w hSw; (try dsimp only at hSw); go_simp)⟩) hHeld ?_
          (try simp only [Act.put, List.getElem_toArray, List.getElem_cons_zero, List.getElem_cons_succ, List.setIfInBounds_toArray, List.set_cons_zero, List.set_cons_succ])
          refine wpAnyH_take (i := 6) (v := (.int .i64 (m : Nat))) rfl (by kernel_rfl) (by kernel_rfl) (by kernel_rfl) (fun _ _ _ h => h) (Or.inl ⟨by rfl, by (intro w9 hSw; (try dsimp only at hSw); have c9_ := hSw.cellI (g := gp) (n := nP) (c := xc) (l := P) (by simp) HPN.out; go_simp)⟩) hHeld ?_
          (try simp only [Act.put, List.getElem_toArray, List.getElem_cons_zero, List.getElem_cons_succ, List.setIfInBounds_toArray, List.set_cons_zero, List.set_cons_succ])
          refine wpAnyH_take (i := 7) (v := (.pointer (some ⟨bb, o + m * 3, none⟩))) rfl (by kernel_rfl) (by kernel_rfl) (by kernel_rfl) (fun _ _ _ h => h) (Or.inl ⟨by rfl, by (intro w hSw; (try dsimp only at hSw); go_simp)⟩) hHeld ?_
          (try simp only [Act.put, List.getElem_toArray, List.getElem_cons_zero, List.getElem_cons_succ, List.setIfInBounds_toArray, List.set_cons_zero, List.set_cons_succ])
          refine wpAnyH_take (i := 8) (v := (.pointer (some ⟨bb, o + m * 3 + 1, none⟩))) rfl (by kernel_rfl) (by kernel_rfl) (by kernel_rfl) (fun _ _ _ h => h) (Or.inl ⟨by rfl, by (intro w hSw; (try dsimp only at hSw); go_simp)⟩) hHeld ?_
          (try simp only [Act.put, List.getElem_toArray, List.getElem_cons_zero, List.getElem_cons_succ, List.setIfInBounds_toArray, List.set_cons_zero, List.set_cons_succ])
          refine wpAnyH_take (i := 9) (v := (.slice q x.bd.length d)) rfl (by kernel_rfl) (by kernel_rfl) (by kernel_rfl) (fun _ _ _ h => h) (Or.inl ⟨by rfl, by (intro w9 hSw; (try dsimp only at hSw); have c9_ := cell_up HC1.out hSw.bel HBBB.out; go_simp)⟩) hHeld ?_
          (try simp only [Act.put, List.getElem_toArray, List.getElem_cons_zero, List.getElem_cons_succ, List.setIfInBounds_toArray, List.set_cons_zero, List.set_cons_succ])
          refine wpAnyH_ready (rs := [10]) (by kernel_rfl) (by simp) ?_
          refine AllReadyH.cons rfl (fun K9 hK => ?_) (AllReadyH.nil)
          rw [if_pos (by rfl)]
          refine wp_app (.tmp 120) (.tmp 129) rfl [] (l := x.bd) (A := R1) rfl rfl (S1.out.drewN 1) rfl (HIVB.out _ (HBE.out ▸ (S1.out.drewN 1).bel)) (by rw [HR1L.out]; omega) ?_
          intro R2 hR2 p3 c3 w5 hs5
          have S2 : Hid (Sep b1 w w5 [rI (.slice p3 R2.length c3) R2, rI (.slice (some ⟨gp, 0, none⟩) nP xc) P, rI (.slice (some ⟨gr, 0, none⟩) nr cv) row, .box b1 (.cells #[.int .i64 g.t, .int .i64 g.s, .int .i64 g.st, .slice (some ⟨bb, o, none⟩) g.ps.length c] 24 (0, 0))]) := Lib.hid hs5
          clear hs5
          refine hK.out _ _ S2.out.tl (fun hHeld2 => ?_)
          clear hHeld hK
          have hHeld := hHeld2
          clear hHeld2
          (try simp only [Act.put, List.getElem_toArray, List.getElem_cons_zero, List.getElem_cons_succ, List.setIfInBounds_toArray, List.set_cons_zero, List.set_cons_succ])
          refine wpAnyH_take (i := 11) (v := (.slice p3 R2.length c3)) rfl (by kernel_rfl) (by kernel_rfl) (by kernel_rfl) (fun _ _ _ h => h) (Or.inl ⟨by rfl, by (intro w hSw; (try dsimp only at hSw); go_simp)⟩) hHeld ?_
          (try simp only [Act.put, List.getElem_toArray, List.getElem_cons_zero, List.getElem_cons_succ, List.setIfInBounds_toArray, List.set_cons_zero, List.set_cons_succ])
          refine wpAnyH_done (by kernel_rfl) ?_ _
          rw [HR1.out] at hR2
          have hR2l : R2.length = at_ + x.bd.length := by rw [hR2.out, List.length_append, HTK.out]
          have HR2L := Lib.hid hR2l
          have HR2 := Lib.hid hR2.out
          clear hR2l hR2 S1 HR1 HR1L HTK hHeld k3
          have stop : ∀ p : Prop, (True → p) → p := fun _ h => h trivial
          go_wp2_with (at_builtin; refine stop _ ?_)
          · intro _
            have hivx : IV (fun b => b < w5.heap.size) w5 (row.drop (at_ + 1)) (.slice (some ⟨gr, 0, none⟩) (row.drop (at_ + 1)).length 0) := by
              have e : row.drop (at_ + 1) = [] := List.drop_eq_nil_of_le (by rw [HNR.out]; omega)
              exact ⟨some ⟨gr, 0, none⟩, 0, rfl, fun hn => absurd e hn⟩
            refine wpList_app rfl (.tmp 131) (.tmp 135) rfl [] (l := row.drop (at_ + 1)) (A := R2) rfl rfl S2.out (D := fun b => b < w5.heap.size) HDR.out.symm hivx (by rw [HDR.out, HR2L.out]; omega) ?_
            intro R3 hR3 p4 c4 w6 hs6
            have S3 : Hid (Sep b1 w w6 [rI (.slice p4 R3.length c4) R3, .box b1 (.cells #[.int .i64 g.t, .int .i64 g.s, .int .i64 g.st, .slice (some ⟨bb, o, none⟩) g.ps.length c] 24 (0, 0))]) := Lib.hid hs6.swap.tl.swap.tl
            rw [HR2.out] at hR3
            have hR3l : R3.length = at_ + x.bd.length + (nr - (at_ + 1)) := by rw [hR3.out, List.length_append, HDR.out, ← HR2.out, HR2L.out]
            rw [← hR3.out] at HSTEP
            clear hs6 hivx stop h
            go_wp2_with fail
            go_roundw
            case rel => exact ⟨i + 2, R3, p4, c4, by go_num, by rw [hR3l], by omega, by omega, HSTEP, S3⟩
            case measure => simp [intOf]; omega
          · intro _
            have hivx : IV (fun b => b < w5.heap.size) w5 (row.drop (at_ + 1)) (.slice (some ⟨gr, at_ + 1, none⟩) (row.drop (at_ + 1)).length (cv - (at_ + 1))) := by
              have h2 := iv_drop (S2.out.iv (p := some ⟨gr, 0, none⟩) (n := nr) (c := cv) (l := row) (by simp)) (at_ + 1) (cv - (at_ + 1))
              rw [Nat.zero_add] at h2
              exact h2
            refine wpList_app rfl (.tmp 131) (.tmp 135) rfl [] (l := row.drop (at_ + 1)) (A := R2) rfl rfl S2.out (D := fun b => b < w5.heap.size) HDR.out.symm hivx (by rw [HDR.out, HR2L.out]; omega) ?_
            intro R3 hR3 p4 c4 w6 hs6
            have S3 : Hid (Sep b1 w w6 [rI (.slice p4 R3.length c4) R3, .box b1 (.cells #[.int .i64 g.t, .int .i64 g.s, .int .i64 g.st, .slice (some ⟨bb, o, none⟩) g.ps.length c] 24 (0, 0))]) := Lib.hid hs6.swap.tl.swap.tl
            rw [HR2.out] at hR3
            have hR3l : R3.length = at_ + x.bd.length + (nr - (at_ + 1)) := by rw [hR3.out, List.length_append, HDR.out, ← HR2.out, HR2L.out]
            rw [← hR3.out] at HSTEP
            clear hs6 hivx stop h
            go_wp2_with fail
            go_roundw
            case rel => exact ⟨i + 2, R3, p4, c4, by go_num, by rw [hR3l], by omega, by omega, HSTEP, S3⟩
            case measure => simp [intOf]; omega
      · rw [decide_eq_false hgo]
        clear hgo
        obtain ⟨nr1, rfl⟩ : ∃ k, nr = k + 1 := ⟨nr - 1, by omega⟩
        have hst1 := HOKG.out.nm.st1
        have hst2 := HOKG.out.nm.st2
        have ht1 := HOKG.out.nm.t1
        have hin1 := row_in1 HOKG.out HR.out
        have hin2 := row_in2 HOKG.out HR.out
        have HIN3 := Lib.hid (fun (i : Nat) (hi : i + 1 < row.length) => row_in3 HOKG.out HR.out hi)
        have hx1 := HR.out.sm _ (hd_mem HR.out.ne)
        have hy1 := HR.out.sm _ (last_mem HR.out.ne)
        have HSM := Lib.hid HR.out.sm
        have hask1 := ask_of HOKG.out (s := g.st) (f := 0) (by omega) hst2
        have hask2 := ask_of HOKG.out (f := 0) hx1.1 hx1.2
        have hask3 := ask_of HOKG.out (f := 0) hy1.1 hy1.2
        have hl0 : 0 < row.length := by rw [HNR.out]; omega
        have hX0 : row[0]? = some (row.headD 0) := by rw [List.getElem?_eq_getElem hl0, hd_get hl0]
        have hY0 : row[nr1]? = some (row.getLastD 0) := by
          rw [List.getLastD_eq_getLast?, List.getLast?_eq_getElem?, show row.length - 1 = nr1 by rw [HNR.out]; rfl, List.getElem?_eq_getElem (by rw [HNR.out]; omega)]
          rfl
        generalize row.headD 0 = X at *
        generalize row.getLastD 0 = Y at *
        have HX0 := Lib.hid hX0
        have HY0 := Lib.hid hY0
        have HASK2 := Lib.hid hask2
        have HASK3 := Lib.hid hask3
        obtain ⟨gr, cgr, hgr, _, _⟩ := own_at (HS.out.li (rI (.slice pv (nr1 + 1) cv) row) (by simp)) (by rw [HNR.out]; omega)
        injection hgr with e1 e2 e3
        subst e1
        have H1 := Lib.hid (HFI.out wc g.st (HBE.out ▸ HS.out.bel))
        rw [hask1] at H1
        have hF1 := fir_len g g.st
        have hF2 := fir_len g X
        have hF3 := fol_len g Y
        obtain ⟨F, hF⟩ : ∃ F, firL g g.st = F := ⟨_, rfl⟩
        rw [hF] at H1 hin1 hF1
        have HIN1 := Lib.hid hin1
        have HIN2 := Lib.hid hin2
        have k0 := (HS.out.tl.boxAt 0).trans rfl
        have k1 := (HS.out.tl.boxAt 1).trans rfl
        have k2 := (HS.out.tl.boxAt 2).trans rfl
        have k3 := (HS.out.tl.boxAt 3).trans rfl
        clear hask1 hask2 hask3 hX0 hY0 hl0 hx1 hy1 hF e2 e3 hin1 hin2 hst1 hst2 HOF HR
        go_wp2_with fail
        refine H1.out.mono ?_
        rintro _ y5 hn5
        obtain ⟨pF, cF, rfl, hs5⟩ := NumP.row HS.out hn5
        have S5 := Lib.hid hs5
        obtain ⟨nF, hnF⟩ : ∃ n, F.length = n := ⟨_, rfl⟩
        have HNF := Lib.hid hnF
        rw [hnF] at S5 hF1 ⊢
        clear hn5 hs5 k0 k1 k2 k3 H1 HS hnF
        have k0 := (S5.out.tl.tl.boxAt 0).trans rfl
        have k1 := (S5.out.tl.tl.boxAt 1).trans rfl
        have k2 := (S5.out.tl.tl.boxAt 2).trans rfl
        have k3 := (S5.out.tl.tl.boxAt 3).trans rfl
        have cra := S5.out.cellI (g := gr) (n := nr1 + 1) (c := cv) (l := row) (by simp) HX0.out
        go_upto_region 23 with fail
        have HB1Y := Lib.hid (blk_lt k0)
        have K0 := Lib.hid k0
        have K1 := Lib.hid k1
        have K2 := Lib.hid k2
        have K3 := Lib.hid k3
        have HS0 : Hid ((fun v => Below y5.heap.size y5 v) y5.drew) := Lib.hid (below_drewN (Below.refl _ _) 1)
        have HCA := Lib.hid cra
        have HCAB := Lib.hid (blk_lt cra)
        refine wp_region_held_drew (S := fun v => Below y5.heap.size y5 v) (by kernel_rfl) HS0.out (fun hHeld => ?_)
        refine wpAnyH_take (i := 0) (v := (.agg #[.int .i64 g.t, .int .i64 g.s, .int .i64 g.st, .slice p g.ps.length c])) rfl (by kernel_rfl) (by kernel_rfl) (by kernel_rfl) (fun _ _ _ h => h) (Or.inl ⟨by rfl, by (intro w9 hSw; (try dsimp only at hSw); have c0_ := cell_up K0.out hSw HB1Y.out; have c1_ := cell_up K1.out hSw HB1Y.out; have c2_ := cell_up K2.out hSw HB1Y.out; have c3_ := cell_up K3.out hSw HB1Y.out; go_simp)⟩) hHeld ?_
        (try simp only [Act.put, List.getElem_toArray, List.getElem_cons_zero, List.getElem_cons_succ, List.setIfInBounds_toArray, List.set_cons_zero, List.set_cons_succ])
        refine wpAnyH_take (i := 1) (v := (.slice (some ⟨gr, 0, none⟩) (nr1 + 1) cv)) rfl (by kernel_rfl) (by kernel_rfl) (by kernel_rfl) (fun _ _ _ h => h) (Or.inl ⟨by rfl, by (intro w hSw; (try dsimp only at hSw); go_simp)⟩) hHeld ?_
        (try simp only [Act.put, List.getElem_toArray, List.getElem_cons_zero, List.getElem_cons_succ, List.setIfInBounds_toArray, List.set_cons_zero, List.set_cons_succ])
        refine wpAnyH_take (i := 2) (v := (.pointer (some ⟨gr, 0, none⟩))) rfl (by kernel_rfl) (by kernel_rfl) (by kernel_rfl) (fun _ _ _ h => h) (Or.inl ⟨by rfl, by (intro w hSw; (try dsimp only at hSw); go_simp)⟩) hHeld ?_
        (try simp only [Act.put, List.getElem_toArray, List.getElem_cons_zero, List.getElem_cons_succ, List.setIfInBounds_toArray, List.set_cons_zero, List.set_cons_succ])
        refine wpAnyH_take (i := 3) (v := (.int .i64 X)) rfl (by kernel_rfl) (by kernel_rfl) (by kernel_rfl) (fun _ _ _ h => h) (Or.inl ⟨by rfl, by (intro w9 hSw; (try dsimp only at hSw); have c9_ := cell_up HCA.out hSw HCAB.out; go_simp)⟩) hHeld ?_
        (try simp only [Act.put, List.getElem_toArray, List.getElem_cons_zero, List.getElem_cons_succ, List.setIfInBounds_toArray, List.set_cons_zero, List.set_cons_succ])
        refine wpAnyH_ready (rs := [4]) (by kernel_rfl) (by simp) ?_
        refine AllReadyH.cons rfl (fun K9 hK => ?_) (AllReadyH.nil)
        rw [if_pos (by rfl)]
        go_wp2_with fail
        refine (HFI.out _ X (HBE.out ▸ (Below.trans S5.out.bel (Below.mono hHeld S5.out.sz)))).mono ?_
        rintro _ v9 hn9
        have hb9x := Below.trans hHeld (Below.mono hn9.bel (Below.size hHeld))
        obtain ⟨xp, xc, rfl, hs9⟩ := NumP.row (S5.out.up hHeld) hn9
        have S9 := Lib.hid hs9
        clear hn9 hs9
        refine hK.out _ _ hb9x (fun hHeld2 => ?_)
        clear hb9x
        clear hHeld hK
        have hHeld := hHeld2
        clear hHeld2
        (try simp only [Act.put, List.getElem_toArray, List.getElem_cons_zero, List.getElem_cons_succ, List.setIfInBounds_toArray, List.set_cons_zero, List.set_cons_succ])
        refine wpAnyH_take (i := 5) (v := (.tuple #[.slice xp (firL g X).length xc, .int .i64 (askV g X 0)])) rfl (by kernel_rfl) (by kernel_rfl) (by kernel_rfl) (fun _ _ _ h => h) (Or.inl ⟨by rfl, by (intro w hSw; (try dsimp only at hSw); go_simp)⟩) hHeld ?_
        (try simp only [Act.put, List.getElem_toArray, List.getElem_cons_zero, List.getElem_cons_succ, List.setIfInBounds_toArray, List.set_cons_zero, List.set_cons_succ])
        refine wpAnyH_take (i := 6) (v := (.slice xp (firL g X).length xc)) rfl (by kernel_rfl) (by kernel_rfl) (by kernel_rfl) (fun _ _ _ h => h) (Or.inl ⟨by rfl, by (intro w hSw; (try dsimp only at hSw); go_simp)⟩) hHeld ?_
        (try simp only [Act.put, List.getElem_toArray, List.getElem_cons_zero, List.getElem_cons_succ, List.setIfInBounds_toArray, List.set_cons_zero, List.set_cons_succ])
        refine wpAnyH_take (i := 7) (v := (.int .i64 (askV g X 0))) rfl (by kernel_rfl) (by kernel_rfl) (by kernel_rfl) (fun _ _ _ h => h) (Or.inl ⟨by rfl, by (intro w hSw; (try dsimp only at hSw); go_simp)⟩) hHeld ?_
        (try simp only [Act.put, List.getElem_toArray, List.getElem_cons_zero, List.getElem_cons_succ, List.setIfInBounds_toArray, List.set_cons_zero, List.set_cons_succ])
        refine wpAnyH_take (i := 8) (v := (.slice xp (firL g X).length xc)) rfl (by kernel_rfl) (by kernel_rfl) (by kernel_rfl) (fun _ _ _ h => h) (Or.inl ⟨by rfl, by (intro w hSw; (try dsimp only at hSw); go_simp)⟩) hHeld ?_
        (try simp only [Act.put, List.getElem_toArray, List.getElem_cons_zero, List.getElem_cons_succ, List.setIfInBounds_toArray, List.set_cons_zero, List.set_cons_succ])
        refine wpAnyH_take (i := 9) (v := (.int .i64 (askV g X 0))) rfl (by kernel_rfl) (by kernel_rfl) (by kernel_rfl) (fun _ _ _ h => h) (Or.inl ⟨by rfl, by (intro w hSw; (try dsimp only at hSw); go_simp)⟩) hHeld ?_
        (try simp only [Act.put, List.getElem_toArray, List.getElem_cons_zero, List.getElem_cons_succ, List.setIfInBounds_toArray, List.set_cons_zero, List.set_cons_succ])
        refine wpAnyH_done (by kernel_rfl) ?_ _
        clear hHeld k0 k1 k2 k3 cra HCA HCAB K0 K1 K2 K3 HB1Y HS0 S5
        rw [HASK2.out]
        obtain ⟨A1, hA1⟩ : ∃ A1, firL g X = A1 := ⟨_, rfl⟩
        obtain ⟨n1, hn1⟩ : ∃ n, A1.length = n := ⟨_, rfl⟩
        have HN1 := Lib.hid hn1
        rw [hA1] at S9 HIN1 hF2 ⊢
        rw [hn1] at S9 hF2 ⊢
        obtain ⟨y6, hy6⟩ : ∃ y, v9 = y := ⟨_, rfl⟩
        rw [hy6] at S9 ⊢
        have S6 := Lib.hid S9.out
        clear S9 hA1 hn1 hy6 HASK2
        have k0 := (S6.out.tl.tl.tl.boxAt 0).trans rfl
        have k1 := (S6.out.tl.tl.tl.boxAt 1).trans rfl
        have k2 := (S6.out.tl.tl.tl.boxAt 2).trans rfl
        have k3 := (S6.out.tl.tl.tl.boxAt 3).trans rfl
        have cra := S6.out.cellI (g := gr) (n := nr1 + 1) (c := cv) (l := row) (by simp) HY0.out
        go_upto_region 24 with fail
        have HB1Y := Lib.hid (blk_lt k0)
        have K0 := Lib.hid k0
        have K1 := Lib.hid k1
        have K2 := Lib.hid k2
        have K3 := Lib.hid k3
        have HS0 : Hid ((fun v => Below y6.heap.size y6 v) y6.drew) := Lib.hid (below_drewN (Below.refl _ _) 1)
        have HCA := Lib.hid cra
        have HCAB := Lib.hid (blk_lt cra)
        refine wp_region_held_drew (S := fun v => Below y6.heap.size y6 v) (by kernel_rfl) HS0.out (fun hHeld => ?_)
        refine wpAnyH_take (i := 0) (v := (.agg #[.int .i64 g.t, .int .i64 g.s, .int .i64 g.st, .slice p g.ps.length c])) rfl (by kernel_rfl) (by kernel_rfl) (by kernel_rfl) (fun _ _ _ h => h) (Or.inl ⟨by rfl, by (intro w9 hSw; (try dsimp only at hSw); have c0_ := cell_up K0.out hSw HB1Y.out; have c1_ := cell_up K1.out hSw HB1Y.out; have c2_ := cell_up K2.out hSw HB1Y.out; have c3_ := cell_up K3.out hSw HB1Y.out; go_simp)⟩) hHeld ?_
        (try simp only [Act.put, List.getElem_toArray, List.getElem_cons_zero, List.getElem_cons_succ, List.setIfInBounds_toArray, List.set_cons_zero, List.set_cons_succ])
        refine wpAnyH_take (i := 1) (v := (.slice (some ⟨gr, 0, none⟩) (nr1 + 1) cv)) rfl (by kernel_rfl) (by kernel_rfl) (by kernel_rfl) (fun _ _ _ h => h) (Or.inl ⟨by rfl, by (intro w hSw; (try dsimp only at hSw); go_simp)⟩) hHeld ?_
        (try simp only [Act.put, List.getElem_toArray, List.getElem_cons_zero, List.getElem_cons_succ, List.setIfInBounds_toArray, List.set_cons_zero, List.set_cons_succ])
        refine wpAnyH_take (i := 2) (v := (.slice (some ⟨gr, 0, none⟩) (nr1 + 1) cv)) rfl (by kernel_rfl) (by kernel_rfl) (by kernel_rfl) (fun _ _ _ h => h) (Or.inl ⟨by rfl, by (intro w hSw; (try dsimp only at hSw); go_simp)⟩) hHeld ?_
        (try simp only [Act.put, List.getElem_toArray, List.getElem_cons_zero, List.getElem_cons_succ, List.setIfInBounds_toArray, List.set_cons_zero, List.set_cons_succ])
        refine wpAnyH_take (i := 3) (v := (.int .i64 ((nr1 + 1 : Nat) : Int))) rfl (by kernel_rfl) (by kernel_rfl) (by kernel_rfl) (fun _ _ _ h => h) (Or.inl ⟨by rfl, by (intro w hSw; (try dsimp only at hSw); go_simp)⟩) hHeld ?_
        (try simp only [Act.put, List.getElem_toArray, List.getElem_cons_zero, List.getElem_cons_succ, List.setIfInBounds_toArray, List.set_cons_zero, List.set_cons_succ])
        refine wpAnyH_take (i := 4) (v := (.int .i64 (nr1 : Nat))) rfl (by kernel_rfl) (by kernel_rfl) (by kernel_rfl) (fun _ _ _ h => h) (Or.inl ⟨by rfl, by (intro w9 hSw; (try dsimp only at hSw); go_simp; exact IntWalk.i64_in _ (by omega))⟩) hHeld ?_
        (try simp only [Act.put, List.getElem_toArray, List.getElem_cons_zero, List.getElem_cons_succ, List.setIfInBounds_toArray, List.set_cons_zero, List.set_cons_succ])
        refine wpAnyH_take (i := 5) (v := (.pointer (some ⟨gr, nr1, none⟩))) rfl (by kernel_rfl) (by kernel_rfl) (by kernel_rfl) (fun _ _ _ h => h) (Or.inl ⟨by rfl, by (intro w9 hSw; (try dsimp only at hSw); go_simp <;> (intro h_; exfalso; omega))⟩) hHeld ?_
        (try simp only [Act.put, List.getElem_toArray, List.getElem_cons_zero, List.getElem_cons_succ, List.setIfInBounds_toArray, List.set_cons_zero, List.set_cons_succ])
        refine wpAnyH_take (i := 6) (v := (.int .i64 Y)) rfl (by kernel_rfl) (by kernel_rfl) (by kernel_rfl) (fun _ _ _ h => h) (Or.inl ⟨by rfl, by (intro w9 hSw; (try dsimp only at hSw); have c9_ := cell_up HCA.out hSw HCAB.out; go_simp)⟩) hHeld ?_
        (try simp only [Act.put, List.getElem_toArray, List.getElem_cons_zero, List.getElem_cons_succ, List.setIfInBounds_toArray, List.set_cons_zero, List.set_cons_succ])
        refine wpAnyH_ready (rs := [7]) (by kernel_rfl) (by simp) ?_
        refine AllReadyH.cons rfl (fun K9 hK => ?_) (AllReadyH.nil)
        rw [if_pos (by rfl)]
        go_wp2_with fail
        refine (HFO.out _ Y (HBE.out ▸ (Below.trans S6.out.bel (Below.mono hHeld S6.out.sz)))).mono ?_
        rintro _ v9 hn9
        have hb9x := Below.trans hHeld (Below.mono hn9.bel (Below.size hHeld))
        obtain ⟨zp, zc, rfl, hs9⟩ := NumP.row (S6.out.up hHeld) hn9
        have S9 := Lib.hid hs9
        clear hn9 hs9
        refine hK.out _ _ hb9x (fun hHeld2 => ?_)
        clear hb9x
        clear hHeld hK
        have hHeld := hHeld2
        clear hHeld2
        (try simp only [Act.put, List.getElem_toArray, List.getElem_cons_zero, List.getElem_cons_succ, List.setIfInBounds_toArray, List.set_cons_zero, List.set_cons_succ])
        refine wpAnyH_take (i := 8) (v := (.tuple #[.slice zp (folL g Y).length zc, .int .i64 (askV g Y 0)])) rfl (by kernel_rfl) (by kernel_rfl) (by kernel_rfl) (fun _ _ _ h => h) (Or.inl ⟨by rfl, by (intro w hSw; (try dsimp only at hSw); go_simp)⟩) hHeld ?_
        (try simp only [Act.put, List.getElem_toArray, List.getElem_cons_zero, List.getElem_cons_succ, List.setIfInBounds_toArray, List.set_cons_zero, List.set_cons_succ])
        refine wpAnyH_take (i := 9) (v := (.slice zp (folL g Y).length zc)) rfl (by kernel_rfl) (by kernel_rfl) (by kernel_rfl) (fun _ _ _ h => h) (Or.inl ⟨by rfl, by (intro w hSw; (try dsimp only at hSw); go_simp)⟩) hHeld ?_
        (try simp only [Act.put, List.getElem_toArray, List.getElem_cons_zero, List.getElem_cons_succ, List.setIfInBounds_toArray, List.set_cons_zero, List.set_cons_succ])
        refine wpAnyH_take (i := 10) (v := (.int .i64 (askV g Y 0))) rfl (by kernel_rfl) (by kernel_rfl) (by kernel_rfl) (fun _ _ _ h => h) (Or.inl ⟨by rfl, by (intro w hSw; (try dsimp only at hSw); go_simp)⟩) hHeld ?_
        (try simp only [Act.put, List.getElem_toArray, List.getElem_cons_zero, List.getElem_cons_succ, List.setIfInBounds_toArray, List.set_cons_zero, List.set_cons_succ])
        refine wpAnyH_take (i := 11) (v := (.slice zp (folL g Y).length zc)) rfl (by kernel_rfl) (by kernel_rfl) (by kernel_rfl) (fun _ _ _ h => h) (Or.inl ⟨by rfl, by (intro w hSw; (try dsimp only at hSw); go_simp)⟩) hHeld ?_
        (try simp only [Act.put, List.getElem_toArray, List.getElem_cons_zero, List.getElem_cons_succ, List.setIfInBounds_toArray, List.set_cons_zero, List.set_cons_succ])
        refine wpAnyH_take (i := 12) (v := (.int .i64 (askV g Y 0))) rfl (by kernel_rfl) (by kernel_rfl) (by kernel_rfl) (fun _ _ _ h => h) (Or.inl ⟨by rfl, by (intro w hSw; (try dsimp only at hSw); go_simp)⟩) hHeld ?_
        (try simp only [Act.put, List.getElem_toArray, List.getElem_cons_zero, List.getElem_cons_succ, List.setIfInBounds_toArray, List.set_cons_zero, List.set_cons_succ])
        refine wpAnyH_done (by kernel_rfl) ?_ _
        clear hHeld k0 k1 k2 k3 cra HCA HCAB K0 K1 K2 K3 HB1Y HS0 S6
        rw [HASK3.out]
        obtain ⟨A2, hA2⟩ : ∃ A2, folL g Y = A2 := ⟨_, rfl⟩
        obtain ⟨n2, hn2⟩ : ∃ n, A2.length = n := ⟨_, rfl⟩
        have HN2 := Lib.hid hn2
        rw [hA2] at S9 HIN2 hF3 ⊢
        rw [hn2] at S9 hF3 ⊢
        clear hA2 hn2 HASK3
        obtain ⟨y7, hy7⟩ : ∃ y, v9 = y := ⟨_, rfl⟩
        rw [hy7] at S9 ⊢
        have S7 := Lib.hid S9.out
        clear S9 hy7
        have HW1 := Lib.hid (within_any (a := A1) (b := F) (w := y7) (pa := xp) (ca := xc) (pb := pF) (cb := cF) (by rw [HN1.out]; omega) (by rw [HNF.out]; omega) (fun b h => h) (fun b h => h) (S7.out.iv (n := n1) (by simp)) (S7.out.iv (n := nF) (by simp)))
        rw [HIN1.out, HN1.out, HNF.out] at HW1
        go_wp2_with fail
        refine HW1.out.mono ?_
        rintro _ y8 ⟨rfl, hb8⟩
        have S8 := Lib.hid (S7.out.up hb8)
        clear hb8 HW1 S7
        obtain ⟨bt, hbt⟩ : ∃ b, y8.heap.size = b := ⟨_, rfl⟩
        have SB : Hid (Sep b1 w (y8.alloc (.cells #[.int .i64 g.t] 3)) [rI (.slice (some ⟨bt, 0, none⟩) ([g.t] : List Int).length 1) [g.t], rI (.slice zp n2 zc) A2, rI (.slice xp n1 xc) A1, rI (.slice pF nF cF) F, rI (.slice (some ⟨gr, 0, none⟩) (nr1 + 1) cv) row, .box b1 (.cells #[.int .i64 g.t, .int .i64 g.s, .int .i64 g.st, .slice p g.ps.length c] 24 (0, 0))]) := Lib.hid ((S8.out.allocAt hbt (.cells #[.int .i64 g.t] 3)).full (n := 1) (size := 1) rfl (by decide))
        have HW2 := Lib.hid (within_any (a := [g.t]) (b := A2) (w := y8.alloc (.cells #[.int .i64 g.t] 3)) (pa := some ⟨bt, 0, none⟩) (ca := 1) (pb := zp) (cb := zc) (by simp) (by rw [HN2.out]; omega) (fun b h => h) (fun b h => h) (SB.out.iv (n := 1) (by simp)) (SB.out.iv (n := n2) (by simp)))
        rw [HIN2.out, HN2.out] at HW2
        have k0 := (S8.out.tl.tl.tl.tl.boxAt 0).trans rfl
        go_wp2_with fail
        refine HW2.out.mono ?_
        rintro _ y9 ⟨rfl, hb9⟩
        have S9 := Lib.hid ((SB.out.up hb9).tl.tl.tl.tl)
        clear hb9 HW2 SB S8 hbt k0 HIN1 HIN2 HX0 HY0
        clear hF1 hF2 hF3 HN1 HN2 HNF
        go_wp2_with fail
        go_loopw [18] (fun sv wr => ∃ j : Nat, sv = .int .i64 (j : Nat) ∧ j ≤ nr1 ∧ Hid (Sep b1 w wr [rI (.slice (some ⟨gr, 0, none⟩) (nr1 + 1) cv) row, .box b1 (.cells #[.int .i64 g.t, .int .i64 g.s, .int .i64 g.st, .slice p g.ps.length c] 24 (0, 0))])) (fun sv _ => nr1 - (intOf sv).toNat)
        case atStart => exact ⟨0, rfl, by omega, S9⟩
        case round =>
        clear S9
        obtain ⟨j, rfl, hj9, SI⟩ := hrel
        obtain ⟨y1, rfl⟩ : ∃ wo : World, wo = wr := ⟨_, rfl⟩
        by_cases hlj : j < nr1
        · have hljI : (j : Int) + 1 < (nr1 : Int) + 1 := by omega
          have hljI2 : (j : Int) < (nr1 : Int) + 1 := by omega
          have hjr : j + 1 < row.length := by rw [HNR.out]; omega
          have hx1 := HSM.out _ (List.getElem_mem hjr)
          have hy1 := HSM.out _ (List.getElem_mem (by omega : j < row.length))
          have hX0 : row[j + 1]? = some row[j + 1] := List.getElem?_eq_getElem hjr
          have hY0 : row[j]? = some row[j] := List.getElem?_eq_getElem (by omega)
          have hin3 := HIN3.out j hjr
          have hask2 := ask_of HOKG.out (f := 0) hx1.1 hx1.2
          have hask3 := ask_of HOKG.out (f := 0) hy1.1 hy1.2
          generalize row[j + 1] = X at *
          generalize row[j] = Y at *
          have HX0 := Lib.hid hX0
          have HY0 := Lib.hid hY0
          have HASK2 := Lib.hid hask2
          have HASK3 := Lib.hid hask3
          have hF2 := fir_len g X
          have hF3 := fol_len g Y
          have HINL := Lib.hid hin3.1
          have HINP := Lib.hid hin3.2
          clear hask2 hask3 hX0 hY0 hx1 hy1 hin3 hjr
          have k0 := (SI.out.tl.boxAt 0).trans rfl
          have k1 := (SI.out.tl.boxAt 1).trans rfl
          have k2 := (SI.out.tl.boxAt 2).trans rfl
          have k3 := (SI.out.tl.boxAt 3).trans rfl
          have cra := SI.out.cellI (g := gr) (n := nr1 + 1) (c := cv) (l := row) (by simp) HX0.out
          go_upto_region 30 with fail
          have HB1Y := Lib.hid (blk_lt k0)
          have K0 := Lib.hid k0
          have K1 := Lib.hid k1
          have K2 := Lib.hid k2
          have K3 := Lib.hid k3
          have HS0 : Hid ((fun v => Below y1.heap.size y1 v) y1.drew) := Lib.hid (below_drewN (Below.refl _ _) 1)
          have HCA := Lib.hid cra
          have HCAB := Lib.hid (blk_lt cra)
          refine wp_region_held_drew (S := fun v => Below y1.heap.size y1 v) (by kernel_rfl) HS0.out (fun hHeld => ?_)
          refine wpAnyH_take (i := 0) (v := (.agg #[.int .i64 g.t, .int .i64 g.s, .int .i64 g.st, .slice p g.ps.length c])) rfl (by kernel_rfl) (by kernel_rfl) (by kernel_rfl) (fun _ _ _ h => h) (Or.inl ⟨by rfl, by (intro w9 hSw; (try dsimp only at hSw); have c0_ := cell_up K0.out hSw HB1Y.out; have c1_ := cell_up K1.out hSw HB1Y.out; have c2_ := cell_up K2.out hSw HB1Y.out; have c3_ := cell_up K3.out hSw HB1Y.out; go_simp)⟩) hHeld ?_
          (try simp only [Act.put, List.getElem_toArray, List.getElem_cons_zero, List.getElem_cons_succ, List.setIfInBounds_toArray, List.set_cons_zero, List.set_cons_succ])
          refine wpAnyH_take (i := 1) (v := (.slice (some ⟨gr, 0, none⟩) (nr1 + 1) cv)) rfl (by kernel_rfl) (by kernel_rfl) (by kernel_rfl) (fun _ _ _ h => h) (Or.inl ⟨by rfl, by (intro w hSw; (try dsimp only at hSw); go_simp)⟩) hHeld ?_
          (try simp only [Act.put, List.getElem_toArray, List.getElem_cons_zero, List.getElem_cons_succ, List.setIfInBounds_toArray, List.set_cons_zero, List.set_cons_succ])
          refine wpAnyH_take (i := 2) (v := (.int .i64 (j : Nat))) rfl (by kernel_rfl) (by kernel_rfl) (by kernel_rfl) (fun _ _ _ h => h) (Or.inl ⟨by rfl, by (intro w hSw; (try dsimp only at hSw); go_simp)⟩) hHeld ?_
          (try simp only [Act.put, List.getElem_toArray, List.getElem_cons_zero, List.getElem_cons_succ, List.setIfInBounds_toArray, List.set_cons_zero, List.set_cons_succ])
          refine wpAnyH_take (i := 3) (v := (.int .i64 ((j + 1 : Nat) : Int))) rfl (by kernel_rfl) (by kernel_rfl) (by kernel_rfl) (fun _ _ _ h => h) (Or.inl ⟨by rfl, by (intro w9 hSw; (try dsimp only at hSw); go_simp; (try push_cast); exact IntWalk.i64_in _ (by omega))⟩) hHeld ?_
          (try simp only [Act.put, List.getElem_toArray, List.getElem_cons_zero, List.getElem_cons_succ, List.setIfInBounds_toArray, List.set_cons_zero, List.set_cons_succ])
          refine wpAnyH_take (i := 4) (v := (.pointer (some ⟨gr, j + 1, none⟩))) rfl (by kernel_rfl) (by kernel_rfl) (by kernel_rfl) (fun _ _ _ h => h) (Or.inl ⟨by rfl, by (intro w9 hSw; (try dsimp only at hSw); go_simp <;> (intro h_; exfalso; omega))⟩) hHeld ?_
          (try simp only [Act.put, List.getElem_toArray, List.getElem_cons_zero, List.getElem_cons_succ, List.setIfInBounds_toArray, List.set_cons_zero, List.set_cons_succ])
          refine wpAnyH_take (i := 5) (v := (.int .i64 X)) rfl (by kernel_rfl) (by kernel_rfl) (by kernel_rfl) (fun _ _ _ h => h) (Or.inl ⟨by rfl, by (intro w9 hSw; (try dsimp only at hSw); have c9_ := cell_up HCA.out hSw HCAB.out; go_simp)⟩) hHeld ?_
          (try simp only [Act.put, List.getElem_toArray, List.getElem_cons_zero, List.getElem_cons_succ, List.setIfInBounds_toArray, List.set_cons_zero, List.set_cons_succ])
          refine wpAnyH_ready (rs := [6]) (by kernel_rfl) (by simp) ?_
          refine AllReadyH.cons rfl (fun K9 hK => ?_) (AllReadyH.nil)
          rw [if_pos (by rfl)]
          go_wp2_with fail
          refine (HFI.out _ X (HBE.out ▸ (Below.trans SI.out.bel (Below.mono hHeld SI.out.sz)))).mono ?_
          rintro _ v9 hn9
          have hb9x := Below.trans hHeld (Below.mono hn9.bel (Below.size hHeld))
          obtain ⟨xp, xc, rfl, hs9⟩ := NumP.row (SI.out.up hHeld) hn9
          have S9 := Lib.hid hs9
          clear hn9 hs9
          refine hK.out _ _ hb9x (fun hHeld2 => ?_)
          clear hb9x
          clear hHeld hK
          have hHeld := hHeld2
          clear hHeld2
          (try simp only [Act.put, List.getElem_toArray, List.getElem_cons_zero, List.getElem_cons_succ, List.setIfInBounds_toArray, List.set_cons_zero, List.set_cons_succ])
          refine wpAnyH_take (i := 7) (v := (.tuple #[.slice xp (firL g X).length xc, .int .i64 (askV g X 0)])) rfl (by kernel_rfl) (by kernel_rfl) (by kernel_rfl) (fun _ _ _ h => h) (Or.inl ⟨by rfl, by (intro w hSw; (try dsimp only at hSw); go_simp)⟩) hHeld ?_
          (try simp only [Act.put, List.getElem_toArray, List.getElem_cons_zero, List.getElem_cons_succ, List.setIfInBounds_toArray, List.set_cons_zero, List.set_cons_succ])
          refine wpAnyH_take (i := 8) (v := (.slice xp (firL g X).length xc)) rfl (by kernel_rfl) (by kernel_rfl) (by kernel_rfl) (fun _ _ _ h => h) (Or.inl ⟨by rfl, by (intro w hSw; (try dsimp only at hSw); go_simp)⟩) hHeld ?_
          (try simp only [Act.put, List.getElem_toArray, List.getElem_cons_zero, List.getElem_cons_succ, List.setIfInBounds_toArray, List.set_cons_zero, List.set_cons_succ])
          refine wpAnyH_take (i := 9) (v := (.int .i64 (askV g X 0))) rfl (by kernel_rfl) (by kernel_rfl) (by kernel_rfl) (fun _ _ _ h => h) (Or.inl ⟨by rfl, by (intro w hSw; (try dsimp only at hSw); go_simp)⟩) hHeld ?_
          (try simp only [Act.put, List.getElem_toArray, List.getElem_cons_zero, List.getElem_cons_succ, List.setIfInBounds_toArray, List.set_cons_zero, List.set_cons_succ])
          refine wpAnyH_take (i := 10) (v := (.slice xp (firL g X).length xc)) rfl (by kernel_rfl) (by kernel_rfl) (by kernel_rfl) (fun _ _ _ h => h) (Or.inl ⟨by rfl, by (intro w hSw; (try dsimp only at hSw); go_simp)⟩) hHeld ?_
          (try simp only [Act.put, List.getElem_toArray, List.getElem_cons_zero, List.getElem_cons_succ, List.setIfInBounds_toArray, List.set_cons_zero, List.set_cons_succ])
          refine wpAnyH_take (i := 11) (v := (.int .i64 (askV g X 0))) rfl (by kernel_rfl) (by kernel_rfl) (by kernel_rfl) (fun _ _ _ h => h) (Or.inl ⟨by rfl, by (intro w hSw; (try dsimp only at hSw); go_simp)⟩) hHeld ?_
          (try simp only [Act.put, List.getElem_toArray, List.getElem_cons_zero, List.getElem_cons_succ, List.setIfInBounds_toArray, List.set_cons_zero, List.set_cons_succ])
          refine wpAnyH_done (by kernel_rfl) ?_ _
          clear hHeld k0 k1 k2 k3 cra HCA HCAB K0 K1 K2 K3 HB1Y HS0 SI
          rw [HASK2.out]
          obtain ⟨A1, hA1⟩ : ∃ A1, firL g X = A1 := ⟨_, rfl⟩
          obtain ⟨n1, hn1⟩ : ∃ n, A1.length = n := ⟨_, rfl⟩
          have HN1 := Lib.hid hn1
          rw [hA1] at S9 HINL HINP hF2 ⊢
          rw [hn1] at S9 hF2 HINP ⊢
          obtain ⟨y2, hy2⟩ : ∃ y, v9 = y := ⟨_, rfl⟩
          rw [hy2] at S9 ⊢
          have S2 := Lib.hid S9.out
          clear S9 hA1 hn1 hy2 HASK2
          have k0 := (S2.out.tl.tl.boxAt 0).trans rfl
          have k1 := (S2.out.tl.tl.boxAt 1).trans rfl
          have k2 := (S2.out.tl.tl.boxAt 2).trans rfl
          have k3 := (S2.out.tl.tl.boxAt 3).trans rfl
          have cra := S2.out.cellI (g := gr) (n := nr1 + 1) (c := cv) (l := row) (by simp) HY0.out
          go_upto_region 31 with fail
          have HB1Y := Lib.hid (blk_lt k0)
          have K0 := Lib.hid k0
          have K1 := Lib.hid k1
          have K2 := Lib.hid k2
          have K3 := Lib.hid k3
          have HS0 : Hid ((fun v => Below y2.heap.size y2 v) y2.drew) := Lib.hid (below_drewN (Below.refl _ _) 1)
          have HCA := Lib.hid cra
          have HCAB := Lib.hid (blk_lt cra)
          refine wp_region_held_drew (S := fun v => Below y2.heap.size y2 v) (by kernel_rfl) HS0.out (fun hHeld => ?_)
          refine wpAnyH_take (i := 0) (v := (.agg #[.int .i64 g.t, .int .i64 g.s, .int .i64 g.st, .slice p g.ps.length c])) rfl (by kernel_rfl) (by kernel_rfl) (by kernel_rfl) (fun _ _ _ h => h) (Or.inl ⟨by rfl, by (intro w9 hSw; (try dsimp only at hSw); have c0_ := cell_up K0.out hSw HB1Y.out; have c1_ := cell_up K1.out hSw HB1Y.out; have c2_ := cell_up K2.out hSw HB1Y.out; have c3_ := cell_up K3.out hSw HB1Y.out; go_simp)⟩) hHeld ?_
          (try simp only [Act.put, List.getElem_toArray, List.getElem_cons_zero, List.getElem_cons_succ, List.setIfInBounds_toArray, List.set_cons_zero, List.set_cons_succ])
          refine wpAnyH_take (i := 1) (v := (.slice (some ⟨gr, 0, none⟩) (nr1 + 1) cv)) rfl (by kernel_rfl) (by kernel_rfl) (by kernel_rfl) (fun _ _ _ h => h) (Or.inl ⟨by rfl, by (intro w hSw; (try dsimp only at hSw); go_simp)⟩) hHeld ?_
          (try simp only [Act.put, List.getElem_toArray, List.getElem_cons_zero, List.getElem_cons_succ, List.setIfInBounds_toArray, List.set_cons_zero, List.set_cons_succ])
          refine wpAnyH_take (i := 2) (v := (.int .i64 (j : Nat))) rfl (by kernel_rfl) (by kernel_rfl) (by kernel_rfl) (fun _ _ _ h => h) (Or.inl ⟨by rfl, by (intro w hSw; (try dsimp only at hSw); go_simp)⟩) hHeld ?_
          (try simp only [Act.put, List.getElem_toArray, List.getElem_cons_zero, List.getElem_cons_succ, List.setIfInBounds_toArray, List.set_cons_zero, List.set_cons_succ])
          refine wpAnyH_take (i := 3) (v := (.pointer (some ⟨gr, j, none⟩))) rfl (by kernel_rfl) (by kernel_rfl) (by kernel_rfl) (fun _ _ _ h => h) (Or.inl ⟨by rfl, by (intro w9 hSw; (try dsimp only at hSw); go_simp <;> (intro h_; exfalso; omega))⟩) hHeld ?_
          (try simp only [Act.put, List.getElem_toArray, List.getElem_cons_zero, List.getElem_cons_succ, List.setIfInBounds_toArray, List.set_cons_zero, List.set_cons_succ])
          refine wpAnyH_take (i := 4) (v := (.int .i64 Y)) rfl (by kernel_rfl) (by kernel_rfl) (by kernel_rfl) (fun _ _ _ h => h) (Or.inl ⟨by rfl, by (intro w9 hSw; (try dsimp only at hSw); have c9_ := cell_up HCA.out hSw HCAB.out; go_simp)⟩) hHeld ?_
          (try simp only [Act.put, List.getElem_toArray, List.getElem_cons_zero, List.getElem_cons_succ, List.setIfInBounds_toArray, List.set_cons_zero, List.set_cons_succ])
          refine wpAnyH_ready (rs := [5]) (by kernel_rfl) (by simp) ?_
          refine AllReadyH.cons rfl (fun K9 hK => ?_) (AllReadyH.nil)
          rw [if_pos (by rfl)]
          go_wp2_with fail
          refine (HFO.out _ Y (HBE.out ▸ (Below.trans S2.out.bel (Below.mono hHeld S2.out.sz)))).mono ?_
          rintro _ v9 hn9
          have hb9x := Below.trans hHeld (Below.mono hn9.bel (Below.size hHeld))
          obtain ⟨zp, zc, rfl, hs9⟩ := NumP.row (S2.out.up hHeld) hn9
          have S9 := Lib.hid hs9
          clear hn9 hs9
          refine hK.out _ _ hb9x (fun hHeld2 => ?_)
          clear hb9x
          clear hHeld hK
          have hHeld := hHeld2
          clear hHeld2
          (try simp only [Act.put, List.getElem_toArray, List.getElem_cons_zero, List.getElem_cons_succ, List.setIfInBounds_toArray, List.set_cons_zero, List.set_cons_succ])
          refine wpAnyH_take (i := 6) (v := (.tuple #[.slice zp (folL g Y).length zc, .int .i64 (askV g Y 0)])) rfl (by kernel_rfl) (by kernel_rfl) (by kernel_rfl) (fun _ _ _ h => h) (Or.inl ⟨by rfl, by (intro w hSw; (try dsimp only at hSw); go_simp)⟩) hHeld ?_
          (try simp only [Act.put, List.getElem_toArray, List.getElem_cons_zero, List.getElem_cons_succ, List.setIfInBounds_toArray, List.set_cons_zero, List.set_cons_succ])
          refine wpAnyH_take (i := 7) (v := (.slice zp (folL g Y).length zc)) rfl (by kernel_rfl) (by kernel_rfl) (by kernel_rfl) (fun _ _ _ h => h) (Or.inl ⟨by rfl, by (intro w hSw; (try dsimp only at hSw); go_simp)⟩) hHeld ?_
          (try simp only [Act.put, List.getElem_toArray, List.getElem_cons_zero, List.getElem_cons_succ, List.setIfInBounds_toArray, List.set_cons_zero, List.set_cons_succ])
          refine wpAnyH_take (i := 8) (v := (.int .i64 (askV g Y 0))) rfl (by kernel_rfl) (by kernel_rfl) (by kernel_rfl) (fun _ _ _ h => h) (Or.inl ⟨by rfl, by (intro w hSw; (try dsimp only at hSw); go_simp)⟩) hHeld ?_
          (try simp only [Act.put, List.getElem_toArray, List.getElem_cons_zero, List.getElem_cons_succ, List.setIfInBounds_toArray, List.set_cons_zero, List.set_cons_succ])
          refine wpAnyH_take (i := 9) (v := (.slice zp (folL g Y).length zc)) rfl (by kernel_rfl) (by kernel_rfl) (by kernel_rfl) (fun _ _ _ h => h) (Or.inl ⟨by rfl, by (intro w hSw; (try dsimp only at hSw); go_simp)⟩) hHeld ?_
          (try simp only [Act.put, List.getElem_toArray, List.getElem_cons_zero, List.getElem_cons_succ, List.setIfInBounds_toArray, List.set_cons_zero, List.set_cons_succ])
          refine wpAnyH_take (i := 10) (v := (.int .i64 (askV g Y 0))) rfl (by kernel_rfl) (by kernel_rfl) (by kernel_rfl) (fun _ _ _ h => h) (Or.inl ⟨by rfl, by (intro w hSw; (try dsimp only at hSw); go_simp)⟩) hHeld ?_
          (try simp only [Act.put, List.getElem_toArray, List.getElem_cons_zero, List.getElem_cons_succ, List.setIfInBounds_toArray, List.set_cons_zero, List.set_cons_succ])
          refine wpAnyH_done (by kernel_rfl) ?_ _
          clear hHeld k0 k1 k2 k3 cra HCA HCAB K0 K1 K2 K3 HB1Y HS0 S2
          rw [HASK3.out]
          obtain ⟨A2, hA2⟩ : ∃ A2, folL g Y = A2 := ⟨_, rfl⟩
          obtain ⟨n2, hn2⟩ : ∃ n, A2.length = n := ⟨_, rfl⟩
          have HN2 := Lib.hid hn2
          rw [hA2] at S9 HINL hF3 ⊢
          rw [hn2] at S9 hF3 ⊢
          obtain ⟨y7, hy7⟩ : ∃ y, v9 = y := ⟨_, rfl⟩
          rw [hy7] at S9 ⊢
          have S7 := Lib.hid S9.out
          clear S9 hA2 hn2 HASK3 hy7
          have HW1 := Lib.hid (within_any (a := A1) (b := A2) (w := y7) (pa := xp) (ca := xc) (pb := zp) (cb := zc) (by rw [HN1.out]; omega) (by rw [HN2.out]; omega) (fun b h => h) (fun b h => h) (S7.out.iv (n := n1) (by simp)) (S7.out.iv (n := n2) (by simp)))
          rw [HINL.out, HN1.out, HN2.out] at HW1
          have hn10 : ((n1 : Int) == 0) = false := by rw [beq_eq_false_iff_ne]; have := HINP.out; omega
          go_wp2_with fail
          refine HW1.out.mono ?_
          rintro _ y8 ⟨rfl, hb8⟩
          have S8 := Lib.hid ((S7.out.up hb8).tl.tl)
          clear hb8 HW1 S7
          go_wp2_with fail
          go_roundw
          case rel => exact ⟨j + 1, by go_num, by omega, S8⟩
          case measure => simp [intOf]; omega
        · obtain rfl : j = nr1 := by omega
          have HB0 := Lib.hid SI.out
          have hljI : ¬ (j : Int) + 1 < (j : Int) + 1 := by omega
          clear hlj
          go_wp2_with fail
          refine (HAL.out _).mono ?_
          rintro _ y4 ⟨rfl, hb4⟩
          have HB := Lib.hid (HB0.out.up hb4).bel
          clear hb4
          go_wp2_with fail
          go_ret
          exact ⟨rfl, by rw [HBE.out]; exact HB.out⟩
    · have hEI : (E != 0) = true := by rw [bne_iff_ne]; exact hE
      clear hE
      go_wp2_with fail
      refine (HAL.out _).mono ?_
      rintro _ y4 ⟨rfl, hb4⟩
      have HB := Lib.hid (S3.out.up hb4).bel
      clear hb4
      go_wp2_with fail
      go_ret
      exact ⟨rfl, by rw [HBE.out]; exact HB.out⟩
end Go.Proofs.Ytpmkdpjcpimhkaa
