/- Package grams. -/
import Derived.Test.YtpmkdpjcpimhkaaProg
import Derived.Test.YtpmkdpjcpimhkaaHe
import Derived.Deep.SlicePairs
import Derived.Deep.Slices
import Derived.Laws.IdiomArrays
import Derived.OpenShut
import Derived.WideBlind
import Derived.Great.BuildSlice
import Derived.WalkKit
import Derived.Maps.OwnSet
import Derived.Maps.OwnOps
import Derived.Maps.Own
import Derived.DeepKeys5
import Derived.BigFrame
import Derived.WalkMore
import Derived.ScopeJumps
import Derived.StillTailTactics
import Derived.Stop.BytesEq
import Derived.WalkLawsBesides
import Derived.WalkSpells
import Derived.Outline
import Derived.Lib.Walk
import Derived.Lib.Hide
import Derived.Lib.Slices
import Derived.Lib.Strings
import Derived.RegionTactic
import Derived.LoopTactic
import Derived.Below
import Derived.IntWalk
import Derived.Deep.QuietTactic
import Derived.BigQuiet
import Derived.Deep.MidRow
import Derived.Maps.AppendAt
import Derived.Laws.Rows
import Derived.Laws.Tables
import Derived.Deep.WholeRow
import Derived.Deep.Cut
import Derived.Deep.CutRange
import Derived.Lib.SliceRun
import Derived.Laws.MakeOwn
import Derived.Deep.RegionLaw
import Derived.Deep.RegionLawGrows
import Derived.Deep.RegionHeld3
import Derived.RegionCalls
import Derived.Deep.RegionWith
import Derived.Deep.Light
import Derived.Laws.CopyOwn
import Derived.Laws.ResultCell
namespace Go.Proofs.Ytpmkdpjcpimhkaa
set_option linter.unusedSimpArgs false
set_option linter.unusedVariables false
set_option maxRecDepth 100000
open Go.RowKit
/- numbersMayBe. -/
noncomputable def nmB (g : Gr) : Bool := @decide (NumOk g) (Classical.propDecidable _)
theorem nmB_f {g : Gr} (h : ¬ NumOk g) : nmB g = false := @decide_eq_false _ (Classical.propDecidable _) h
theorem nmB_t {g : Gr} (h : NumOk g) : nmB g = true := @decide_eq_true _ (Classical.propDecidable _) h
def prB (t s : Int) (p : Pr) : Bool := (decide (t ≤ p.hd) && decide (p.hd < s)) && !(p.bd.any fun x => !(decide (0 ≤ x) && decide (x < s)))
theorem prB_iff (t s : Int) (p : Pr) : prB t s p = true ↔ (t ≤ p.hd ∧ p.hd < s) ∧ ∀ x ∈ p.bd, 0 ≤ x ∧ x < s := by
  unfold prB
  simp
theorem all_take' {α : Type} (p : α → Bool) (l : List α) (j : Nat) (h : j < l.length) : (l.take (j + 1)).all p = ((l.take j).all p && p l[j]) := by
  rw [List.take_add_one, List.getElem?_eq_getElem h, List.all_append]; simp
theorem all_no' {α : Type} {p : α → Bool} {l : List α} {j : Nat} (h : j < l.length) (hp : p l[j] = false) : l.all p = false := by
  rw [List.all_eq_false]; exact ⟨l[j], List.getElem_mem h, by simp [hp]⟩
def GB (w : World) (b : Nat) (g : Gr) (p : Option Addr) (c : Nat) : Prop := w.heap[b]? = some (.cells (gC g p c) 24 (0, 0))
theorem GB.up {B : Nat} {w w' : World} {b : Nat} {g : Gr} {p : Option Addr} {c : Nat} (h : GB w b g p c) (hb : Below B w w') (hlt : b < B) : GB w' b g p c := (hb.block b hlt).trans h
theorem GB.new {w : World} {g : Gr} {p : Option Addr} {c : Nat} : GB (w.alloc (.cells (gC g p c) 24)) w.heap.size g p c := heap_alloc_last w _
theorem cell_up {B b o : Nat} {w w' : World} {v : Value} (h : w.cell? ⟨b, o, none⟩ = some v) (hb : Below B w w') (hlt : b < B) : w'.cell? ⟨b, o, none⟩ = some v := (cell_same (hb.block b hlt) o).trans h
set_option maxHeartbeats 8000000 in
theorem numbers_any {D : Nat → Prop} {w : World} {g : Gr} {p : Option Addr} {c : Nat} (hg : GM D w g.ps p) :
    Calls Try.prog 28 #[.agg #[.int .i64 g.t, .int .i64 g.s, .int .i64 g.st, .slice p g.ps.length c]] w fun e w' => e = .returned (.bool (nmB g)) ∧ Below w.heap.size w w' := by
  have HG := Lib.hid hg
  have hnl := hg.nl
  have hz := zero38
  have hnot : ∀ (x : Bool) (w : World), (Op.unary .not (.bool x)).run Try.prog w = .ok (.bool (!x)) w := fun _ _ => rfl
  have HI := Lib.hid isFrom_any
  have S0 : Hid (Below w.heap.size w (w.alloc (.cells (gC g p c) 24))) := Lib.hid ((Below.refl w.heap.size w).alloc (Nat.le_refl _) _)
  obtain ⟨k0, k1, k2, k3⟩ := gC_at (GB.new (w := w) (g := g) (p := p) (c := c))
  obtain ⟨t, ht⟩ : ∃ t, g.t = t := ⟨_, rfl⟩
  obtain ⟨s, hs⟩ : ∃ s, g.s = s := ⟨_, rfl⟩
  obtain ⟨st, hst⟩ : ∃ st, g.st = st := ⟨_, rfl⟩
  obtain ⟨l, hl⟩ : ∃ l, g.ps = l := ⟨_, rfl⟩
  have HT := Lib.hid ht
  have HS := Lib.hid hs
  have HST := Lib.hid hst
  have HL := Lib.hid hl
  have hgc : gC g p c = #[.int .i64 t, .int .i64 s, .int .i64 st, .slice p l.length c] := by unfold gC; rw [ht, hs, hst, hl]
  rw [ht] at k0 ⊢
  rw [hs] at k1 ⊢
  rw [hst] at k2 ⊢
  rw [hl] at k3 hnl HG ⊢
  rw [hgc] at S0 k0 k1 k2 k3
  clear ht hs hst hl hg hgc
  obtain ⟨R, hR⟩ : ∃ R, nmB g = R := ⟨_, rfl⟩
  have HR := Lib.hid hR
  rw [hR]
  clear hR
  by_cases h1 : 1 ≤ t ∧ t < 33
  · have e1 : (decide ((1 : Int) ≤ t) && decide (t < 33)) = true := by simp [h1]
    have E1 := Lib.hid e1
    have hw1 : wrap64 (t + 1) = t + 1 := by unfold wrap64; omega
    clear e1
    by_cases h2 : t + 1 ≤ s ∧ s < 65
    · have e2 : (decide (t + 1 ≤ s) && decide (s < 65)) = true := by simp [h2]
      have E2 := Lib.hid e2
      clear e2
      by_cases h3 : (1 : Int) ≤ (l.length : Int) ∧ (l.length : Int) < 65
      · have e3 : (decide ((1 : Int) ≤ (l.length : Int)) && decide ((l.length : Int) < 65)) = true := by simp [h3]
        have E3 := Lib.hid e3
        clear e3
        go_enter Try.func28, Try.ntmps28
        go_wp2_with fail
        refine (HI.out _ _ _ _).mono ?_
        rintro _ w1 ⟨rfl, rfl⟩
        rw [E1.out]
        go_wp2_with fail
        refine (HI.out _ _ _ _).mono ?_
        rintro _ w1 ⟨rfl, rfl⟩
        rw [E2.out]
        go_wp2_with fail
        refine (HI.out _ _ _ _).mono ?_
        rintro _ w1 ⟨rfl, rfl⟩
        rw [E3.out]
        obtain ⟨b, hb⟩ : ∃ b, w.heap.size = b := ⟨_, rfl⟩
        have HBE := Lib.hid hb
        have hbl : b < (w.alloc (.cells #[.int .i64 t, .int .i64 s, .int .i64 st, .slice p l.length c] 24)).heap.size := by simp; omega
        have HBL := Lib.hid hbl
        have HBB : Hid (Below b w (w.alloc (.cells #[.int .i64 t, .int .i64 s, .int .i64 st, .slice p l.length c] 24))) := Lib.hid (by rw [← hb]; exact S0.out)
        rw [hb] at k0 k1 k2 k3
        have HGu := Lib.hid (HG.out.up S0.out)
        clear S0 hbl HG
        obtain ⟨W, hW⟩ : ∃ W, w.alloc (.cells #[.int .i64 t, .int .i64 s, .int .i64 st, .slice p l.length c] 24) = W := ⟨_, rfl⟩
        rw [hW] at k0 k1 k2 k3 HBL HGu HBB
        go_upto_region 3 with fail
        refine at_world (fun v => v = W) (by first | exact hW | rfl) fun y hy => ?_
        subst hy
        clear hW
        have K0 := Lib.hid k0
        have K1 := Lib.hid k1
        have K2 := Lib.hid k2
        have HBY := Lib.hid (Below.refl y.heap.size y)
        go_upto_region 4 with fail
        clear k0 k1 k2 k3
        go_loopw [28] (fun i wr => ∃ j : Nat, i = .int .i64 (j : Nat) ∧ j ≤ l.length ∧ Hid ((l.take j).all (prB t s) = true) ∧ Hid (Below y.heap.size y wr)) (fun i _ => l.length - (intOf i).toNat)
        case atStart => exact ⟨0, rfl, by omega, Lib.hid (by simp), HBY⟩
        case round =>
        clear HBY
        obtain ⟨j, rfl, hj, HA, HB⟩ := hrel
        obtain ⟨wo, rfl⟩ : ∃ wo : World, wo = wr := ⟨_, rfl⟩
        have hsz := HB.out.size
        have hbl := HBL.out
        have k0 := cell_up K0.out HB.out hbl
        have k1 := cell_up K1.out HB.out hbl
        by_cases hlt : j < l.length
        · have hltI : (j : Int) < (l.length : Int) := by omega
          have hjI : ¬ (j : Int) < 0 := by omega
          obtain ⟨bb, o, q, d, rfl, hbb, c0, c1, c2, hiv, hbdl, hmem⟩ := (HGu.out.up HB.out).at hlt
          have hal := all_take' (prB t s) l j hlt
          have hno := fun h => all_no' (p := prB t s) hlt h
          rw [HA.out, Bool.true_and] at hal
          obtain ⟨x, hxx⟩ : ∃ x, l[j] = x := ⟨_, rfl⟩
          rw [hxx] at c0 c1 c2 hal hno hiv hbdl hmem
          have hpx : prB t s x = ((decide (t ≤ x.hd) && decide (x.hd < s)) && !(x.bd.any fun x => !(decide (0 ≤ x) && decide (x < s)))) := rfl
          obtain ⟨d0, d1, d2⟩ := box_cells wo (.int .i64 x.hd) (.slice q x.bd.length d) (.bool x.rt) 38
          have hwb := (Below.refl wo.heap.size wo).alloc (Nat.le_refl _) (.cells #[.int .i64 x.hd, .slice q x.bd.length d, .bool x.rt] 38)
          have HB2 := Lib.hid (HB.out.trans (hwb.mono hsz))
          have k0' := cell_up k0 hwb (by omega)
          have k1' := cell_up k1 hwb (by omega)
          have HIV := Lib.hid (hiv.mono (fun _ h => h) (fun b _ h => hwb.block b h))
          have HC := Lib.hid (contains55 hbdl HIV.out k1')
          obtain ⟨o2, ho2⟩ : ∃ o, (x.bd.any fun x => !(decide (0 ≤ x) && decide (x < s))) = o := ⟨_, rfl⟩
          rw [ho2] at HC hpx
          obtain ⟨o1, ho1⟩ : ∃ o, (decide (t ≤ x.hd) && decide (x.hd < s)) = o := ⟨_, rfl⟩
          rw [ho1] at hpx
          have HO1 := Lib.hid ho1
          rw [hpx] at hal hno
          have HAL := Lib.hid hal
          have HNO := Lib.hid hno
          have hmf : ∀ (fn : Fn) (first cap : Array Value) (w : World), (Instr.makeFunc fn first cap).run Try.prog w = .ok (.func fn first cap) w := fun _ _ _ _ => rfl
          generalize x.hd = hd at c0 d0 HB2 k0' k1' HC HO1 ⊢
          generalize x.bd.length = n at c1 d1 HB2 k0' k1' HC ⊢
          generalize x.rt = rt at c2 d2 HB2 k0' k1' HC ⊢
          clear hiv hbdl hmem hpx ho1 ho2 hal hno hwb HA HIV hxx
          cases o1 with
          | false =>
            go_wp2_with fail
            refine (HI.out _ _ _ _).mono ?_
            rintro _ w1 ⟨rfl, rfl⟩
            rw [HO1.out]
            have hR : R = false := by
              rw [← HR.out]
              exact nmB_f fun h => by
                have h4 := HNO.out (by simp)
                have h5 : l.all (prB t s) = true := List.all_eq_true.2 fun p hp => (prB_iff t s p).2 (by
                  rw [← HT.out, ← HS.out]
                  rw [← HL.out] at hp
                  exact ⟨h.hd p hp, h.bd p hp⟩)
                rw [h4] at h5; cases h5
            subst hR
            go_wp2_with fail
            go_ret
            exact ⟨rfl, by rw [HBE.out]; exact HBB.out.trans (HB2.out.mono (by omega))⟩
          | true =>
            have HNO2 := HNO
            clear HNO
            go_wp2_with fail
            refine (HI.out _ _ _ _).mono ?_
            rintro _ w1 ⟨rfl, rfl⟩
            rw [HO1.out]
            go_wp2_with fail
            refine HC.out.mono ?_
            rintro _ w1 ⟨rfl, rfl⟩
            cases o2 with
            | true =>
              have hR : R = false := by
                rw [← HR.out]
                exact nmB_f fun h => by
                  have h4 := HNO2.out (by simp)
                  have h5 : l.all (prB t s) = true := List.all_eq_true.2 fun p hp => (prB_iff t s p).2 (by
                    rw [← HT.out, ← HS.out]
                    rw [← HL.out] at hp
                    exact ⟨h.hd p hp, h.bd p hp⟩)
                  rw [h4] at h5; cases h5
              subst hR
              go_wp2_with fail
              go_ret
              exact ⟨rfl, by rw [HBE.out]; exact HBB.out.trans (HB2.out.mono (by omega))⟩
            | false =>
              go_wp2_with fail
              go_roundw
              case rel => exact ⟨j + 1, by go_num, by omega, Lib.hid (by rw [HAL.out]; rfl), HB2⟩
              case measure => simp [intOf]; omega
        · obtain rfl : j = l.length := by omega
          have hltI : ¬ (l.length : Int) < (l.length : Int) := by omega
          have k2 := cell_up K2.out HB.out hbl
          have hA := HA.out
          rw [List.take_length] at hA
          have hR : R = (decide (t ≤ st) && decide (st < s)) := by
            rw [← HR.out]
            by_cases h : t ≤ st ∧ st < s
            · rw [decide_eq_true h.1, decide_eq_true h.2]
              refine nmB_t ?_
              have a1 := HT.out; have a2 := HS.out; have a3 := HST.out; have a4 := HL.out
              refine ⟨by omega, by omega, by omega, by omega, by omega, by omega, by rw [a4]; omega, by rw [a4]; omega, fun p hp => ?_, fun p hp => ?_⟩
              · rw [a4] at hp
                rw [a1, a2]
                exact ((prB_iff t s p).1 (List.all_eq_true.1 hA p hp)).1
              · rw [a4] at hp
                rw [a2]
                exact ((prB_iff t s p).1 (List.all_eq_true.1 hA p hp)).2
            · have e : (decide (t ≤ st) && decide (st < s)) = false := by rw [Bool.and_eq_false_iff, decide_eq_false_iff_not, decide_eq_false_iff_not]; omega
              rw [e]
              exact nmB_f fun h4 => h (by have := h4.st1; have := h4.st2; have a1 := HT.out; have a2 := HS.out; have a3 := HST.out; omega)
          have HRR := Lib.hid hR
          clear hA hR hlt
          go_wp2_with fail
          refine (HI.out _ _ _ _).mono ?_
          rintro _ w1 ⟨rfl, rfl⟩
          rw [← HRR.out]
          go_wp2_with fail
          go_ret
          exact ⟨rfl, by rw [HBE.out]; exact HBB.out.trans (HB.out.mono (by omega))⟩
      · have e3 : (decide ((1 : Int) ≤ (l.length : Int)) && decide ((l.length : Int) < 65)) = false := by rw [Bool.and_eq_false_iff, decide_eq_false_iff_not, decide_eq_false_iff_not]; omega
        have E3 := Lib.hid e3
        have hR : R = false := by rw [← HR.out]; exact nmB_f fun h => by have h3 := h.n1; have h4 := h.n2; rw [HL.out] at h3 h4; omega
        subst hR
        clear e3
        go_enter Try.func28, Try.ntmps28
        go_wp2_with fail
        refine (HI.out _ _ _ _).mono ?_
        rintro _ w1 ⟨rfl, rfl⟩
        rw [E1.out]
        go_wp2_with fail
        refine (HI.out _ _ _ _).mono ?_
        rintro _ w1 ⟨rfl, rfl⟩
        rw [E2.out]
        go_wp2_with fail
        refine (HI.out _ _ _ _).mono ?_
        rintro _ w1 ⟨rfl, rfl⟩
        rw [E3.out]
        go_wp2_with fail
        go_ret
        exact ⟨rfl, S0.out⟩
    · have e2 : (decide (t + 1 ≤ s) && decide (s < 65)) = false := by rw [Bool.and_eq_false_iff, decide_eq_false_iff_not, decide_eq_false_iff_not]; omega
      have E2 := Lib.hid e2
      have hR : R = false := by rw [← HR.out]; exact nmB_f fun h => by have h3 := h.s1; have h4 := h.s2; have := HT.out; have := HS.out; omega
      subst hR
      clear e2
      go_enter Try.func28, Try.ntmps28
      go_wp2_with fail
      refine (HI.out _ _ _ _).mono ?_
      rintro _ w1 ⟨rfl, rfl⟩
      rw [E1.out]
      go_wp2_with fail
      refine (HI.out _ _ _ _).mono ?_
      rintro _ w1 ⟨rfl, rfl⟩
      rw [E2.out]
      go_wp2_with fail
      go_ret
      exact ⟨rfl, S0.out⟩
  · have e1 : (decide ((1 : Int) ≤ t) && decide (t < 33)) = false := by rw [Bool.and_eq_false_iff, decide_eq_false_iff_not, decide_eq_false_iff_not]; omega
    have E1 := Lib.hid e1
    have hR : R = false := by rw [← HR.out]; exact nmB_f fun h => by have h3 := h.t1; have h4 := h.t2; have := HT.out; omega
    subst hR
    clear e1
    go_enter Try.func28, Try.ntmps28
    go_wp2_with fail
    refine (HI.out _ _ _ _).mono ?_
    rintro _ w1 ⟨rfl, rfl⟩
    rw [E1.out]
    go_wp2_with fail
    go_ret
    exact ⟨rfl, S0.out⟩
end Go.Proofs.Ytpmkdpjcpimhkaa
