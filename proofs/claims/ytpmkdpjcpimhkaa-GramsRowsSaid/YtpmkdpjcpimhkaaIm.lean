/- Package grams. -/
import Derived.Test.YtpmkdpjcpimhkaaProg
import Derived.Test.YtpmkdpjcpimhkaaIl
import Derived.Deep.SlicePairs
import Derived.Deep.Slices
import Derived.Laws.IdiomArrays
import Derived.OpenShut
import Derived.WideBlind
import Derived.Great.BuildSlice
import Derived.WalkKit
import Derived.Maps.OwnSet
import Derived.Maps.OwnOps
import Derived.Maps.Own
import Derived.DeepKeys5
import Derived.BigFrame
import Derived.WalkMore
import Derived.ScopeJumps
import Derived.StillTailTactics
import Derived.Stop.BytesEq
import Derived.WalkLawsBesides
import Derived.WalkSpells
import Derived.Outline
import Derived.Lib.Walk
import Derived.Lib.Hide
import Derived.Lib.Slices
import Derived.Lib.Strings
import Derived.RegionTactic
import Derived.LoopTactic
import Derived.Below
import Derived.IntWalk
import Derived.Deep.QuietTactic
import Derived.BigQuiet
import Derived.Deep.MidRow
import Derived.Maps.AppendAt
import Derived.Laws.Rows
import Derived.Laws.Tables
import Derived.Deep.WholeRow
import Derived.Deep.Cut
import Derived.Deep.CutRange
import Derived.Lib.SliceRun
import Derived.Laws.MakeOwn
import Derived.Deep.RegionLaw
import Derived.Deep.RegionLawGrows
import Derived.Deep.RegionHeld3
import Derived.RegionCalls
import Derived.Deep.RegionWith
import Derived.Deep.Light
import Derived.Laws.CopyOwn
import Derived.Laws.ResultCell
namespace Go.Proofs.Ytpmkdpjcpimhkaa
set_option linter.unusedSimpArgs false
set_option linter.unusedVariables false
set_option maxRecDepth 100000
open Go.RowKit
/- big; within. -/
open Go.Maps
def sumB (l : List Pr) : Nat := (l.map fun p => p.bd.length).sum
def tot (l : List Pr) : Nat := l.length + sumB l
theorem sumB_take (l : List Pr) (j : Nat) (h : j < l.length) : sumB (l.take (j + 1)) = sumB (l.take j) + l[j].bd.length := by
  unfold sumB
  rw [List.take_add_one, List.getElem?_eq_getElem h, List.map_append, List.sum_append]; simp
theorem sumB_le : ∀ (l : List Pr) (j : Nat), sumB (l.take j) ≤ sumB l
  | [], j => by simp [sumB]
  | p :: l, 0 => by simp [sumB]
  | p :: l, j + 1 => by have := sumB_le l j; simp only [List.take_succ_cons, sumB, List.map_cons, List.sum_cons] at this ⊢; omega
theorem tot_bd {l : List Pr} {p : Pr} (h : p ∈ l) : p.bd.length ≤ sumB l := by
  induction l with
  | nil => cases h
  | cons q l ih =>
    simp only [sumB, List.map_cons, List.sum_cons]
    rcases List.mem_cons.1 h with rfl | h
    · omega
    · have := ih h; unfold sumB at this; omega
theorem ok_tot {g : Gr} (h : GrOk g) : tot g.ps ≤ 100000 := by
  have h1 := h.nm.n2
  have : ∀ l : List Pr, (∀ p ∈ l, p.bd.length ≤ 8) → sumB l ≤ 8 * l.length := fun l => by
    induction l with
    | nil => intro _; simp [sumB]
    | cons q l ih =>
      intro hl
      have a := hl q (List.mem_cons_self ..)
      have b := ih (fun p hp => hl p (List.mem_cons_of_mem _ hp))
      simp only [sumB, List.map_cons, List.sum_cons, List.length_cons] at b ⊢; omega
  have := this g.ps h.lg
  unfold tot; omega
set_option maxHeartbeats 8000000 in
theorem big27 {D : Nat → Prop} {w : World} {g : Gr} {p : Option Addr} {c : Nat} (hg : GM D w g.ps p) :
    Calls Try.prog 27 #[.agg #[.int .i64 g.t, .int .i64 g.s, .int .i64 g.st, .slice p g.ps.length c], .int .i64 100000] w fun e w' => e = .returned (.bool (decide (100000 < tot g.ps))) ∧ Below w.heap.size w w' := by
  have HG := Lib.hid hg
  have hnl := hg.nl
  obtain ⟨b, hb⟩ : ∃ b, w.heap.size = b := ⟨_, rfl⟩
  have HBE := Lib.hid hb
  have S0 := Lib.hid ((Sep.start w).allocAt hb (.cells (gC g p c) 24))
  have hgc : gC g p c = #[.int .i64 g.t, .int .i64 g.s, .int .i64 g.st, .slice p g.ps.length c] := rfl
  obtain ⟨l, hl⟩ : ∃ l, g.ps = l := ⟨_, rfl⟩
  rw [hl] at HG hnl hgc ⊢
  generalize g.t = t at hgc ⊢
  generalize g.s = s at hgc ⊢
  generalize g.st = st at hgc ⊢
  rw [hgc] at S0
  obtain ⟨R, hR⟩ : ∃ R, decide (100000 < tot l) = R := ⟨_, rfl⟩
  have HR := Lib.hid hR
  rw [hR]
  clear hl hgc hR hg
  have hz9 : (100000 : Int) + 1 = 100001 := by decide
  obtain ⟨k0, hk0⟩ : ∃ k : Nat, min l.length 100001 = k := ⟨_, rfl⟩
  have hmin : min (l.length : Int) 100001 = (k0 : Int) := by omega
  have hk0b : k0 ≤ 100001 := by omega
  have HK0 : Hid ((k0 ≤ 100000 → k0 = l.length + sumB (l.take 0)) ∧ (100000 < k0 → 100000 < tot l)) := Lib.hid ⟨fun h => by simp [sumB]; omega, fun h => by unfold tot; omega⟩
  go_enter Try.func27, Try.ntmps27
  go_upto_region 1 with fail
  refine at_world (fun v => Sep b w v [.box b (.cells #[.int .i64 t, .int .i64 s, .int .i64 st, .slice p l.length c] 24 (0, 0))]) (HBE.out ▸ S0.out) fun y1 hy1 => ?_
  have S1 := Lib.hid hy1
  clear hy1 S0 hb hk0
  have k3 := (S1.out.boxAt 3).trans rfl
  go_wp2_with fail
  clear k3 hmin
  go_loopw [5, 6] (fun kk i wr => ∃ (j k : Nat), i = .int .i64 (j : Nat) ∧ kk = .int .i64 (k : Nat) ∧ j ≤ l.length ∧ k ≤ 200002 ∧ Hid ((k ≤ 100000 → k = l.length + sumB (l.take j)) ∧ (100000 < k → 100000 < tot l)) ∧ Hid (Sep b w wr [.box b (.cells #[.int .i64 t, .int .i64 s, .int .i64 st, .slice p l.length c] 24 (0, 0))])) (fun _ i _ => l.length - (intOf i).toNat)
  case atStart => exact ⟨0, k0, rfl, rfl, by omega, by omega, HK0, S1⟩
  case round =>
  clear S1 HK0 hk0b
  obtain ⟨j, k, rfl, rfl, hj, hk, HK, HS⟩ := hrel
  obtain ⟨wo, rfl⟩ : ∃ wo : World, wo = wr := ⟨_, rfl⟩
  have k3 := (HS.out.boxAt 3).trans rfl
  by_cases hlt : j < l.length
  · have hltI : (j : Int) < (l.length : Int) := by omega
    have hjI : ¬ (j : Int) < 0 := by omega
    by_cases hk1 : k ≤ 100000
    · have hk1I : (k : Int) ≤ 100000 := by omega
      obtain ⟨bb, o, q, d, rfl, hbb, c0, c1, c2, hiv, hbdl, hmem⟩ := (HG.out.up (HBE.out ▸ HS.out.bel)).at hlt
      have hkk := HK.out.1 hk1
      have hsum := sumB_take l j hlt
      have hle := sumB_le l (j + 1)
      obtain ⟨x, hxx⟩ : ∃ x, l[j] = x := ⟨_, rfl⟩
      rw [hxx] at c1 hsum hbdl
      obtain ⟨m, hm⟩ : ∃ k : Nat, min x.bd.length 100001 = k := ⟨_, rfl⟩
      have hmin : min (x.bd.length : Int) 100001 = (m : Int) := by omega
      have HK2 : Hid ((k + m ≤ 100000 → k + m = l.length + sumB (l.take (j + 1))) ∧ (100000 < k + m → 100000 < tot l)) := Lib.hid ⟨fun h => by omega, fun h => by unfold tot; omega⟩
      have hm2 : m ≤ 100001 := by omega
      generalize x.bd.length = n at c1 hmin
      clear hxx hsum hle hkk hiv hbdl hmem hm c0 c2 HK
      go_wp2_with fail
      go_roundw
      case rel => exact ⟨j + 1, k + m, by go_num, by go_num, by omega, by omega, HK2, HS⟩
      case measure => simp [intOf]; omega
    · have hk1I : ¬ (k : Int) ≤ 100000 := by omega
      have hk2I : (100000 : Int) < (k : Int) := by omega
      have hR : R = true := by rw [← HR.out]; exact decide_eq_true (HK.out.2 (by omega))
      subst hR
      clear hk1
      go_wp2_with fail
      go_ret
      exact ⟨rfl, by rw [HBE.out]; exact HS.out.bel⟩
  · obtain rfl : j = l.length := by omega
    have hltI : ¬ (l.length : Int) < (l.length : Int) := by omega
    have hK := HK.out
    rw [List.take_length] at hK
    by_cases hk1 : k ≤ 100000
    · have hk2I : ¬ (100000 : Int) < (k : Int) := by omega
      have hR : R = false := by rw [← HR.out]; refine decide_eq_false ?_; have := hK.1 hk1; unfold tot; omega
      subst hR
      clear hk1 hK hlt
      go_wp2_with fail
      go_ret
      exact ⟨rfl, by rw [HBE.out]; exact HS.out.bel⟩
    · have hk2I : (100000 : Int) < (k : Int) := by omega
      have hR : R = true := by rw [← HR.out]; exact decide_eq_true (hK.2 (by omega))
      subst hR
      clear hk1 hK hlt
      go_wp2_with fail
      go_ret
      exact ⟨rfl, by rw [HBE.out]; exact HS.out.bel⟩
set_option maxHeartbeats 2000000 in
theorem big_any {D : Nat → Prop} {w : World} {g : Gr} {p : Option Addr} {c : Nat} (hg : GM D w g.ps p) :
    Calls Try.prog 12 #[.agg #[.int .i64 g.t, .int .i64 g.s, .int .i64 g.st, .slice p g.ps.length c]] w fun e w' => e = .returned (.bool (decide (100000 < tot g.ps))) ∧ Below w.heap.size w w' := by
  have hw0 := (Below.refl w.heap.size w).alloc (Nat.le_refl _) (.cells (gC g p c) 24)
  obtain ⟨k0, k1, k2, k3⟩ := gC_at (GB.new (w := w) (g := g) (p := p) (c := c))
  have HC := Lib.hid (big27 (c := c) (hg.up hw0))
  have HW := Lib.hid hw0
  generalize decide (100000 < tot g.ps) = R at HC ⊢
  unfold gC at *
  clear hg hw0
  go_enter Try.func12, Try.ntmps12
  go_wp2_with fail
  refine HC.out.mono ?_
  rintro _ w1 ⟨rfl, hb1⟩
  have HB := Lib.hid (HW.out.trans (hb1.mono HW.out.size))
  clear hb1 k0 k1 k2 k3
  go_wp2_with fail
  go_ret
  exact ⟨rfl, HB.out⟩
set_option maxHeartbeats 8000000 in
theorem within_any {D E : Nat → Prop} {w : World} {a b : List Int} {pa pb : Option Addr} {ca cb : Nat} (hla : a.length ≤ 9223372036854775806) (hlb : b.length ≤ 9223372036854775806) (hD : ∀ b, D b → b < w.heap.size) (hE : ∀ b, E b → b < w.heap.size) (ha : IV D w a (.slice pa a.length ca)) (hb : IV E w b (.slice pb b.length cb)) :
    Calls Try.prog 26 #[.slice pa a.length ca, .slice pb b.length cb] w fun e w' => e = .returned (.bool (a.all fun x => decide (x ∈ b))) ∧ Below w.heap.size w w' := by
  have HA := Lib.hid ha
  have HB := Lib.hid hb
  have HD := Lib.hid hD
  have HE := Lib.hid hE
  have S0 := Lib.hid (Below.refl w.heap.size w)
  obtain ⟨R, hR⟩ : ∃ R, (a.all fun x => decide (x ∈ b)) = R := ⟨_, rfl⟩
  have HR := Lib.hid hR
  rw [hR]
  have hnot : ∀ (x : Bool) (w : World), (Op.unary .not (.bool x)).run Try.prog w = .ok (.bool (!x)) w := fun _ _ => rfl
  clear ha hb hD hE hR
  go_enter Try.func26, Try.ntmps26
  go_wp2_with fail
  go_loopw [5] (fun i wr => ∃ j : Nat, i = .int .i64 (j : Nat) ∧ j ≤ a.length ∧ Hid ((a.take j).all (fun x => decide (x ∈ b)) = true) ∧ Hid (Below w.heap.size w wr)) (fun i _ => a.length - (intOf i).toNat)
  case atStart => exact ⟨0, rfl, by omega, Lib.hid (by simp), S0⟩
  case round =>
  clear S0
  obtain ⟨j, rfl, hj, HT, HS⟩ := hrel
  obtain ⟨wo, rfl⟩ : ∃ wo : World, wo = wr := ⟨_, rfl⟩
  by_cases hlt : j < a.length
  · have hltI : (j : Int) < (a.length : Int) := by omega
    have hjI : ¬ (j : Int) < 0 := by omega
    obtain ⟨p', c', he, hh⟩ := HA.out
    injection he with e1 e2 e3
    subst e1 e3
    clear e2
    obtain ⟨ba, oa, rfl, hba, hca⟩ := hh (by intro e; rw [e] at hlt; simp at hlt)
    have hx := hca j hlt
    have hst := all_take' (fun x => decide (x ∈ b)) a j hlt
    have hno := fun h => all_no' (p := fun x => decide (x ∈ b)) hlt h
    rw [HT.out, Bool.true_and] at hst
    obtain ⟨x, hxx⟩ : ∃ x, a[j] = x := ⟨_, rfl⟩
    rw [hxx] at hx hst hno
    have HX := Lib.hid hx
    have HST := Lib.hid hst
    have HNO := Lib.hid hno
    have hbaw := HD.out ba hba
    have HBA := Lib.hid hbaw
    clear hh hca hx hst hno hxx hbaw HT
    go_wp2_with fail
    go_loopw [6, 7] (fun u i wr => ∃ k : Nat, i = .int .i64 (k : Nat) ∧ u = .bool (decide (x ∈ b.take k)) ∧ k ≤ b.length ∧ Hid (Below w.heap.size w wr)) (fun _ i _ => b.length - (intOf i).toNat)
    case atStart => exact ⟨0, rfl, by simp, by omega, HS⟩
    case round =>
    clear HS
    obtain ⟨k, rfl, rfl, hk, HS⟩ := hrel
    obtain ⟨wi, rfl⟩ : ∃ wo : World, wo = wr := ⟨_, rfl⟩
    by_cases hltk : k < b.length
    · have hltkI : (k : Int) < (b.length : Int) := by omega
      have hkI : ¬ (k : Int) < 0 := by omega
      obtain ⟨p'', c'', he, hh2⟩ := HB.out
      injection he with e4 e5 e6
      subst e4 e6
      clear e5
      obtain ⟨bb, ob, rfl, hbb, hcb⟩ := hh2 (by intro e; rw [e] at hltk; simp at hltk)
      have ca1 : wi.cell? ⟨ba, oa + j, none⟩ = some (.int .i64 x) := (cell_same (HS.out.block ba HBA.out) _).trans HX.out
      have cb1 : wi.cell? ⟨bb, ob + k, none⟩ = some (.int .i64 b[k]) := (cell_same (HS.out.block bb (HE.out bb hbb)) _).trans (hcb k hltk)
      have hnx : decide (x ∈ b.take (k + 1)) = (decide (x ∈ b.take k) || (x == b[k])) := by
        rw [List.take_add_one, List.getElem?_eq_getElem hltk, Bool.eq_iff_iff, decide_eq_true_eq, List.mem_append, Bool.or_eq_true, decide_eq_true_eq, beq_iff_eq]; simp
      generalize b[k] = y at cb1 hnx
      have HNX := Lib.hid hnx
      clear hh2 hcb hnx
      cases hd : decide (x ∈ b.take k) with
      | true =>
        have HNX2 : Hid (decide (x ∈ b.take (k + 1)) = true) := Lib.hid (by rw [HNX.out, hd]; rfl)
        clear hd
        go_wp2_with fail
        go_quiet (fail)
        refine at_worldQ (fun z => Below w.heap.size w z) (below_drewN HS.out _) fun z hz => ?_
        have HS2 := Lib.hid hz
        clear hz HS ca1 cb1
        go_wp2_with fail
        go_roundw
        case rel => exact ⟨k + 1, by go_num, by rw [HNX2.out], by omega, HS2⟩
        case measure => simp [intOf]; omega
      | false =>
        obtain ⟨v, hv⟩ : ∃ v, (x == y) = v := ⟨_, rfl⟩
        have HNX2 : Hid (decide (x ∈ b.take (k + 1)) = v) := Lib.hid (by rw [HNX.out, hd, hv]; rfl)
        clear hd
        go_wp2_with fail
        go_quiet (fail)
        refine at_worldQ (fun z => Below w.heap.size w z) (below_drewN HS.out _) fun z hz => ?_
        have HS2 := Lib.hid hz
        clear hz HS ca1 cb1
        go_wp2_with fail
        go_roundw
        case rel => exact ⟨k + 1, by go_num, by rw [HNX2.out], by omega, HS2⟩
        case measure => simp [intOf]; omega
    · obtain rfl : k = b.length := by omega
      have hltkI : ¬ (b.length : Int) < (b.length : Int) := by omega
      rw [List.take_length]
      cases hd : decide (x ∈ b) with
      | true =>
        have HST2 : Hid ((a.take (j + 1)).all (fun x => decide (x ∈ b)) = true) := Lib.hid (by rw [HST.out, hd])
        clear hd
        go_wp2_with fail
        go_roundw
        case rel => exact ⟨j + 1, by go_num, by omega, HST2, HS⟩
        case measure => simp [intOf]; omega
      | false =>
        have hR : R = false := by rw [← HR.out]; exact HNO.out hd
        subst hR
        clear hd
        go_wp2_with fail
        go_ret
        exact ⟨rfl, HS.out⟩
  · obtain rfl : j = a.length := by omega
    have hltI : ¬ (a.length : Int) < (a.length : Int) := by omega
    have hR : R = true := by rw [← HR.out]; have h := HT.out; rwa [List.take_length] at h
    subst hR
    clear hlt
    go_wp2_with fail
    go_ret
    exact ⟨rfl, HS.out⟩
end Go.Proofs.Ytpmkdpjcpimhkaa
