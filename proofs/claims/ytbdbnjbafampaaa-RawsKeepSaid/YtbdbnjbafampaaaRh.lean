/- Package raws. -/
import Derived.Test.YtbdbnjbafampaaaProg
import Derived.Test.YtbdbnjbafampaaaRg
import Derived.WalkKit
import Derived.BigFrame
import Derived.WalkMore
import Derived.ScopeJumps
import Derived.StillTailTactics
import Derived.Stop.BytesEq
import Derived.WalkLawsBesides
import Derived.WalkSpells
import Derived.Outline
import Derived.Lib.Walk
import Derived.Lib.Hide
import Derived.Lib.Slices
import Derived.Lib.Strings
import Derived.RegionTactic
import Derived.LoopTactic
import Derived.Below
import Derived.IntWalk
import Derived.Deep.QuietTactic
import Derived.BigQuiet
import Derived.Deep.MidRow
import Derived.Maps.AppendAt
import Derived.Laws.Rows
import Derived.Laws.Tables
import Derived.Deep.WholeRow
import Derived.Deep.Cut
import Derived.Deep.CutRange
import Derived.Lib.SliceRun
import Derived.Laws.MakeOwn
import Derived.Deep.RegionLaw
import Derived.Deep.RegionLawGrows
import Derived.Deep.RegionHeld3
import Derived.RegionCalls
import Derived.Deep.RegionWith
import Derived.Deep.Light
import Derived.Laws.CopyOwn
import Derived.Laws.ResultCell
namespace Go.Proofs.Ytbdbnjbafampaaa
set_option linter.unusedSimpArgs false
set_option linter.unusedVariables false
set_option maxRecDepth 100000
open Go.RowKit
/- SameRaws: the walk. -/
theorem take_eq_iff {α : Type} {l l' : List α} {j : Nat} (h : l.take j = l'.take j) (h1 : j < l.length) (h2 : j < l'.length) (he : l[j] = l'[j]) : l.take (j + 1) = l'.take (j + 1) := by
  rw [List.take_add_one, List.take_add_one, h, List.getElem?_eq_getElem h1, List.getElem?_eq_getElem h2, he]
def sameR (l l' : List (Int × Nat × Nat)) : Bool := decide (l = l')
set_option maxHeartbeats 4000000 in
theorem sameraws_any {D E : Nat → Prop} {w : World} {l l' : List (Int × Nat × Nat)} {p p' : Option Addr} {c c' : Nat} (hD : ∀ b, D b → b < w.heap.size) (hE : ∀ b, E b → b < w.heap.size) (h : XV D w l (.slice p l.length c)) (h' : XV E w l' (.slice p' l'.length c')) (hl : l.length ≤ 9223372036854775806) :
    Calls Try.prog 36 #[.slice p l.length c, .slice p' l'.length c'] w fun e w' => e = .returned (.bool (sameR l l')) ∧ Below w.heap.size w w' := by
  have H := Lib.hid h
  have H' := Lib.hid h'
  have HD := Lib.hid hD
  have HE := Lib.hid hE
  have S0 := Lib.hid (Below.refl w.heap.size w)
  clear h h' hD hE
  go_enter Try.func36, Try.ntmps36
  by_cases hn : l.length = l'.length
  · have hnI : ((l.length : Int) != (l'.length : Int)) = false := by simp; omega
    obtain ⟨n, hn1⟩ : ∃ n, l.length = n := ⟨_, rfl⟩
    have hn2 : l'.length = n := by omega
    have HN1 := Lib.hid hn1
    have HN2 := Lib.hid hn2
    rw [hn1] at H hl hnI ⊢
    rw [hn2] at H' hnI ⊢
    clear hn hn1 hn2
    go_wp2_with fail
    go_loopw [5] (fun i wr => ∃ j : Nat, i = .int .i64 (j : Nat) ∧ j ≤ n ∧ Hid (l.take j = l'.take j) ∧ Hid (Below w.heap.size w wr)) (fun i _ => n - (intOf i).toNat)
    case atStart => exact ⟨0, rfl, by omega, Lib.hid (by simp), S0⟩
    case round =>
      clear S0
      obtain ⟨j, rfl, hj, HA, HS⟩ := hrel
      obtain ⟨wo, rfl⟩ : ∃ wo : World, wo = wr := ⟨_, rfl⟩
      by_cases hlt : j < n
      · obtain ⟨p1, c1, he, hh⟩ := H.out
        injection he with e1 e2 e3
        subst e1 e3
        have hj1 : j < l.length := by rw [HN1.out]; exact hlt
        have hj2 : j < l'.length := by rw [HN2.out]; exact hlt
        obtain ⟨b, o, rfl, hb, hc⟩ := hh (by intro e; rw [e] at hj1; simp at hj1)
        obtain ⟨p2, c2, he', hh'⟩ := H'.out
        injection he' with e1' e2' e3'
        subst e1' e3'
        obtain ⟨b', o', rfl, hb', hc'⟩ := hh' (by intro e; rw [e] at hj2; simp at hj2)
        obtain ⟨g1, g2, g3⟩ := hc j hj1
        obtain ⟨g4, g5, g6⟩ := hc' j hj2
        have hk : ∀ (b o : Nat) (v : Value), b < w.heap.size → w.cell? ⟨b, o, none⟩ = some v → wo.cell? ⟨b, o, none⟩ = some v := fun b o v hb h => (cell_same (HS.out.block b hb) _).trans h
        have k1 := hk _ _ _ (HD.out b hb) g1
        have k2 := hk _ _ _ (HD.out b hb) g2
        have k3 := hk _ _ _ (HD.out b hb) g3
        have k4 := hk _ _ _ (HE.out b' hb') g4
        have k5 := hk _ _ _ (HE.out b' hb') g5
        have k6 := hk _ _ _ (HE.out b' hb') g6
        have HYES : Hid (l[j] = l'[j] → l.take (j + 1) = l'.take (j + 1)) := Lib.hid fun h => take_eq_iff HA.out hj1 hj2 h
        have HNO : Hid (l[j] ≠ l'[j] → sameR l l' = false) := Lib.hid fun h => decide_eq_false fun e => h (by subst e; rfl)
        obtain ⟨⟨x1, x2, x3⟩, hx⟩ : ∃ x, l[j] = x := ⟨_, rfl⟩
        obtain ⟨⟨y1, y2, y3⟩, hy⟩ : ∃ y, l'[j] = y := ⟨_, rfl⟩
        rw [hx] at k1 k2 k3 HYES HNO
        rw [hy] at k4 k5 k6 HYES HNO
        simp only [] at k1 k2 k3 k4 k5 k6
        have hq := fun z => neq60 x1 (x2 : Nat) (x3 : Nat) y1 (y2 : Nat) (y3 : Nat) z
        have hiff : ((x1 == y1) && (((x2 : Int) == (y2 : Int)) && ((x3 : Int) == (y3 : Int)))) = decide ((x1, x2, x3) = (y1, y2, y3)) := by
          rw [Bool.eq_iff_iff]
          simp only [Bool.and_eq_true, beq_iff_eq, decide_eq_true_eq, Prod.mk.injEq]
          omega
        rw [hiff] at hq
        clear hiff
        have hjI : (j : Int) < (n : Int) := by omega
        have hj0 : ¬ (j : Int) < 0 := by omega
        clear hh hh' hc hc' g1 g2 g3 g4 g5 g6 hk hx hy e2 e2' HA hj1 hj2
        by_cases hxy : (x1, x2, x3) = (y1, y2, y3)
        · have HT := Lib.hid (HYES.out hxy)
          rw [decide_eq_true hxy] at hq
          clear HYES HNO hxy
          go_upto_region 6 with fail
          go_quiet (fail)
          go_wp2_with fail
          go_roundw
          case rel => exact ⟨j + 1, by go_num, by omega, HT, Lib.hid (below_drewN HS.out _)⟩
          case measure => simp [intOf]; omega
        · have HT := Lib.hid (HNO.out hxy)
          rw [decide_eq_false hxy] at hq
          clear HYES HNO hxy
          go_upto_region 6 with fail
          go_quiet (fail)
          go_wp2_with fail
          go_ret
          exact ⟨by rw [HT.out]; rfl, below_drewN HS.out _⟩
      · obtain rfl : j = n := by omega
        have hjI : ¬ (j : Int) < (j : Int) := by omega
        have HT : Hid (sameR l l' = true) := Lib.hid (by
          have := HA.out
          rw [List.take_of_length_le (by rw [HN1.out]; omega), List.take_of_length_le (by rw [HN2.out]; omega)] at this
          exact decide_eq_true this)
        clear HA
        go_wp2_with fail
        go_ret
        exact ⟨by rw [HT.out]; rfl, HS.out⟩
  · have hnI : ((l.length : Int) != (l'.length : Int)) = true := by simp; omega
    have HT : Hid (sameR l l' = false) := Lib.hid (decide_eq_false fun e => hn (by rw [e]))
    generalize l.length = n at *
    generalize l'.length = n' at *
    go_wp2_with fail
    go_ret
    exact ⟨by rw [HT.out]; rfl, S0.out⟩
end Go.Proofs.Ytbdbnjbafampaaa
