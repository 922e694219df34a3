/- Package nfa. -/
import Derived.Test.YtnhfeakndofokaaProg
import Derived.Test.YtnhfeakndofokaaX19
import Derived.Test.YtnhfeakndofokaaX26
import Derived.WalkKit
import Derived.WalkLawsBesides
import Derived.WalkSpells
import Derived.Outline
import Derived.Lib.Walk
import Derived.Lib.Hide
import Derived.Lib.Slices
import Derived.Lib.Strings
import Derived.RegionTactic
import Derived.LoopTactic
import Derived.Below
import Derived.IntWalk
import Derived.Deep.QuietTactic
import Derived.BigQuiet
import Derived.Deep.MidRow
import Derived.Maps.AppendAt
import Derived.Laws.Rows
import Derived.Laws.Tables
import Derived.Deep.WholeRow
import Derived.Deep.Cut
import Derived.Deep.CutRange
import Derived.Lib.SliceRun
import Derived.Laws.MakeOwn
import Derived.Deep.RegionLaw
import Derived.Deep.RegionLawGrows
import Derived.Deep.RegionHeld3
import Derived.RegionCalls
import Derived.Deep.RegionWith
namespace Go.Proofs.Ytnhfeakndofokaa
set_option linter.unusedSimpArgs false
set_option linter.unusedVariables false
set_option maxRecDepth 100000
open Go.RowKit
/- NfaChecks: the walk. -/
theorem keep4 {v1 v2 v3 v4 : Value} {b1 b2 : Nat} {w0 w w' : World} (h : w.cell? ⟨b1, 0, none⟩ = some v1 ∧ w.cell? ⟨b1, 1, none⟩ = some v2 ∧ w.cell? ⟨b2, 0, none⟩ = some v3 ∧ w.cell? ⟨b2, 1, none⟩ = some v4 ∧ b1 < w.heap.size ∧ b2 < w.heap.size ∧ Below w0.heap.size w0 w) (hb : Below w.heap.size w w') :
    w'.cell? ⟨b1, 0, none⟩ = some v1 ∧ w'.cell? ⟨b1, 1, none⟩ = some v2 ∧ w'.cell? ⟨b2, 0, none⟩ = some v3 ∧ w'.cell? ⟨b2, 1, none⟩ = some v4 ∧ b1 < w'.heap.size ∧ b2 < w'.heap.size ∧ Below w0.heap.size w0 w' := by
  obtain ⟨h1, h2, h3, h4, z1, z2, K⟩ := h
  exact ⟨(hb.cell (p := ⟨b1, 0, none⟩) z1).trans h1, (hb.cell (p := ⟨b1, 1, none⟩) z1).trans h2, (hb.cell (p := ⟨b2, 0, none⟩) z2).trans h3, (hb.cell (p := ⟨b2, 1, none⟩) z2).trans h4, Nat.lt_of_lt_of_le z1 hb.size, Nat.lt_of_lt_of_le z2 hb.size, K.trans (hb.mono K.size)⟩
theorem keep4_b {v1 v2 v3 v4 : Value} {b1 b2 : Nat} {w0 w : World} (h : w.cell? ⟨b1, 0, none⟩ = some v1 ∧ w.cell? ⟨b1, 1, none⟩ = some v2 ∧ w.cell? ⟨b2, 0, none⟩ = some v3 ∧ w.cell? ⟨b2, 1, none⟩ = some v4 ∧ b1 < w.heap.size ∧ b2 < w.heap.size ∧ Below w0.heap.size w0 w) : Below w0.heap.size w0 w := h.2.2.2.2.2.2
theorem big_chk {st : Int} {ss : List Nst} (h : bigN 30000 ss = true) : chkN st ss = 3 := by
  unfold bigN at h
  rw [decide_eq_true_eq] at h
  have := capF_le 30000 ss
  unfold chkN tooM
  rw [if_pos]
  simp only [Bool.or_eq_true, decide_eq_true_eq]
  omega
theorem frees_mem : ∀ {ss : List Nst} {s : Nst}, s ∈ ss → s.fr.length ≤ frees ss
  | x :: r, s, h => by
    rw [frees]
    rcases List.mem_cons.1 h with rfl | h
    · omega
    · have := frees_mem h; omega
set_option maxHeartbeats 16000000 in
theorem checks_any {D : Nat → Prop} {w : World} {st : Int} {ss : List Nst} {q : Option Addr} {c : Nat} (hD : ∀ b, D b → b < w.heap.size) (hSV : SV D w ss (.slice q ss.length c)) (hfl : ∀ s ∈ ss, s.fr.length ≤ 9223372036854775806) (hln : ss.length ≤ 9223372036854775806) :
    Calls Try.prog 3 #[nV st q ss.length c] w fun e w' => e = .returned (.bool true) ∧ Below w.heap.size w w' := by
  have S0 := Lib.hid ((Below.refl w.heap.size w).alloc (Nat.le_refl _) (.cells #[.int .i64 st, .slice q ss.length c] 24))
  have HBIG := Lib.hid fun z (hb : Below w.heap.size w z) => big_any (w := z) (st := st) 30000 (by omega) (fun b h => Nat.lt_of_lt_of_le (hD b h) hb.size) (hSV.mono (fun b h => h) (fun b h _ => hb.block b (hD b h))) hfl hln
  have HCK := Lib.hid fun z (hb : Below w.heap.size w z) => check_any (w := z) (st := st) (fun b h => Nat.lt_of_lt_of_le (hD b h) hb.size) (hSV.mono (fun b h => h) (fun b h _ => hb.block b (hD b h))) hfl hln
  have HRC := Lib.hid fun z (hb : Below w.heap.size w z) => refcheck_any (w := z) (st := st) (fun b h => Nat.lt_of_lt_of_le (hD b h) hb.size) (hSV.mono (fun b h => h) (fun b h _ => hb.block b (hD b h))) hfl hln
  unfold nV at HBIG HCK HRC ⊢
  by_cases hbig : bigN 30000 ss = true
  · have h3 : chkN st ss = 3 := big_chk hbig
    rw [hbig] at HBIG
    rw [h3] at HCK
    clear hSV hfl hln hD HRC h3 hbig
    go_enter Try.func3, Try.ntmps3
    go_wp2_with fail
    refine (HBIG.out _ S0.out).mono ?_
    rintro _ w1 ⟨rfl, hb1⟩
    have S1 := Lib.hid (S0.out.trans (hb1.mono S0.out.size))
    have k0 : w1.cell? ⟨w.heap.size, 0, none⟩ = some (.int .i64 st) := (hb1.cell (p := ⟨w.heap.size, 0, none⟩) (by simp)).trans (cell_of_row _ _ 0 _ 24 (0, 0) (heap_alloc_last w _))
    have k1 : w1.cell? ⟨w.heap.size, 1, none⟩ = some (.slice q ss.length c) := (hb1.cell (p := ⟨w.heap.size, 1, none⟩) (by simp)).trans (cell_of_row _ _ 1 _ 24 (0, 0) (heap_alloc_last w _))
    clear hb1 HBIG S0
    go_wp2_with fail
    refine (HCK.out _ S1.out).mono ?_
    rintro _ w2 ⟨rfl, hb2⟩
    have S2 := Lib.hid (S1.out.trans (hb2.mono S1.out.size))
    have HA := Lib.hid (alive_any w2)
    clear hb2 HCK S1 k0 k1
    go_wp2_with fail
    refine HA.out.mono ?_
    rintro _ w3 ⟨rfl, hb3⟩
    have S3 := Lib.hid (S2.out.trans (hb3.mono S2.out.size))
    clear hb3 HA S2
    go_wp2
    go_ret
    exact ⟨rfl, S3.out⟩
  · have hbig' : bigN 30000 ss = false := by simpa using hbig
    have hno := bigN_no hbig'
    have hln2 : ss.length ≤ 1000000 := by omega
    have hfl2 : ∀ s ∈ ss, s.fr.length ≤ 1000000 := fun s hs => by have := frees_mem hs; omega
    rw [hbig'] at HBIG
    have HTW := Lib.hid fun z (hb : Below w.heap.size w z) => twin_nfa (w := z) (st := st) (fun b h => Nat.lt_of_lt_of_le (hD b h) hb.size) (hSV.mono (fun b h => h) (fun b h _ => hb.block b (hD b h))) hfl2 hln2
    unfold nV at HTW
    have HSV := Lib.hid hSV
    have HD := Lib.hid hD
    have HFL := Lib.hid hfl2
    have HLN := Lib.hid hln2
    clear hSV hfl hln hD hbig hbig' hno hln2 hfl2
    go_enter Try.func3, Try.ntmps3
    go_wp2_with fail
    refine (HBIG.out _ S0.out).mono ?_
    rintro _ w1 ⟨rfl, hb1⟩
    have S1 := Lib.hid (S0.out.trans (hb1.mono S0.out.size))
    have k0 : w1.cell? ⟨w.heap.size, 0, none⟩ = some (.int .i64 st) := (hb1.cell (p := ⟨w.heap.size, 0, none⟩) (by simp)).trans (cell_of_row _ _ 0 _ 24 (0, 0) (heap_alloc_last w _))
    have k1 : w1.cell? ⟨w.heap.size, 1, none⟩ = some (.slice q ss.length c) := (hb1.cell (p := ⟨w.heap.size, 1, none⟩) (by simp)).trans (cell_of_row _ _ 1 _ 24 (0, 0) (heap_alloc_last w _))
    have hz1 : w.heap.size < w1.heap.size := Nat.lt_of_lt_of_le (by simp) hb1.size
    clear hb1 HBIG S0
    go_wp2_with fail
    refine (HTW.out _ S1.out).mono ?_
    rintro _ w2 ⟨g, cap, zs, rfl, hz, hT, hb2⟩
    have HZ := Lib.hid hz
    have HT := Lib.hid hT
    have S2 := Lib.hid (S1.out.trans (hb2.mono S1.out.size))
    have HB3 := Lib.hid ((Below.refl w2.heap.size w2).alloc (Nat.le_refl _) (.cells #[.int .i64 st, .slice (some ⟨g, 0, none⟩) ss.length cap] 24))
    have k0 : (w2.alloc (.cells #[.int .i64 st, .slice (some ⟨g, 0, none⟩) ss.length cap] 24)).cell? ⟨w.heap.size, 0, none⟩ = some (.int .i64 st) := (HB3.out.cell (p := ⟨w.heap.size, 0, none⟩) (Nat.lt_of_lt_of_le hz1 hb2.size)).trans ((hb2.cell (p := ⟨w.heap.size, 0, none⟩) hz1).trans k0)
    have k1 : (w2.alloc (.cells #[.int .i64 st, .slice (some ⟨g, 0, none⟩) ss.length cap] 24)).cell? ⟨w.heap.size, 1, none⟩ = some (.slice q ss.length c) := (HB3.out.cell (p := ⟨w.heap.size, 1, none⟩) (Nat.lt_of_lt_of_le hz1 hb2.size)).trans ((hb2.cell (p := ⟨w.heap.size, 1, none⟩) hz1).trans k1)
    have hz2 : w.heap.size < w2.heap.size := Nat.lt_of_lt_of_le hz1 hb2.size
    clear hb2 HTW S1 hz hT hz1
    have l0 : (w2.alloc (.cells #[.int .i64 st, .slice (some ⟨g, 0, none⟩) ss.length cap] 24)).cell? ⟨w2.heap.size, 0, none⟩ = some (.int .i64 st) := cell_of_row _ _ 0 _ 24 (0, 0) (heap_alloc_last w2 _)
    have l1 : (w2.alloc (.cells #[.int .i64 st, .slice (some ⟨g, 0, none⟩) ss.length cap] 24)).cell? ⟨w2.heap.size, 1, none⟩ = some (.slice (some ⟨g, 0, none⟩) ss.length cap) := cell_of_row _ _ 1 _ 24 (0, 0) (heap_alloc_last w2 _)
    have y1 : w.heap.size < (w2.alloc (.cells #[.int .i64 st, .slice (some ⟨g, 0, none⟩) ss.length cap] 24)).heap.size := Nat.lt_of_lt_of_le hz2 HB3.out.size
    have y2 : w2.heap.size < (w2.alloc (.cells #[.int .i64 st, .slice (some ⟨g, 0, none⟩) ss.length cap] 24)).heap.size := by simp
    have HBW : Hid (Below w.heap.size w (w2.alloc (.cells #[.int .i64 st, .slice (some ⟨g, 0, none⟩) ss.length cap] 24))) := Lib.hid (S2.out.trans (HB3.out.mono S2.out.size))
    have HT2 := Lib.hid (HT.out.up HB3.out)
    clear HT S2 HB3 hz2
    go_wp2_with fail
    obtain ⟨tb, htb⟩ : ∃ tb, w2.heap.size = tb := ⟨_, rfl⟩
    rw [htb] at l0 l1 y2 ⊢
    obtain ⟨B, hB⟩ : ∃ B, w1.heap.size = B := ⟨_, rfl⟩
    rw [hB] at HT2
    obtain ⟨wv, hwv⟩ : ∃ wv, w2.alloc (.cells #[.int .i64 st, .slice (some ⟨g, 0, none⟩) ss.length cap] 24) = wv := ⟨_, rfl⟩
    rw [hwv] at l0 l1 y2 y1 k0 k1 HBW HT2 ⊢
    clear hwv hB htb
    have HCT : Hid (∀ z : World, Below wv.heap.size wv z → Calls Try.prog 9 #[.agg #[.int .i64 st, .slice (some ⟨g, 0, none⟩) ss.length cap]] z fun e w' => e = .returned (.int .i64 (chkN st ss)) ∧ Below z.heap.size z w') := Lib.hid fun z hb => check_any (w := z) (st := st) (fun b h => h.2) (tn_sv (HT2.out.up hb) HZ.out cap) (fun s hs => by have := HFL.out s hs; omega) (by have := HLN.out; omega)
    have HRC2 : Hid (∀ z : World, Below wv.heap.size wv z → Calls Try.prog 12 #[.agg #[.int .i64 st, .slice q ss.length c]] z fun e w' => e = .returned (.int .i64 (chkN st ss)) ∧ Below z.heap.size z w') := Lib.hid fun z hb => HRC.out z (HBW.out.trans (hb.mono HBW.out.size))
    have HLF : Hid (∀ z : World, Below wv.heap.size wv z → Calls Try.prog 13 #[.agg #[.int .i64 st, .slice (some ⟨g, 0, none⟩) ss.length cap], .agg #[.int .i64 st, .slice q ss.length c]] z fun e w' => e = .returned (.bool true) ∧ Below z.heap.size z w') := Lib.hid fun z hb => by
      have hb2 := HBW.out.trans (hb.mono HBW.out.size)
      exact left_nfa (w := z) (st := st) (D := D) (fun b h => Nat.lt_of_lt_of_le (HD.out b h) hb2.size) (HSV.out.mono (fun b h => h) (fun b h _ => hb2.block b (HD.out b h))) HZ.out (HT2.out.up hb) HFL.out HLN.out
    have HAL : Hid (∀ z : World, Calls Try.prog 10 #[] z fun e w' => e = .returned (.bool true) ∧ Below z.heap.size z w') := Lib.hid alive_any
    clear HRC HCK HSV HD HFL HLN HZ HT2
    generalize chkN st ss = cn at *
    have hcn : (cn == cn) = true := by simp
    have hb0 := (Below.refl wv.heap.size wv).drew
    go_region_held3 (fun w' => w'.cell? ⟨w.heap.size, 0, none⟩ = some (.int .i64 st) ∧ w'.cell? ⟨w.heap.size, 1, none⟩ = some (.slice q ss.length c) ∧ w'.cell? ⟨tb, 0, none⟩ = some (.int .i64 st) ∧ w'.cell? ⟨tb, 1, none⟩ = some (.slice (some ⟨g, 0, none⟩) ss.length cap) ∧ w.heap.size < w'.heap.size ∧ tb < w'.heap.size ∧ Below wv.heap.size wv w')
      (first | assumption | exact ⟨k0, k1, l0, l1, y1, y2, hb0⟩ | exact keep4 (w := wv.drew) ⟨k0, k1, l0, l1, y1, y2, hb0⟩ hb | exact keep4 (by assumption) hb)
      (first | (go_at_call 9; refine (HCT.out _ (by first | exact hb0 | exact keep4_b (by assumption))).mono ?_; rintro _ w' ⟨rfl, hb⟩) | (go_at_call 12; refine (HRC2.out _ (by first | exact hb0 | exact keep4_b (by assumption))).mono ?_; rintro _ w' ⟨rfl, hb⟩) | (go_at_call 13; refine (HLF.out _ (by first | exact hb0 | exact keep4_b (by assumption))).mono ?_; rintro _ w' ⟨rfl, hb⟩) | (go_at_call 10; refine (HAL.out _).mono ?_; rintro _ w' ⟨rfl, hb⟩))
    have hE : Below wv.heap.size wv w' := keep4_b (by assumption)
    have HE := Lib.hid (HBW.out.trans (hE.mono HBW.out.size))
    go_wp2
    go_ret
    exact ⟨rfl, HE.out⟩
end Go.Proofs.Ytnhfeakndofokaa
