import Derived.Test.YtmjojahkbjlcdaaDoorProg
import Derived.Test.YtmjojahkbjlcdaaDoorX3
import Derived.Test.YtmjojahkbjlcdaaDoorX4
import Derived.WalkKit
import Derived.WalkLawsBesides
import Derived.WalkSpells
import Derived.Outline
import Derived.Lib.Walk
import Derived.Lib.Hide
import Derived.RegionTactic
import Derived.LoopTactic
import Derived.Below
import Derived.IntWalk
import Derived.Deep.QuietTactic
import Derived.BigQuiet
import Derived.Test.YtmjojahkbjlcdaaDoorG57
import Derived.Test.YtmjojahkbjlcdaaDoorG60
import Derived.Test.YtmjojahkbjlcdaaDoorG61
namespace Go.Proofs.YtmjojahkbjlcdaaDoor
set_option linter.unusedSimpArgs false
set_option linter.unusedVariables false
set_option maxRecDepth 100000
open Go.RowKit

/- RegsBack: the walks. -/
theorem prt_hid {t : RT} (hok : okT t) (hw : wid t ≤ 9223372036854775806) {R : List UInt8} {F : Int} (hp : prtP t = (R, F)) {D : Nat → Prop} {v : Value} {y : World} (hD : ∀ b, D b → b < y.heap.size) (h : RV D y t v) :
    Hid (∀ z, Below y.heap.size y z → Calls Tryd.prog 25 #[v] z fun e w' => e = .returned (.tuple #[.string (bs R), .int .i64 F]) ∧ Below z.heap.size z w') := Lib.hid fun z hb => by
  have := printr_any (w := z) (D := D) (fun b hd => Nat.lt_of_lt_of_le (hD b hd) hb.size) hw hok (RV.mono (fun b h => h) (fun b hb' _ => hb.block b (hD b hb')) h)
  rwa [hp] at this
theorem big_hid {t : RT} (m : Nat) (hm : sz t ≤ m) (hm2 : m ≤ 1000000) {D : Nat → Prop} {v : Value} {y : World} (hD : ∀ b, D b → b < y.heap.size) (h : RV D y t v) :
    Hid (∀ z, Below y.heap.size y z → Calls Tryd.prog 13 #[v, .int .i64 (m : Nat)] z fun e w' => e = .returned (.bool false) ∧ Below z.heap.size z w') := Lib.hid fun z hb =>
  big_walk m hm hm2 (fun b hd => Nat.lt_of_lt_of_le (hD b hd) hb.size) (RV.mono (fun b h => h) (fun b hb' _ => hb.block b (hD b hb')) h)
theorem same_hid {t : RT} (hw : wid t ≤ 9223372036854775806) {D E : Nat → Prop} {v v' : Value} {y : World} (hD : ∀ b, D b → b < y.heap.size) (hE : ∀ b, E b → b < y.heap.size) (h : RV D y t v) (h' : RV E y t v') :
    Hid (∀ z, Below y.heap.size y z → Calls Tryd.prog 23 #[v, v'] z fun e w' => e = .returned (.bool true) ∧ Below z.heap.size z w') := Lib.hid fun z hb =>
  same_true _ t (Nat.le_refl _) hw (fun b hd => Nat.lt_of_lt_of_le (hD b hd) hb.size) (fun b hd => Nat.lt_of_lt_of_le (hE b hd) hb.size) (RV.mono (fun b h => h) (fun b hb' _ => hb.block b (hD b hb')) h) (RV.mono (fun b h => h) (fun b hb' _ => hb.block b (hE b hb')) h')
theorem alive_hid {y : World} (hw0 : 0 < y.heap.size) (hT : Tb y) : Hid (∀ z, Below y.heap.size y z → Calls Tryd.prog 16 #[] z fun e w' => e = .returned (.bool true) ∧ Below z.heap.size z w') := Lib.hid fun z hb =>
  alive_any z (by have := hb.size; omega) (hT.mono (hb.block 0 hw0))
set_option maxHeartbeats 8000000 in
theorem back_err {s : ByteArray} {t : RT} {m E : Int} {w : World} (hE : (E != 0) = true) (hw0 : 0 < w.heap.size) (hT : Tb w) (P1 : Hid (∀ w, Calls Tryd.prog 21 #[.string s] w (PP t m E w))) :
    Calls Tryd.prog 7 #[.string s] w fun e w' => e = .returned (.bool true) ∧ Below w.heap.size w w' := by
  have HA := alive_hid hw0 hT
  clear hT
  go_enter Tryd.func7, Tryd.ntmps7
  go_wp2_with fail
  refine (P1.out _).mono ?_
  rintro _ w1 ⟨⟨v, rfl, hv⟩, hb⟩
  obtain ⟨k, u, p, n, c, rfl⟩ := hv.form2
  unfold ret3
  have S1 := Lib.hid (hb.alloc hb.size (.cells #[.int .i64 k, .int .u64 (u 0), .int .u64 (u 1), .int .u64 (u 2), .int .u64 (u 3), .slice p n c] 27) : Below w.heap.size w _)
  clear hb hv
  go_wp2_with fail
  refine (HA.out _ S1.out).mono ?_
  rintro _ w3 ⟨rfl, hb⟩
  have S3 := Lib.hid (S1.out.trans (hb.mono S1.out.size))
  clear hb HA S1
  go_wp2
  go_ret
  exact ⟨rfl, S3.out⟩
set_option maxHeartbeats 8000000 in
theorem back_long {s : ByteArray} {t : RT} {m : Int} {w : World} {R : List UInt8} (hw0 : 0 < w.heap.size) (hT : Tb w) (P1 : Hid (∀ w, Calls Tryd.prog 21 #[.string s] w (PP t m 0 w))) (hok : okT t) (hwd : wid t ≤ 9223372036854775806) (hPr : prtP t = (R, 3)) :
    Calls Tryd.prog 7 #[.string s] w fun e w' => e = .returned (.bool true) ∧ Below w.heap.size w w' := by
  have HT := Lib.hid hT
  clear hT
  go_enter Tryd.func7, Tryd.ntmps7
  go_wp2_with fail
  refine (P1.out _).mono ?_
  rintro _ w1 ⟨⟨v, rfl, hv⟩, hb⟩
  obtain ⟨k, u, p, n, c, rfl⟩ := hv.form2
  unfold ret3
  have S1 := Lib.hid (hb.alloc hb.size (.cells #[.int .i64 k, .int .u64 (u 0), .int .u64 (u 1), .int .u64 (u 2), .int .u64 (u 3), .slice p n c] 27) : Below w.heap.size w _)
  have B1 := Lib.hid (PBox.new (k := k) (u := u) (fun b h => h.2) hv)
  unfold nodeC at B1
  clear hb hv
  go_upto_region 4 with fail
  refine at_world (fun y => Rst w w1.heap.size w1.heap.size t t y) ⟨B1.out, B1.out, S1.out, HT.out.mono (S1.out.block 0 hw0), by have := S1.out.size; omega⟩ fun y hy => ?_
  have R1 := Lib.hid hy
  clear B1 S1 hy
  generalize w1.heap.size = b1 at *
  obtain ⟨k1, u1, p1, n1, c1, ah, av⟩ := R1.out.1
  have a0 : y.cell? ⟨b1, 0, none⟩ = some (.int .i64 k1) := cell_of_row y b1 0 _ 27 (0, 0) ah
  have a1 : y.cell? ⟨b1, 1, none⟩ = some (.int .u64 (u1 0)) := cell_of_row y b1 1 _ 27 (0, 0) ah
  have a2 : y.cell? ⟨b1, 2, none⟩ = some (.int .u64 (u1 1)) := cell_of_row y b1 2 _ 27 (0, 0) ah
  have a3 : y.cell? ⟨b1, 3, none⟩ = some (.int .u64 (u1 2)) := cell_of_row y b1 3 _ 27 (0, 0) ah
  have a4 : y.cell? ⟨b1, 4, none⟩ = some (.int .u64 (u1 3)) := cell_of_row y b1 4 _ 27 (0, 0) ah
  have a5 : y.cell? ⟨b1, 5, none⟩ = some (.slice p1 n1 c1) := cell_of_row y b1 5 _ 27 (0, 0) ah
  have az : b1 < y.heap.size := (Array.getElem?_eq_some_iff.1 ah).1
  have HM := prt_hid hok hwd hPr (fun b h => h) av
  unfold nodeC at HM
  clear ah av
  go_wp2_with fail
  refine (HM.out _ (Below.refl _ _)).mono ?_
  rintro _ y1 ⟨rfl, hb⟩
  have R2 := Lib.hid (R1.out.up hb)
  clear R1 HM hb a0 a1 a2 a3 a4 a5 az
  have HA := alive_hid R2.out.2.2.2.2 R2.out.2.2.2.1
  go_wp2_with fail
  refine (HA.out _ (Below.refl _ _)).mono ?_
  rintro _ y2 ⟨rfl, hb⟩
  have R3 := Lib.hid (R2.out.up hb)
  clear hb HA R2
  go_wp2
  go_ret
  exact ⟨rfl, R3.out.2.2.1⟩
set_option maxHeartbeats 8000000 in
theorem back_ok {s : ByteArray} {t : RT} {m : Int} {w : World} {R : List UInt8} (hw0 : 0 < w.heap.size) (hT : Tb w) (P1 : Hid (∀ w, Calls Tryd.prog 21 #[.string s] w (PP t m 0 w))) (hok : okT t) (hwd : wid t ≤ 9223372036854775806) (hsz : sz t ≤ 600) (hPr : prtP t = (R, 0)) {m2 : Int} (P2 : Hid (∀ w, Calls Tryd.prog 21 #[.string (bs R)] w (PP t m2 0 w))) :
    Calls Tryd.prog 7 #[.string s] w fun e w' => e = .returned (.bool true) ∧ Below w.heap.size w w' := by
  have HT := Lib.hid hT
  clear hT
  go_enter Tryd.func7, Tryd.ntmps7
  go_wp2_with fail
  refine (P1.out _).mono ?_
  rintro _ w1 ⟨⟨v, rfl, hv⟩, hb⟩
  obtain ⟨k, u, p, n, c, rfl⟩ := hv.form2
  unfold ret3
  have S1 := Lib.hid (hb.alloc hb.size (.cells #[.int .i64 k, .int .u64 (u 0), .int .u64 (u 1), .int .u64 (u 2), .int .u64 (u 3), .slice p n c] 27) : Below w.heap.size w _)
  have B1 := Lib.hid (PBox.new (k := k) (u := u) (fun b h => h.2) hv)
  unfold nodeC at B1
  clear hb hv
  go_upto_region 4 with fail
  refine at_world (fun y => Rst w w1.heap.size w1.heap.size t t y) ⟨B1.out, B1.out, S1.out, HT.out.mono (S1.out.block 0 hw0), by have := S1.out.size; omega⟩ fun y hy => ?_
  have R1 := Lib.hid hy
  clear B1 S1 hy
  generalize w1.heap.size = b1 at *
  obtain ⟨k1, u1, p1, n1, c1, ah, av⟩ := R1.out.1
  have a0 : y.cell? ⟨b1, 0, none⟩ = some (.int .i64 k1) := cell_of_row y b1 0 _ 27 (0, 0) ah
  have a1 : y.cell? ⟨b1, 1, none⟩ = some (.int .u64 (u1 0)) := cell_of_row y b1 1 _ 27 (0, 0) ah
  have a2 : y.cell? ⟨b1, 2, none⟩ = some (.int .u64 (u1 1)) := cell_of_row y b1 2 _ 27 (0, 0) ah
  have a3 : y.cell? ⟨b1, 3, none⟩ = some (.int .u64 (u1 2)) := cell_of_row y b1 3 _ 27 (0, 0) ah
  have a4 : y.cell? ⟨b1, 4, none⟩ = some (.int .u64 (u1 3)) := cell_of_row y b1 4 _ 27 (0, 0) ah
  have a5 : y.cell? ⟨b1, 5, none⟩ = some (.slice p1 n1 c1) := cell_of_row y b1 5 _ 27 (0, 0) ah
  have az : b1 < y.heap.size := (Array.getElem?_eq_some_iff.1 ah).1
  have HM := prt_hid hok hwd hPr (fun b h => h) av
  unfold nodeC at HM
  clear ah av
  go_wp2_with fail
  refine (HM.out _ (Below.refl _ _)).mono ?_
  rintro _ y1 ⟨rfl, hb⟩
  have R2 := Lib.hid (R1.out.up hb)
  clear R1 HM hb a0 a1 a2 a3 a4 a5 az
  go_wp2_with fail
  refine (P2.out _).mono ?_
  rintro _ w2 ⟨⟨v, rfl, hv⟩, hb⟩
  obtain ⟨k, u, p, n, c, rfl⟩ := hv.form2
  unfold ret3
  have R3 := Lib.hid ((R2.out.up hb).up ((Below.refl _ _).alloc (Nat.le_refl _) (.cells #[.int .i64 k, .int .u64 (u 0), .int .u64 (u 1), .int .u64 (u 2), .int .u64 (u 3), .slice p n c] 27)))
  have B2 := Lib.hid (PBox.new (k := k) (u := u) (fun b h => h.2) hv)
  unfold nodeC at B2
  clear hb hv R2
  go_upto_region 8 with fail
  refine at_world (fun y => Rst w b1 w2.heap.size t t y) ⟨R3.out.1, B2.out, R3.out.2.2⟩ fun z hz => ?_
  have R4 := Lib.hid hz
  clear R3 B2 hz
  generalize w2.heap.size = b2 at *
  obtain ⟨k1, u1, p1, n1, c1, ah, av⟩ := R4.out.1
  have a0 : z.cell? ⟨b1, 0, none⟩ = some (.int .i64 k1) := cell_of_row z b1 0 _ 27 (0, 0) ah
  have a1 : z.cell? ⟨b1, 1, none⟩ = some (.int .u64 (u1 0)) := cell_of_row z b1 1 _ 27 (0, 0) ah
  have a2 : z.cell? ⟨b1, 2, none⟩ = some (.int .u64 (u1 1)) := cell_of_row z b1 2 _ 27 (0, 0) ah
  have a3 : z.cell? ⟨b1, 3, none⟩ = some (.int .u64 (u1 2)) := cell_of_row z b1 3 _ 27 (0, 0) ah
  have a4 : z.cell? ⟨b1, 4, none⟩ = some (.int .u64 (u1 3)) := cell_of_row z b1 4 _ 27 (0, 0) ah
  have a5 : z.cell? ⟨b1, 5, none⟩ = some (.slice p1 n1 c1) := cell_of_row z b1 5 _ 27 (0, 0) ah
  have az : b1 < z.heap.size := (Array.getElem?_eq_some_iff.1 ah).1
  have HM := big_hid 600 hsz (by omega) (fun b h => h) av
  unfold nodeC at HM
  clear ah av
  go_wp2_with fail
  refine (HM.out _ (Below.refl _ _)).mono ?_
  rintro _ z1 ⟨rfl, hb⟩
  have R5 := Lib.hid (R4.out.up hb)
  clear R4 HM hb a0 a1 a2 a3 a4 a5 az
  obtain ⟨k2, u2, p2, n2, c2, ah, av⟩ := R5.out.2.1
  have a0 : z1.cell? ⟨b2, 0, none⟩ = some (.int .i64 k2) := cell_of_row z1 b2 0 _ 27 (0, 0) ah
  have a1 : z1.cell? ⟨b2, 1, none⟩ = some (.int .u64 (u2 0)) := cell_of_row z1 b2 1 _ 27 (0, 0) ah
  have a2 : z1.cell? ⟨b2, 2, none⟩ = some (.int .u64 (u2 1)) := cell_of_row z1 b2 2 _ 27 (0, 0) ah
  have a3 : z1.cell? ⟨b2, 3, none⟩ = some (.int .u64 (u2 2)) := cell_of_row z1 b2 3 _ 27 (0, 0) ah
  have a4 : z1.cell? ⟨b2, 4, none⟩ = some (.int .u64 (u2 3)) := cell_of_row z1 b2 4 _ 27 (0, 0) ah
  have a5 : z1.cell? ⟨b2, 5, none⟩ = some (.slice p2 n2 c2) := cell_of_row z1 b2 5 _ 27 (0, 0) ah
  have az : b2 < z1.heap.size := (Array.getElem?_eq_some_iff.1 ah).1
  have HM := big_hid 600 hsz (by omega) (fun b h => h) av
  unfold nodeC at HM
  clear ah av
  go_wp2_with fail
  refine (HM.out _ (Below.refl _ _)).mono ?_
  rintro _ z2 ⟨rfl, hb⟩
  have R6 := Lib.hid (R5.out.up hb)
  clear R5 HM hb a0 a1 a2 a3 a4 a5 az
  obtain ⟨k3, u3, p3, n3, c3, ah, av⟩ := R6.out.1
  have a0 : z2.cell? ⟨b1, 0, none⟩ = some (.int .i64 k3) := cell_of_row z2 b1 0 _ 27 (0, 0) ah
  have a1 : z2.cell? ⟨b1, 1, none⟩ = some (.int .u64 (u3 0)) := cell_of_row z2 b1 1 _ 27 (0, 0) ah
  have a2 : z2.cell? ⟨b1, 2, none⟩ = some (.int .u64 (u3 1)) := cell_of_row z2 b1 2 _ 27 (0, 0) ah
  have a3 : z2.cell? ⟨b1, 3, none⟩ = some (.int .u64 (u3 2)) := cell_of_row z2 b1 3 _ 27 (0, 0) ah
  have a4 : z2.cell? ⟨b1, 4, none⟩ = some (.int .u64 (u3 3)) := cell_of_row z2 b1 4 _ 27 (0, 0) ah
  have a5 : z2.cell? ⟨b1, 5, none⟩ = some (.slice p3 n3 c3) := cell_of_row z2 b1 5 _ 27 (0, 0) ah
  have az : b1 < z2.heap.size := (Array.getElem?_eq_some_iff.1 ah).1
  obtain ⟨k4, u4, p4, n4, c4, dh, dv⟩ := R6.out.2.1
  have d0 : z2.cell? ⟨b2, 0, none⟩ = some (.int .i64 k4) := cell_of_row z2 b2 0 _ 27 (0, 0) dh
  have d1 : z2.cell? ⟨b2, 1, none⟩ = some (.int .u64 (u4 0)) := cell_of_row z2 b2 1 _ 27 (0, 0) dh
  have d2 : z2.cell? ⟨b2, 2, none⟩ = some (.int .u64 (u4 1)) := cell_of_row z2 b2 2 _ 27 (0, 0) dh
  have d3 : z2.cell? ⟨b2, 3, none⟩ = some (.int .u64 (u4 2)) := cell_of_row z2 b2 3 _ 27 (0, 0) dh
  have d4 : z2.cell? ⟨b2, 4, none⟩ = some (.int .u64 (u4 3)) := cell_of_row z2 b2 4 _ 27 (0, 0) dh
  have d5 : z2.cell? ⟨b2, 5, none⟩ = some (.slice p4 n4 c4) := cell_of_row z2 b2 5 _ 27 (0, 0) dh
  have dz : b2 < z2.heap.size := (Array.getElem?_eq_some_iff.1 dh).1
  have HM := same_hid hwd (fun b h => h) (fun b h => h) av dv
  unfold nodeC at HM
  clear ah av dh dv
  go_wp2_with fail
  refine (HM.out _ (Below.refl _ _)).mono ?_
  rintro _ z3 ⟨rfl, hb⟩
  have R7 := Lib.hid (R6.out.up hb)
  clear R6 HM hb a0 a1 a2 a3 a4 a5 az d0 d1 d2 d3 d4 d5 dz
  have HA := alive_hid R7.out.2.2.2.2 R7.out.2.2.2.1
  go_wp2_with fail
  refine (HA.out _ (Below.refl _ _)).mono ?_
  rintro _ z4 ⟨rfl, hb⟩
  have R8 := Lib.hid (R7.out.up hb)
  clear hb HA R7
  go_wp2
  go_ret
  exact ⟨rfl, R8.out.2.2.1⟩
theorem PP.te {t t' : RT} {m E : Int} {w w' : World} {e : Ending} (h : PP t m E w e w') (ht : TeT t t') : PP t' m E w e w' := by
  obtain ⟨⟨v, h1, h2⟩, h3⟩ := h
  exact ⟨⟨v, h1, rv_te h2 _ ht⟩, h3⟩
theorem back_any (s : ByteArray) (hs : s.size ≤ 9223372036854775807) (w : World) (hw0 : 0 < w.heap.size) (hT : Tb w) :
    Calls Tryd.prog 7 #[.string s] w fun e w' => e = .returned (.bool true) ∧ Below w.heap.size w w' := by
  obtain ⟨⟨t, m, E⟩, e1⟩ : ∃ p, prsR s.data.toList = p := ⟨_, rfl⟩
  have P1 := prs_hid s hs e1
  by_cases h1 : E = 0
  · subst h1
    obtain ⟨w1, d1, l1, _⟩ := prs_ok e1
    have g := gd_whole w1
    have hz := wholeF_sz w1
    have hwd : wid t ≤ 9223372036854775806 := by have := wid_sz t; omega
    by_cases hc : checkE t = 0
    · by_cases hl : 256 < (wrT t).length
      · exact back_long (R := []) hw0 hT P1 g.2 hwd (by unfold prtP; rw [if_neg (by omega), if_pos hl])
      · have hn := nf_whole w1
        have hb := whole_back hn
        have ht := cn_te t hn g
        have hq : prsR (bs (wrT t)).data.toList = (cnT t, 0, 0) := by
          show prsR (wrT t) = _
          rw [prs_of hb (by omega), if_neg (by rw [te_dep ht]; omega)]
        have P2 := prs_hid (bs (wrT t)) (by show (wrT t).length ≤ _; omega) hq
        exact back_ok hw0 hT P1 g.2 hwd (by omega) (by unfold prtP; rw [if_neg (by omega), if_neg hl]) (Lib.hid fun w => (P2.out w).mono fun e w' k => k.te ht)
    · refine back_long (R := []) hw0 hT P1 g.2 hwd ?_
      have h3 : checkE t = 3 := by
        unfold checkE at hc ⊢
        by_cases hz : 512 < sz t
        · rw [if_pos hz]
        · rw [if_neg hz, if_neg (by omega), if_pos g.1] at hc
          exact absurd rfl hc
      unfold prtP
      rw [if_pos (by omega), h3]
  · exact back_err (by rw [bne_iff_ne]; exact h1) hw0 hT P1
end Go.Proofs.YtmjojahkbjlcdaaDoor
