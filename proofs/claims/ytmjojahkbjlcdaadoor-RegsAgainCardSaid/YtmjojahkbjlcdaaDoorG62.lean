import Derived.Deep.RegionHeld3
import Derived.RegionCalls
import Derived.Deep.RegionWith
import Derived.Test.YtmjojahkbjlcdaaDoorProg
import Derived.Test.YtmjojahkbjlcdaaDoorX3
import Derived.Test.YtmjojahkbjlcdaaDoorX4
import Derived.WalkKit
import Derived.WalkLawsBesides
import Derived.WalkSpells
import Derived.Outline
import Derived.Lib.Walk
import Derived.Lib.Hide
import Derived.RegionTactic
import Derived.LoopTactic
import Derived.Below
import Derived.IntWalk
import Derived.Deep.QuietTactic
import Derived.BigQuiet
import Derived.Test.YtmjojahkbjlcdaaDoorG61
namespace Go.Proofs.YtmjojahkbjlcdaaDoor
set_option linter.unusedSimpArgs false
set_option linter.unusedVariables false
set_option maxRecDepth 100000
open Go.RowKit

/- RegsRow: the walk where both may be. -/
set_option maxHeartbeats 16000000 in
theorem alive_hidr {y : World} (hw0 : 0 < y.heap.size) (hT : Tb y) : Hid (∀ z, Below y.heap.size y z → Calls Tryd.prog 16 #[] z fun e w' => e = .returned (.bool true) ∧ Below z.heap.size z w') := Lib.hid fun z hb => alive_any z (by have := hb.size; omega) (hT.mono (hb.block 0 hw0))
set_option maxHeartbeats 16000000 in
theorem rowb_ok {s1 s2 : ByteArray} {x : List UInt8} {t1 t2 t3 t4 : RT} {m1 m2 m3 m4 : Int} {w : World} (h1 : s1.size ≤ 40) (h2 : s2.size ≤ 40) (h3 : x.length ≤ 40) (hw0 : 0 < w.heap.size) (hT : Tb w)
    (P1 : Hid (∀ w, Calls Tryd.prog 21 #[.string s1] w (PP t1 m1 0 w))) (P2 : Hid (∀ w, Calls Tryd.prog 21 #[.string s2] w (PP t2 m2 0 w)))
    (P3 : Hid (∀ w, Calls Tryd.prog 21 #[.string (⟨#[40]⟩ ++ s1 ++ ⟨#[41, 40]⟩ ++ s2 ++ ⟨#[41]⟩)] w (PP t3 m3 0 w))) (P4 : Hid (∀ w, Calls Tryd.prog 21 #[.string (⟨#[40]⟩ ++ s1 ++ ⟨#[41, 124, 40]⟩ ++ s2 ++ ⟨#[41]⟩)] w (PP t4 m4 0 w)))
    (K1 : checkE t1 = 0 ∧ okT t1) (K2 : checkE t2 = 0 ∧ okT t2) (K3 : checkE t3 = 0 ∧ okT t3) (K4 : checkE t4 = 0 ∧ okT t4)
    (hA : matB t3 x = pty t1 t2 x (x.length + 1)) (hB : matB t4 x = (matB t1 x || matB t2 x)) :
    Calls Tryd.prog 12 #[.string s1, .string s2, .string (bs x)] w fun e w' => e = .returned (.bool true) ∧ Below w.heap.size w w' := by
  have i1 : ¬ (40 : Int) < (s1.size : Int) := by omega
  have i2 : ¬ (40 : Int) < (s2.size : Int) := by omega
  have hxs : (bs x).size = x.length := rfl
  have i3 : ¬ (40 : Int) < ((bs x).size : Int) := by rw [hxs]; omega
  have HT := Lib.hid hT
  have Q1 := Lib.hid K1
  have Q2 := Lib.hid K2
  have Q3 := Lib.hid K3
  have Q4 := Lib.hid K4
  have HA := Lib.hid hA
  have HB := Lib.hid hB
  clear h1 h2 hT K1 K2 K3 K4 hA hB
  go_enter Tryd.func12, Tryd.ntmps12
  go_wp2_with fail
  refine (P1.out _).mono ?_
  rintro _ w1 ⟨⟨v, rfl, hv⟩, hb⟩
  obtain ⟨k, u, p, n, c, rfl⟩ := hv.form2
  unfold ret3
  have S1 := Lib.hid (hb.alloc hb.size (.cells #[.int .i64 k, .int .u64 (u 0), .int .u64 (u 1), .int .u64 (u 2), .int .u64 (u 3), .slice p n c] 27) : Below w.heap.size w _)
  have B1 := Lib.hid (PBox.new (k := k) (u := u) (fun b h => h.2) hv)
  have U1 := Lib.hid (show Below w1.heap.size w1 _ from (Below.refl _ _).alloc (Nat.le_refl _) (.cells (nodeC k u (.slice p n c)) 27))
  unfold nodeC at B1 U1
  have hz1 := hb.size
  clear hb hv
  go_wp2_with fail
  refine (P2.out _).mono ?_
  rintro _ w2 ⟨⟨v, rfl, hv⟩, hb⟩
  obtain ⟨k, u, p, n, c, rfl⟩ := hv.form2
  unfold ret3
  have S2 := Lib.hid ((S1.out.trans (hb.mono S1.out.size)).alloc (Nat.le_trans S1.out.size hb.size) (.cells #[.int .i64 k, .int .u64 (u 0), .int .u64 (u 1), .int .u64 (u 2), .int .u64 (u 3), .slice p n c] 27) : Below w.heap.size w _)
  have B2 := Lib.hid (PBox.new (k := k) (u := u) (fun b h => h.2) hv)
  unfold nodeC at B2
  have B1' := Lib.hid ((B1.out.up hb).up ((Below.refl _ _).alloc (Nat.le_refl _) (.cells #[.int .i64 k, .int .u64 (u 0), .int .u64 (u 1), .int .u64 (u 2), .int .u64 (u 3), .slice p n c] 27)))
  clear hb hv S1 B1 U1
  go_wp2_with fail
  refine (P3.out _).mono ?_
  rintro _ w3 ⟨⟨v, rfl, hv⟩, hb⟩
  obtain ⟨k, u, p, n, c, rfl⟩ := hv.form2
  unfold ret3
  have S3 := Lib.hid ((S2.out.trans (hb.mono S2.out.size)).alloc (Nat.le_trans S2.out.size hb.size) (.cells #[.int .i64 k, .int .u64 (u 0), .int .u64 (u 1), .int .u64 (u 2), .int .u64 (u 3), .slice p n c] 27) : Below w.heap.size w _)
  have B3 := Lib.hid (PBox.new (k := k) (u := u) (fun b h => h.2) hv)
  unfold nodeC at B3
  have B1 := Lib.hid ((B1'.out.up hb).up ((Below.refl _ _).alloc (Nat.le_refl _) (.cells #[.int .i64 k, .int .u64 (u 0), .int .u64 (u 1), .int .u64 (u 2), .int .u64 (u 3), .slice p n c] 27)))
  have B2' := Lib.hid ((B2.out.up hb).up ((Below.refl _ _).alloc (Nat.le_refl _) (.cells #[.int .i64 k, .int .u64 (u 0), .int .u64 (u 1), .int .u64 (u 2), .int .u64 (u 3), .slice p n c] 27)))
  clear hb hv S2 B1' B2
  go_wp2_with fail
  refine (P4.out _).mono ?_
  rintro _ w4 ⟨⟨v, rfl, hv⟩, hb⟩
  obtain ⟨k, u, p, n, c, rfl⟩ := hv.form2
  unfold ret3
  have S4 := Lib.hid ((S3.out.trans (hb.mono S3.out.size)).alloc (Nat.le_trans S3.out.size hb.size) (.cells #[.int .i64 k, .int .u64 (u 0), .int .u64 (u 1), .int .u64 (u 2), .int .u64 (u 3), .slice p n c] 27) : Below w.heap.size w _)
  have B4 := Lib.hid (PBox.new (k := k) (u := u) (fun b h => h.2) hv)
  unfold nodeC at B4
  have B1' := Lib.hid ((B1.out.up hb).up ((Below.refl _ _).alloc (Nat.le_refl _) (.cells #[.int .i64 k, .int .u64 (u 0), .int .u64 (u 1), .int .u64 (u 2), .int .u64 (u 3), .slice p n c] 27)))
  have B2 := Lib.hid ((B2'.out.up hb).up ((Below.refl _ _).alloc (Nat.le_refl _) (.cells #[.int .i64 k, .int .u64 (u 0), .int .u64 (u 1), .int .u64 (u 2), .int .u64 (u 3), .slice p n c] 27)))
  have B3' := Lib.hid ((B3.out.up hb).up ((Below.refl _ _).alloc (Nat.le_refl _) (.cells #[.int .i64 k, .int .u64 (u 0), .int .u64 (u 1), .int .u64 (u 2), .int .u64 (u 3), .slice p n c] 27)))
  clear hb hv S3 B1 B2' B3
  go_upto_region 11 with fail
  refine at_world (fun y => Rst w w1.heap.size w2.heap.size t1 t2 y ∧ PBox w3.heap.size t3 y ∧ PBox w4.heap.size t4 y) ⟨⟨B1'.out, B2.out, S4.out, HT.out.mono (S4.out.block 0 hw0), by have := S4.out.size; omega⟩, B3'.out, B4.out⟩ fun y hy => ?_
  obtain ⟨hr, hb3, hb4⟩ := hy
  have R := Lib.hid hr
  have B4y := Lib.hid hb4
  have B3y := Lib.hid hb3
  clear B1' B2 B3' B4 S4 hr hb4 hb3
  generalize w1.heap.size = b1 at *
  generalize w2.heap.size = b2 at *
  generalize w3.heap.size = b3 at *
  generalize w4.heap.size = b4 at *
  obtain ⟨k3, u3, p3, n3, c3, hh, hv⟩ := B3y.out
  have a0 : y.cell? ⟨b3, 0, none⟩ = some (.int .i64 k3) := cell_of_row y b3 0 _ 27 (0, 0) hh
  have a1 : y.cell? ⟨b3, 1, none⟩ = some (.int .u64 (u3 0)) := cell_of_row y b3 1 _ 27 (0, 0) hh
  have a2 : y.cell? ⟨b3, 2, none⟩ = some (.int .u64 (u3 1)) := cell_of_row y b3 2 _ 27 (0, 0) hh
  have a3 : y.cell? ⟨b3, 3, none⟩ = some (.int .u64 (u3 2)) := cell_of_row y b3 3 _ 27 (0, 0) hh
  have a4 : y.cell? ⟨b3, 4, none⟩ = some (.int .u64 (u3 3)) := cell_of_row y b3 4 _ 27 (0, 0) hh
  have a5 : y.cell? ⟨b3, 5, none⟩ = some (.slice p3 n3 c3) := cell_of_row y b3 5 _ 27 (0, 0) hh
  have az : b3 < y.heap.size := (Array.getElem?_eq_some_iff.1 hh).1
  have HM := mat_hid Q3.out.1 Q3.out.2 (x := x) (by omega) (fun b h => h) R.out.2.2.2.2 R.out.2.2.2.1 hv
  rw [HA.out] at HM
  unfold nodeC at HM
  clear hh hv
  go_wp2_with fail
  refine (HM.out _ (Below.refl _ _)).mono ?_
  rintro _ y1 ⟨rfl, hb⟩
  have R' := Lib.hid (R.out.up hb)
  have B4z := Lib.hid (B4y.out.up hb)
  clear B4y B3y
  clear R HM a0 a1 a2 a3 a4 a5 az hb
  have R := R'
  clear R'
  obtain ⟨k4, u4, p4, n4, c4, hh, hv⟩ := B4z.out
  have a0 : y1.cell? ⟨b4, 0, none⟩ = some (.int .i64 k4) := cell_of_row y1 b4 0 _ 27 (0, 0) hh
  have a1 : y1.cell? ⟨b4, 1, none⟩ = some (.int .u64 (u4 0)) := cell_of_row y1 b4 1 _ 27 (0, 0) hh
  have a2 : y1.cell? ⟨b4, 2, none⟩ = some (.int .u64 (u4 1)) := cell_of_row y1 b4 2 _ 27 (0, 0) hh
  have a3 : y1.cell? ⟨b4, 3, none⟩ = some (.int .u64 (u4 2)) := cell_of_row y1 b4 3 _ 27 (0, 0) hh
  have a4 : y1.cell? ⟨b4, 4, none⟩ = some (.int .u64 (u4 3)) := cell_of_row y1 b4 4 _ 27 (0, 0) hh
  have a5 : y1.cell? ⟨b4, 5, none⟩ = some (.slice p4 n4 c4) := cell_of_row y1 b4 5 _ 27 (0, 0) hh
  have az : b4 < y1.heap.size := (Array.getElem?_eq_some_iff.1 hh).1
  have HM := mat_hid Q4.out.1 Q4.out.2 (x := x) (by omega) (fun b h => h) R.out.2.2.2.2 R.out.2.2.2.1 hv
  rw [HB.out] at HM
  unfold nodeC at HM
  clear hh hv
  go_wp2_with fail
  refine (HM.out _ (Below.refl _ _)).mono ?_
  rintro _ y2 ⟨rfl, hb⟩
  have R' := Lib.hid (R.out.up hb)
  clear B4z
  clear R HM a0 a1 a2 a3 a4 a5 az hb
  have R := R'
  clear R'
  go_wp2_with fail
  go_loopw [23, 24] (fun pt i wr => ∃ k : Nat, k ≤ x.length + 1 ∧ i = .int .i64 (k : Nat) ∧ pt = .bool (pty t1 t2 x k) ∧ Hid (Rst w b1 b2 t1 t2 wr)) (fun _ i _ => x.length + 1 - (intOf i).toNat)
  case atStart => exact ⟨0, by omega, rfl, rfl, R⟩
  case round =>
    obtain ⟨k, hk, rfl, rfl, HR⟩ := hrel
    clear R
    by_cases hle : k ≤ x.length
    · have j0 : (0 : Int) ≤ ((k : Nat) : Int) := by omega
      have j1 : ((k : Nat) : Int) ≤ ((bs x).size : Int) := by rw [hxs]; omega
      obtain ⟨k1, u1, p1, n1, c1, hh, hv⟩ := HR.out.1
      have a0 : wr.cell? ⟨b1, 0, none⟩ = some (.int .i64 k1) := cell_of_row wr b1 0 _ 27 (0, 0) hh
      have a1 : wr.cell? ⟨b1, 1, none⟩ = some (.int .u64 (u1 0)) := cell_of_row wr b1 1 _ 27 (0, 0) hh
      have a2 : wr.cell? ⟨b1, 2, none⟩ = some (.int .u64 (u1 1)) := cell_of_row wr b1 2 _ 27 (0, 0) hh
      have a3 : wr.cell? ⟨b1, 3, none⟩ = some (.int .u64 (u1 2)) := cell_of_row wr b1 3 _ 27 (0, 0) hh
      have a4 : wr.cell? ⟨b1, 4, none⟩ = some (.int .u64 (u1 3)) := cell_of_row wr b1 4 _ 27 (0, 0) hh
      have a5 : wr.cell? ⟨b1, 5, none⟩ = some (.slice p1 n1 c1) := cell_of_row wr b1 5 _ 27 (0, 0) hh
      have az : b1 < wr.heap.size := (Array.getElem?_eq_some_iff.1 hh).1
      have HM := mat_hid Q1.out.1 Q1.out.2 (x := x.take k) (by rw [List.length_take]; omega) (fun b h => h) HR.out.2.2.2.2 HR.out.2.2.2.1 hv
      rw [← bs_take] at HM
      unfold nodeC at HM
      clear hh hv
      go_upto_region 19 with fail
      go_region_held3 (fun w' => w'.cell? ⟨b1, 0, none⟩ = some (.int .i64 k1) ∧ w'.cell? ⟨b1, 1, none⟩ = some (.int .u64 (u1 0)) ∧ w'.cell? ⟨b1, 2, none⟩ = some (.int .u64 (u1 1)) ∧ w'.cell? ⟨b1, 3, none⟩ = some (.int .u64 (u1 2)) ∧ w'.cell? ⟨b1, 4, none⟩ = some (.int .u64 (u1 3)) ∧ w'.cell? ⟨b1, 5, none⟩ = some (.slice p1 n1 c1) ∧ b1 < w'.heap.size ∧ Below wr.heap.size wr w')
        (first | assumption | exact ⟨a0, a1, a2, a3, a4, a5, az, below_drewN (Below.refl _ _) 1⟩ | exact keepR (by assumption) hb | exact keepR (by assumption) ((Below.refl _ _).alloc (Nat.le_refl _) _))
        (first | (go_at_call 27; refine (HM.out _ (keepR_k (by assumption))).mono ?_; rintro _ wq ⟨rfl, hb⟩))
      rename_i hHeld
      have R1 := Lib.hid (HR.out.up (keepR_k hHeld))
      clear hHeld hb HM HR a0 a1 a2 a3 a4 a5 az
      obtain ⟨k2, u2, p2, n2, c2, hh, hv⟩ := R1.out.2.1
      have a0 : wq.cell? ⟨b2, 0, none⟩ = some (.int .i64 k2) := cell_of_row wq b2 0 _ 27 (0, 0) hh
      have a1 : wq.cell? ⟨b2, 1, none⟩ = some (.int .u64 (u2 0)) := cell_of_row wq b2 1 _ 27 (0, 0) hh
      have a2 : wq.cell? ⟨b2, 2, none⟩ = some (.int .u64 (u2 1)) := cell_of_row wq b2 2 _ 27 (0, 0) hh
      have a3 : wq.cell? ⟨b2, 3, none⟩ = some (.int .u64 (u2 2)) := cell_of_row wq b2 3 _ 27 (0, 0) hh
      have a4 : wq.cell? ⟨b2, 4, none⟩ = some (.int .u64 (u2 3)) := cell_of_row wq b2 4 _ 27 (0, 0) hh
      have a5 : wq.cell? ⟨b2, 5, none⟩ = some (.slice p2 n2 c2) := cell_of_row wq b2 5 _ 27 (0, 0) hh
      have az : b2 < wq.heap.size := (Array.getElem?_eq_some_iff.1 hh).1
      have HM := mat_hid Q2.out.1 Q2.out.2 (x := x.drop k) (by rw [List.length_drop]; omega) (fun b h => h) R1.out.2.2.2.2 R1.out.2.2.2.1 hv
      rw [← bs_drop] at HM
      unfold nodeC at HM
      clear hh hv
      go_upto_region 20 with fail
      go_region_held3 (fun w' => w'.cell? ⟨b2, 0, none⟩ = some (.int .i64 k2) ∧ w'.cell? ⟨b2, 1, none⟩ = some (.int .u64 (u2 0)) ∧ w'.cell? ⟨b2, 2, none⟩ = some (.int .u64 (u2 1)) ∧ w'.cell? ⟨b2, 3, none⟩ = some (.int .u64 (u2 2)) ∧ w'.cell? ⟨b2, 4, none⟩ = some (.int .u64 (u2 3)) ∧ w'.cell? ⟨b2, 5, none⟩ = some (.slice p2 n2 c2) ∧ b2 < w'.heap.size ∧ Below wq.heap.size wq w')
        (first | assumption | exact ⟨a0, a1, a2, a3, a4, a5, az, below_drewN (Below.refl _ _) 1⟩ | exact keepR (by assumption) hb | exact keepR (by assumption) ((Below.refl _ _).alloc (Nat.le_refl _) _))
        (first | (go_at_call 27; refine (HM.out _ (keepR_k (by assumption))).mono ?_; rintro _ w'' ⟨rfl, hb⟩))
      rename_i hHeld
      have R2 := Lib.hid (R1.out.up (keepR_k hHeld))
      clear hHeld hb HM R1 a0 a1 a2 a3 a4 a5 az
      have hpt : pty t1 t2 x (k + 1) = (pty t1 t2 x k || (matB t1 (x.take k) && matB t2 (x.drop k))) := rfl
      generalize pty t1 t2 x k = q0 at *
      generalize matB t1 (x.take k) = q1 at *
      generalize matB t2 (x.drop k) = q2 at *
      cases q0 <;> cases q1 <;> cases q2
      all_goals
        go_wp2_with fail
        go_roundw
        case rel => exact ⟨k + 1, by omega, by go_num, by rw [hpt]; rfl, R2⟩
        case measure => simp [intOf]; omega
    · obtain rfl : k = x.length + 1 := by omega
      have j1 : ¬ (((x.length + 1 : Nat)) : Int) ≤ ((bs x).size : Int) := by rw [hxs]; omega
      have R := HR
      generalize pty t1 t2 x (x.length + 1) = pt at *
      obtain ⟨k5, u5, p5, n5, c5, hh, hv⟩ := R.out.1
      have a0 : wr.cell? ⟨b1, 0, none⟩ = some (.int .i64 k5) := cell_of_row wr b1 0 _ 27 (0, 0) hh
      have a1 : wr.cell? ⟨b1, 1, none⟩ = some (.int .u64 (u5 0)) := cell_of_row wr b1 1 _ 27 (0, 0) hh
      have a2 : wr.cell? ⟨b1, 2, none⟩ = some (.int .u64 (u5 1)) := cell_of_row wr b1 2 _ 27 (0, 0) hh
      have a3 : wr.cell? ⟨b1, 3, none⟩ = some (.int .u64 (u5 2)) := cell_of_row wr b1 3 _ 27 (0, 0) hh
      have a4 : wr.cell? ⟨b1, 4, none⟩ = some (.int .u64 (u5 3)) := cell_of_row wr b1 4 _ 27 (0, 0) hh
      have a5 : wr.cell? ⟨b1, 5, none⟩ = some (.slice p5 n5 c5) := cell_of_row wr b1 5 _ 27 (0, 0) hh
      have az : b1 < wr.heap.size := (Array.getElem?_eq_some_iff.1 hh).1
      have HM := mat_hid Q1.out.1 Q1.out.2 (x := x) (by omega) (fun b h => h) R.out.2.2.2.2 R.out.2.2.2.1 hv
      unfold nodeC at HM
      clear hh hv
      go_wp2_with fail
      refine (HM.out _ (Below.refl _ _)).mono ?_
      rintro _ v1 ⟨rfl, hb⟩
      have R' := Lib.hid (R.out.up hb)
      clear R HM hb a0 a1 a2 a3 a4 a5 az
      have R := R'
      clear R'
      obtain ⟨k6, u6, p6, n6, c6, hh, hv⟩ := R.out.2.1
      have a0 : v1.cell? ⟨b2, 0, none⟩ = some (.int .i64 k6) := cell_of_row v1 b2 0 _ 27 (0, 0) hh
      have a1 : v1.cell? ⟨b2, 1, none⟩ = some (.int .u64 (u6 0)) := cell_of_row v1 b2 1 _ 27 (0, 0) hh
      have a2 : v1.cell? ⟨b2, 2, none⟩ = some (.int .u64 (u6 1)) := cell_of_row v1 b2 2 _ 27 (0, 0) hh
      have a3 : v1.cell? ⟨b2, 3, none⟩ = some (.int .u64 (u6 2)) := cell_of_row v1 b2 3 _ 27 (0, 0) hh
      have a4 : v1.cell? ⟨b2, 4, none⟩ = some (.int .u64 (u6 3)) := cell_of_row v1 b2 4 _ 27 (0, 0) hh
      have a5 : v1.cell? ⟨b2, 5, none⟩ = some (.slice p6 n6 c6) := cell_of_row v1 b2 5 _ 27 (0, 0) hh
      have az : b2 < v1.heap.size := (Array.getElem?_eq_some_iff.1 hh).1
      have HM := mat_hid Q2.out.1 Q2.out.2 (x := x) (by omega) (fun b h => h) R.out.2.2.2.2 R.out.2.2.2.1 hv
      unfold nodeC at HM
      clear hh hv
      go_wp2_with fail
      refine (HM.out _ (Below.refl _ _)).mono ?_
      rintro _ v2 ⟨rfl, hb⟩
      have R' := Lib.hid (R.out.up hb)
      clear R HM hb a0 a1 a2 a3 a4 a5 az
      have R := R'
      clear R'
      have HAL := alive_hidr R.out.2.2.2.2 R.out.2.2.2.1
      generalize matB t1 x = r1 at *
      generalize matB t2 x = r2 at *
      cases pt <;> cases r1 <;> cases r2
      all_goals
        go_wp2_with fail
        refine (HAL.out _ (Below.refl _ _)).mono ?_
        rintro _ v3 ⟨rfl, hb⟩
        have R8 := Lib.hid (R.out.up hb)
        clear hb HAL R
        go_wp2
        go_ret
        exact ⟨rfl, R8.out.2.2.1⟩
end Go.Proofs.YtmjojahkbjlcdaaDoor
