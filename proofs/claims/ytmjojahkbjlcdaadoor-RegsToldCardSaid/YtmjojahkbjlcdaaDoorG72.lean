import Derived.Test.YtmjojahkbjlcdaaDoorProg
import Derived.Test.YtmjojahkbjlcdaaDoorX3
import Derived.Test.YtmjojahkbjlcdaaDoorX4
import Derived.WalkKit
import Derived.WalkLawsBesides
import Derived.WalkSpells
import Derived.Outline
import Derived.Lib.Walk
import Derived.Lib.Hide
import Derived.RegionTactic
import Derived.LoopTactic
import Derived.Below
import Derived.IntWalk
import Derived.Deep.QuietTactic
import Derived.BigQuiet
import Derived.Test.YtmjojahkbjlcdaaDoorG71
import Derived.Test.YtmjojahkbjlcdaaDoorG64
import Derived.Test.YtmjojahkbjlcdaaDoorG65
namespace Go.Proofs.YtmjojahkbjlcdaaDoor
set_option linter.unusedSimpArgs false
set_option linter.unusedVariables false
set_option maxRecDepth 100000
open Go.RowKit

/- RegsTold: the walks. -/
set_option maxHeartbeats 16000000 in
theorem small_no {t : RT} {x : List UInt8} {w : World} {ka : Int} {ua : Nat → Int} {pa : Option Addr} {na ca : Nat} (hw0 : 0 < w.heap.size) (hT : Tb w) (V1 : RV (fun b => b < w.heap.size) w t (.agg (nodeC ka ua (.slice pa na ca)))) (o1 : okT t) (d1 : wid t ≤ 9223372036854775806) (h3 : 120 < x.length) :
    Calls Tryd.prog 29 #[.agg #[.int .i64 ka, .int .u64 (ua 0), .int .u64 (ua 1), .int .u64 (ua 2), .int .u64 (ua 3), .slice pa na ca], .string (bs x)] w fun e w' => e = .returned (.bool false) ∧ Below w.heap.size w w' := by
  have hxs : (bs x).size = x.length := rfl
  have S1 := Lib.hid ((Below.refl w.heap.size w).alloc (Nat.le_refl _) (.cells #[.int .i64 ka, .int .u64 (ua 0), .int .u64 (ua 1), .int .u64 (ua 2), .int .u64 (ua 3), .slice pa na ca] 27) : Below w.heap.size w _)
  have B1 := Lib.hid (PBox.new (fun b h => h) V1)
  have HT := Lib.hid hT
  unfold nodeC at B1
  clear V1 hT
  have i3 : ¬ ((bs x).size : Int) ≤ (120 : Int) := by rw [hxs]; omega
  go_enter Tryd.func29, Tryd.ntmps29
  go_wp2_with fail
  go_ret
  exact ⟨rfl, S1.out⟩
set_option maxHeartbeats 16000000 in
theorem small_big {t : RT} {x : List UInt8} {w : World} {ka : Int} {ua : Nat → Int} {pa : Option Addr} {na ca : Nat} (hw0 : 0 < w.heap.size) (hT : Tb w) (V1 : RV (fun b => b < w.heap.size) w t (.agg (nodeC ka ua (.slice pa na ca)))) (o1 : okT t) (d1 : wid t ≤ 9223372036854775806) (h3 : x.length ≤ 120) (q1 : decide (120 < sz t) = true) :
    Calls Tryd.prog 29 #[.agg #[.int .i64 ka, .int .u64 (ua 0), .int .u64 (ua 1), .int .u64 (ua 2), .int .u64 (ua 3), .slice pa na ca], .string (bs x)] w fun e w' => e = .returned (.bool false) ∧ Below w.heap.size w w' := by
  have hxs : (bs x).size = x.length := rfl
  have S1 := Lib.hid ((Below.refl w.heap.size w).alloc (Nat.le_refl _) (.cells #[.int .i64 ka, .int .u64 (ua 0), .int .u64 (ua 1), .int .u64 (ua 2), .int .u64 (ua 3), .slice pa na ca] 27) : Below w.heap.size w _)
  have B1 := Lib.hid (PBox.new (fun b h => h) V1)
  have HT := Lib.hid hT
  unfold nodeC at B1
  clear V1 hT
  have i3 : ((bs x).size : Int) ≤ (120 : Int) := by rw [hxs]; omega
  go_enter Tryd.func29, Tryd.ntmps29
  go_upto_region 1 with fail
  refine at_world (fun y => Rst w w.heap.size w.heap.size t t y) ⟨B1.out, B1.out, S1.out, HT.out.mono (S1.out.block 0 hw0), by have := S1.out.size; omega⟩ fun y hy => ?_
  have R1 := Lib.hid hy
  clear B1 S1 hy
  obtain ⟨b1, hb1⟩ : ∃ b1, w.heap.size = b1 := ⟨_, rfl⟩
  rw [hb1] at R1
  obtain ⟨k1, u1, p1, n1, c1, ah, av⟩ := R1.out.1
  have a0 : y.cell? ⟨b1, 0, none⟩ = some (.int .i64 k1) := cell_of_row y b1 0 _ 27 (0, 0) ah
  have a1 : y.cell? ⟨b1, 1, none⟩ = some (.int .u64 (u1 0)) := cell_of_row y b1 1 _ 27 (0, 0) ah
  have a2 : y.cell? ⟨b1, 2, none⟩ = some (.int .u64 (u1 1)) := cell_of_row y b1 2 _ 27 (0, 0) ah
  have a3 : y.cell? ⟨b1, 3, none⟩ = some (.int .u64 (u1 2)) := cell_of_row y b1 3 _ 27 (0, 0) ah
  have a4 : y.cell? ⟨b1, 4, none⟩ = some (.int .u64 (u1 3)) := cell_of_row y b1 4 _ 27 (0, 0) ah
  have a5 : y.cell? ⟨b1, 5, none⟩ = some (.slice p1 n1 c1) := cell_of_row y b1 5 _ 27 (0, 0) ah
  have az : b1 < y.heap.size := (Array.getElem?_eq_some_iff.1 ah).1
  have HM := bigd_hid 120 q1 (by omega) d1 (fun b h => h) av
  unfold nodeC at HM
  clear ah av
  go_wp2_with fail
  refine (HM.out _ (Below.refl _ _)).mono ?_
  rintro _ y1 ⟨rfl, hb⟩
  have R' := Lib.hid (R1.out.up hb)
  clear R1 HM hb a0 a1 a2 a3 a4 a5 az
  have R1 := R'
  clear R'
  go_wp2_with fail
  go_ret
  exact ⟨rfl, R1.out.2.2.1⟩
set_option maxHeartbeats 16000000 in
theorem small_yes {t : RT} {x : List UInt8} {w : World} {ka : Int} {ua : Nat → Int} {pa : Option Addr} {na ca : Nat} (hw0 : 0 < w.heap.size) (hT : Tb w) (V1 : RV (fun b => b < w.heap.size) w t (.agg (nodeC ka ua (.slice pa na ca)))) (o1 : okT t) (d1 : wid t ≤ 9223372036854775806) (h3 : x.length ≤ 120) (q1 : decide (120 < sz t) = false) :
    Calls Tryd.prog 29 #[.agg #[.int .i64 ka, .int .u64 (ua 0), .int .u64 (ua 1), .int .u64 (ua 2), .int .u64 (ua 3), .slice pa na ca], .string (bs x)] w fun e w' => e = .returned (.bool true) ∧ Below w.heap.size w w' := by
  have hxs : (bs x).size = x.length := rfl
  have S1 := Lib.hid ((Below.refl w.heap.size w).alloc (Nat.le_refl _) (.cells #[.int .i64 ka, .int .u64 (ua 0), .int .u64 (ua 1), .int .u64 (ua 2), .int .u64 (ua 3), .slice pa na ca] 27) : Below w.heap.size w _)
  have B1 := Lib.hid (PBox.new (fun b h => h) V1)
  have HT := Lib.hid hT
  unfold nodeC at B1
  clear V1 hT
  have i3 : ((bs x).size : Int) ≤ (120 : Int) := by rw [hxs]; omega
  go_enter Tryd.func29, Tryd.ntmps29
  go_upto_region 1 with fail
  refine at_world (fun y => Rst w w.heap.size w.heap.size t t y) ⟨B1.out, B1.out, S1.out, HT.out.mono (S1.out.block 0 hw0), by have := S1.out.size; omega⟩ fun y hy => ?_
  have R1 := Lib.hid hy
  clear B1 S1 hy
  obtain ⟨b1, hb1⟩ : ∃ b1, w.heap.size = b1 := ⟨_, rfl⟩
  rw [hb1] at R1
  obtain ⟨k1, u1, p1, n1, c1, ah, av⟩ := R1.out.1
  have a0 : y.cell? ⟨b1, 0, none⟩ = some (.int .i64 k1) := cell_of_row y b1 0 _ 27 (0, 0) ah
  have a1 : y.cell? ⟨b1, 1, none⟩ = some (.int .u64 (u1 0)) := cell_of_row y b1 1 _ 27 (0, 0) ah
  have a2 : y.cell? ⟨b1, 2, none⟩ = some (.int .u64 (u1 1)) := cell_of_row y b1 2 _ 27 (0, 0) ah
  have a3 : y.cell? ⟨b1, 3, none⟩ = some (.int .u64 (u1 2)) := cell_of_row y b1 3 _ 27 (0, 0) ah
  have a4 : y.cell? ⟨b1, 4, none⟩ = some (.int .u64 (u1 3)) := cell_of_row y b1 4 _ 27 (0, 0) ah
  have a5 : y.cell? ⟨b1, 5, none⟩ = some (.slice p1 n1 c1) := cell_of_row y b1 5 _ 27 (0, 0) ah
  have az : b1 < y.heap.size := (Array.getElem?_eq_some_iff.1 ah).1
  have HM := bigd_hid 120 q1 (by omega) d1 (fun b h => h) av
  unfold nodeC at HM
  clear ah av
  go_wp2_with fail
  refine (HM.out _ (Below.refl _ _)).mono ?_
  rintro _ y1 ⟨rfl, hb⟩
  have R' := Lib.hid (R1.out.up hb)
  clear R1 HM hb a0 a1 a2 a3 a4 a5 az
  have R1 := R'
  clear R'
  go_wp2_with fail
  go_ret
  exact ⟨rfl, R1.out.2.2.1⟩
/-- Small: a short text, a pattern of few. -/
def smB (t : RT) (x : List UInt8) : Bool := decide (x.length ≤ 120) && !decide (120 < sz t)
theorem small_any {t : RT} {x : List UInt8} {w : World} {ka : Int} {ua : Nat → Int} {pa : Option Addr} {na ca : Nat} (hw0 : 0 < w.heap.size) (hT : Tb w) (V1 : RV (fun b => b < w.heap.size) w t (.agg (nodeC ka ua (.slice pa na ca)))) (o1 : okT t) (d1 : wid t ≤ 9223372036854775806) :
    Calls Tryd.prog 29 #[.agg #[.int .i64 ka, .int .u64 (ua 0), .int .u64 (ua 1), .int .u64 (ua 2), .int .u64 (ua 3), .slice pa na ca], .string (bs x)] w fun e w' => e = .returned (.bool (smB t x)) ∧ Below w.heap.size w w' := by
  unfold smB
  by_cases h : x.length ≤ 120
  · by_cases q : 120 < sz t
    · rw [decide_eq_true h, decide_eq_true q]; exact small_big hw0 hT V1 o1 d1 h (by simpa using q)
    · rw [decide_eq_true h, decide_eq_false q]; exact small_yes hw0 hT V1 o1 d1 h (by simpa using q)
  · rw [decide_eq_false h]; exact small_no hw0 hT V1 o1 d1 (by omega)
theorem small_hid {t : RT} {x : List UInt8} {r : Bool} (hr : smB t x = r) (o1 : okT t) (d1 : wid t ≤ 9223372036854775806) {y : World} {ka : Int} {ua : Nat → Int} {pa : Option Addr} {na ca : Nat} (hw0 : 0 < y.heap.size) (hT : Tb y) (h : RV (fun b => b < y.heap.size) y t (.agg (nodeC ka ua (.slice pa na ca)))) :
    Hid (∀ z, Below y.heap.size y z → Calls Tryd.prog 29 #[.agg (nodeC ka ua (.slice pa na ca)), .string (bs x)] z fun e w' => e = .returned (.bool r) ∧ Below z.heap.size z w') := Lib.hid fun z hb => by
  have := small_any (x := x) (w := z) (by have := hb.size; omega) (hT.mono (hb.block 0 hw0)) (RV.mono (fun b hl => Nat.lt_of_lt_of_le hl hb.size) (fun b _ hlt => hb.block b hlt) h) o1 d1
  rwa [hr] at this
set_option maxHeartbeats 16000000 in
theorem told_big {t : RT} {x : List UInt8} {w : World} {ka : Int} {ua : Nat → Int} {pa : Option Addr} {na ca : Nat} (hw0 : 0 < w.heap.size) (hT : Tb w) (V1 : RV (fun b => b < w.heap.size) w t (.agg (nodeC ka ua (.slice pa na ca)))) (o1 : okT t) (d1 : wid t ≤ 9223372036854775806) (q0 : smB t x = false) :
    Calls Tryd.prog 8 #[.agg #[.int .i64 ka, .int .u64 (ua 0), .int .u64 (ua 1), .int .u64 (ua 2), .int .u64 (ua 3), .slice pa na ca], .string (bs x)] w fun e w' => e = .returned (.bool true) ∧ Below w.heap.size w w' := by
  have hxs : (bs x).size = x.length := rfl
  have S1 := Lib.hid ((Below.refl w.heap.size w).alloc (Nat.le_refl _) (.cells #[.int .i64 ka, .int .u64 (ua 0), .int .u64 (ua 1), .int .u64 (ua 2), .int .u64 (ua 3), .slice pa na ca] 27) : Below w.heap.size w _)
  have B1 := Lib.hid (PBox.new (fun b h => h) V1)
  have HT := Lib.hid hT
  unfold nodeC at B1
  clear V1 hT
  go_enter Tryd.func8, Tryd.ntmps8
  go_upto_region 1 with fail
  refine at_world (fun y => Rst w w.heap.size w.heap.size t t y) ⟨B1.out, B1.out, S1.out, HT.out.mono (S1.out.block 0 hw0), by have := S1.out.size; omega⟩ fun y hy => ?_
  have R1 := Lib.hid hy
  clear B1 S1 hy
  obtain ⟨b1, hb1⟩ : ∃ b1, w.heap.size = b1 := ⟨_, rfl⟩
  rw [hb1] at R1
  obtain ⟨k1, u1, p1, n1, c1, ah, av⟩ := R1.out.1
  have a0 : y.cell? ⟨b1, 0, none⟩ = some (.int .i64 k1) := cell_of_row y b1 0 _ 27 (0, 0) ah
  have a1 : y.cell? ⟨b1, 1, none⟩ = some (.int .u64 (u1 0)) := cell_of_row y b1 1 _ 27 (0, 0) ah
  have a2 : y.cell? ⟨b1, 2, none⟩ = some (.int .u64 (u1 1)) := cell_of_row y b1 2 _ 27 (0, 0) ah
  have a3 : y.cell? ⟨b1, 3, none⟩ = some (.int .u64 (u1 2)) := cell_of_row y b1 3 _ 27 (0, 0) ah
  have a4 : y.cell? ⟨b1, 4, none⟩ = some (.int .u64 (u1 3)) := cell_of_row y b1 4 _ 27 (0, 0) ah
  have a5 : y.cell? ⟨b1, 5, none⟩ = some (.slice p1 n1 c1) := cell_of_row y b1 5 _ 27 (0, 0) ah
  have az : b1 < y.heap.size := (Array.getElem?_eq_some_iff.1 ah).1
  have HM := small_hid (x := x) q0 o1 d1 R1.out.2.2.2.2 R1.out.2.2.2.1 av
  unfold nodeC at HM
  clear ah av
  go_wp2_with fail
  refine (HM.out _ (Below.refl _ _)).mono ?_
  rintro _ y1 ⟨rfl, hb⟩
  have R' := Lib.hid (R1.out.up hb)
  clear R1 HM hb a0 a1 a2 a3 a4 a5 az
  have R1 := R'
  clear R'
  go_wp2_with fail
  go_ret
  exact ⟨rfl, R1.out.2.2.1⟩
set_option maxHeartbeats 16000000 in
theorem told_err {t : RT} {x : List UInt8} {w : World} {ka : Int} {ua : Nat → Int} {pa : Option Addr} {na ca : Nat} (hw0 : 0 < w.heap.size) (hT : Tb w) (V1 : RV (fun b => b < w.heap.size) w t (.agg (nodeC ka ua (.slice pa na ca)))) (o1 : okT t) (d1 : wid t ≤ 9223372036854775806) (q0 : smB t x = true) {R : List UInt8} {F : Int} (hP : prtP t = (R, F)) (hF : (F != 0) = true) :
    Calls Tryd.prog 8 #[.agg #[.int .i64 ka, .int .u64 (ua 0), .int .u64 (ua 1), .int .u64 (ua 2), .int .u64 (ua 3), .slice pa na ca], .string (bs x)] w fun e w' => e = .returned (.bool true) ∧ Below w.heap.size w w' := by
  have hxs : (bs x).size = x.length := rfl
  have S1 := Lib.hid ((Below.refl w.heap.size w).alloc (Nat.le_refl _) (.cells #[.int .i64 ka, .int .u64 (ua 0), .int .u64 (ua 1), .int .u64 (ua 2), .int .u64 (ua 3), .slice pa na ca] 27) : Below w.heap.size w _)
  have B1 := Lib.hid (PBox.new (fun b h => h) V1)
  have HT := Lib.hid hT
  unfold nodeC at B1
  clear V1 hT
  go_enter Tryd.func8, Tryd.ntmps8
  go_upto_region 1 with fail
  refine at_world (fun y => Rst w w.heap.size w.heap.size t t y) ⟨B1.out, B1.out, S1.out, HT.out.mono (S1.out.block 0 hw0), by have := S1.out.size; omega⟩ fun y hy => ?_
  have R1 := Lib.hid hy
  clear B1 S1 hy
  obtain ⟨b1, hb1⟩ : ∃ b1, w.heap.size = b1 := ⟨_, rfl⟩
  rw [hb1] at R1
  obtain ⟨k1, u1, p1, n1, c1, ah, av⟩ := R1.out.1
  have a0 : y.cell? ⟨b1, 0, none⟩ = some (.int .i64 k1) := cell_of_row y b1 0 _ 27 (0, 0) ah
  have a1 : y.cell? ⟨b1, 1, none⟩ = some (.int .u64 (u1 0)) := cell_of_row y b1 1 _ 27 (0, 0) ah
  have a2 : y.cell? ⟨b1, 2, none⟩ = some (.int .u64 (u1 1)) := cell_of_row y b1 2 _ 27 (0, 0) ah
  have a3 : y.cell? ⟨b1, 3, none⟩ = some (.int .u64 (u1 2)) := cell_of_row y b1 3 _ 27 (0, 0) ah
  have a4 : y.cell? ⟨b1, 4, none⟩ = some (.int .u64 (u1 3)) := cell_of_row y b1 4 _ 27 (0, 0) ah
  have a5 : y.cell? ⟨b1, 5, none⟩ = some (.slice p1 n1 c1) := cell_of_row y b1 5 _ 27 (0, 0) ah
  have az : b1 < y.heap.size := (Array.getElem?_eq_some_iff.1 ah).1
  have HM := small_hid (x := x) q0 o1 d1 R1.out.2.2.2.2 R1.out.2.2.2.1 av
  unfold nodeC at HM
  clear ah av
  go_wp2_with fail
  refine (HM.out _ (Below.refl _ _)).mono ?_
  rintro _ y1 ⟨rfl, hb⟩
  have R' := Lib.hid (R1.out.up hb)
  clear R1 HM hb a0 a1 a2 a3 a4 a5 az
  have R1 := R'
  clear R'
  obtain ⟨k2, u2, p2, n2, c2, ah, av⟩ := R1.out.1
  have a0 : y1.cell? ⟨b1, 0, none⟩ = some (.int .i64 k2) := cell_of_row y1 b1 0 _ 27 (0, 0) ah
  have a1 : y1.cell? ⟨b1, 1, none⟩ = some (.int .u64 (u2 0)) := cell_of_row y1 b1 1 _ 27 (0, 0) ah
  have a2 : y1.cell? ⟨b1, 2, none⟩ = some (.int .u64 (u2 1)) := cell_of_row y1 b1 2 _ 27 (0, 0) ah
  have a3 : y1.cell? ⟨b1, 3, none⟩ = some (.int .u64 (u2 2)) := cell_of_row y1 b1 3 _ 27 (0, 0) ah
  have a4 : y1.cell? ⟨b1, 4, none⟩ = some (.int .u64 (u2 3)) := cell_of_row y1 b1 4 _ 27 (0, 0) ah
  have a5 : y1.cell? ⟨b1, 5, none⟩ = some (.slice p2 n2 c2) := cell_of_row y1 b1 5 _ 27 (0, 0) ah
  have az : b1 < y1.heap.size := (Array.getElem?_eq_some_iff.1 ah).1
  have HM := prt_hid o1 d1 hP (fun b h => h) av
  unfold nodeC at HM
  clear ah av
  go_wp2_with fail
  refine (HM.out _ (Below.refl _ _)).mono ?_
  rintro _ y2 ⟨rfl, hb⟩
  have R' := Lib.hid (R1.out.up hb)
  clear R1 HM hb a0 a1 a2 a3 a4 a5 az
  have R1 := R'
  clear R'
  have HA := alive_hid R1.out.2.2.2.2 R1.out.2.2.2.1
  go_wp2_with fail
  refine (HA.out _ (Below.refl _ _)).mono ?_
  rintro _ y9 ⟨rfl, hb⟩
  have R8 := Lib.hid (R1.out.up hb)
  clear hb HA R1
  go_wp2
  go_ret
  exact ⟨rfl, R8.out.2.2.1⟩
set_option maxHeartbeats 16000000 in
theorem told_ok {t : RT} {x : List UInt8} {w : World} {ka : Int} {ua : Nat → Int} {pa : Option Addr} {na ca : Nat} (hw0 : 0 < w.heap.size) (hT : Tb w) (V1 : RV (fun b => b < w.heap.size) w t (.agg (nodeC ka ua (.slice pa na ca)))) (o1 : okT t) (d1 : wid t ≤ 9223372036854775806) (q0 : smB t x = true) {R : List UInt8} (hP : prtP t = (R, 0)) {t' : RT} {m : Int} (P2 : Hid (∀ w, Calls Tryd.prog 21 #[.string (bs R)] w (PP t' m 0 w))) (o2 : okT t') (d2 : wid t' ≤ 9223372036854775806) {r1 : Bool} (M1 : mtP t x = (r1, 0)) (M2 : mtP t' x = (r1, 0)) :
    Calls Tryd.prog 8 #[.agg #[.int .i64 ka, .int .u64 (ua 0), .int .u64 (ua 1), .int .u64 (ua 2), .int .u64 (ua 3), .slice pa na ca], .string (bs x)] w fun e w' => e = .returned (.bool true) ∧ Below w.heap.size w w' := by
  have hxs : (bs x).size = x.length := rfl
  have S1 := Lib.hid ((Below.refl w.heap.size w).alloc (Nat.le_refl _) (.cells #[.int .i64 ka, .int .u64 (ua 0), .int .u64 (ua 1), .int .u64 (ua 2), .int .u64 (ua 3), .slice pa na ca] 27) : Below w.heap.size w _)
  have B1 := Lib.hid (PBox.new (fun b h => h) V1)
  have HT := Lib.hid hT
  unfold nodeC at B1
  clear V1 hT
  go_enter Tryd.func8, Tryd.ntmps8
  go_upto_region 1 with fail
  refine at_world (fun y => Rst w w.heap.size w.heap.size t t y) ⟨B1.out, B1.out, S1.out, HT.out.mono (S1.out.block 0 hw0), by have := S1.out.size; omega⟩ fun y hy => ?_
  have R1 := Lib.hid hy
  clear B1 S1 hy
  obtain ⟨b1, hb1⟩ : ∃ b1, w.heap.size = b1 := ⟨_, rfl⟩
  rw [hb1] at R1
  obtain ⟨k1, u1, p1, n1, c1, ah, av⟩ := R1.out.1
  have a0 : y.cell? ⟨b1, 0, none⟩ = some (.int .i64 k1) := cell_of_row y b1 0 _ 27 (0, 0) ah
  have a1 : y.cell? ⟨b1, 1, none⟩ = some (.int .u64 (u1 0)) := cell_of_row y b1 1 _ 27 (0, 0) ah
  have a2 : y.cell? ⟨b1, 2, none⟩ = some (.int .u64 (u1 1)) := cell_of_row y b1 2 _ 27 (0, 0) ah
  have a3 : y.cell? ⟨b1, 3, none⟩ = some (.int .u64 (u1 2)) := cell_of_row y b1 3 _ 27 (0, 0) ah
  have a4 : y.cell? ⟨b1, 4, none⟩ = some (.int .u64 (u1 3)) := cell_of_row y b1 4 _ 27 (0, 0) ah
  have a5 : y.cell? ⟨b1, 5, none⟩ = some (.slice p1 n1 c1) := cell_of_row y b1 5 _ 27 (0, 0) ah
  have az : b1 < y.heap.size := (Array.getElem?_eq_some_iff.1 ah).1
  have HM := small_hid (x := x) q0 o1 d1 R1.out.2.2.2.2 R1.out.2.2.2.1 av
  unfold nodeC at HM
  clear ah av
  go_wp2_with fail
  refine (HM.out _ (Below.refl _ _)).mono ?_
  rintro _ y1 ⟨rfl, hb⟩
  have R' := Lib.hid (R1.out.up hb)
  clear R1 HM hb a0 a1 a2 a3 a4 a5 az
  have R1 := R'
  clear R'
  obtain ⟨k2, u2, p2, n2, c2, ah, av⟩ := R1.out.1
  have a0 : y1.cell? ⟨b1, 0, none⟩ = some (.int .i64 k2) := cell_of_row y1 b1 0 _ 27 (0, 0) ah
  have a1 : y1.cell? ⟨b1, 1, none⟩ = some (.int .u64 (u2 0)) := cell_of_row y1 b1 1 _ 27 (0, 0) ah
  have a2 : y1.cell? ⟨b1, 2, none⟩ = some (.int .u64 (u2 1)) := cell_of_row y1 b1 2 _ 27 (0, 0) ah
  have a3 : y1.cell? ⟨b1, 3, none⟩ = some (.int .u64 (u2 2)) := cell_of_row y1 b1 3 _ 27 (0, 0) ah
  have a4 : y1.cell? ⟨b1, 4, none⟩ = some (.int .u64 (u2 3)) := cell_of_row y1 b1 4 _ 27 (0, 0) ah
  have a5 : y1.cell? ⟨b1, 5, none⟩ = some (.slice p2 n2 c2) := cell_of_row y1 b1 5 _ 27 (0, 0) ah
  have az : b1 < y1.heap.size := (Array.getElem?_eq_some_iff.1 ah).1
  have HM := prt_hid o1 d1 hP (fun b h => h) av
  unfold nodeC at HM
  clear ah av
  go_wp2_with fail
  refine (HM.out _ (Below.refl _ _)).mono ?_
  rintro _ y2 ⟨rfl, hb⟩
  have R' := Lib.hid (R1.out.up hb)
  clear R1 HM hb a0 a1 a2 a3 a4 a5 az
  have R1 := R'
  clear R'
  go_wp2_with fail
  refine (P2.out _).mono ?_
  rintro _ w2 ⟨⟨v, rfl, hv⟩, hb⟩
  obtain ⟨k, u, p, n, c, rfl⟩ := hv.form2
  unfold ret3
  have R3 := Lib.hid ((R1.out.up hb).up ((Below.refl _ _).alloc (Nat.le_refl _) (.cells #[.int .i64 k, .int .u64 (u 0), .int .u64 (u 1), .int .u64 (u 2), .int .u64 (u 3), .slice p n c] 27)))
  have B2 := Lib.hid (PBox.new (k := k) (u := u) (fun b h => h.2) hv)
  unfold nodeC at B2
  clear hb hv R1
  go_upto_region 9 with fail
  refine at_world (fun y => Rst w b1 w2.heap.size t t' y) ⟨R3.out.1, B2.out, R3.out.2.2⟩ fun z hz => ?_
  have R1 := Lib.hid hz
  clear R3 B2 hz
  generalize w2.heap.size = b2 at *
  obtain ⟨k3, u3, p3, n3, c3, ah, av⟩ := R1.out.1
  have a0 : z.cell? ⟨b1, 0, none⟩ = some (.int .i64 k3) := cell_of_row z b1 0 _ 27 (0, 0) ah
  have a1 : z.cell? ⟨b1, 1, none⟩ = some (.int .u64 (u3 0)) := cell_of_row z b1 1 _ 27 (0, 0) ah
  have a2 : z.cell? ⟨b1, 2, none⟩ = some (.int .u64 (u3 1)) := cell_of_row z b1 2 _ 27 (0, 0) ah
  have a3 : z.cell? ⟨b1, 3, none⟩ = some (.int .u64 (u3 2)) := cell_of_row z b1 3 _ 27 (0, 0) ah
  have a4 : z.cell? ⟨b1, 4, none⟩ = some (.int .u64 (u3 3)) := cell_of_row z b1 4 _ 27 (0, 0) ah
  have a5 : z.cell? ⟨b1, 5, none⟩ = some (.slice p3 n3 c3) := cell_of_row z b1 5 _ 27 (0, 0) ah
  have az : b1 < z.heap.size := (Array.getElem?_eq_some_iff.1 ah).1
  have HM := mat2_hid o1 d1 M1 (fun b h => h) R1.out.2.2.2.2 R1.out.2.2.2.1 av
  unfold nodeC at HM
  clear ah av
  go_wp2_with fail
  refine (HM.out _ (Below.refl _ _)).mono ?_
  rintro _ z1 ⟨rfl, hb⟩
  have R' := Lib.hid (R1.out.up hb)
  clear R1 HM hb a0 a1 a2 a3 a4 a5 az
  have R1 := R'
  clear R'
  obtain ⟨k4, u4, p4, n4, c4, ah, av⟩ := R1.out.2.1
  have a0 : z1.cell? ⟨b2, 0, none⟩ = some (.int .i64 k4) := cell_of_row z1 b2 0 _ 27 (0, 0) ah
  have a1 : z1.cell? ⟨b2, 1, none⟩ = some (.int .u64 (u4 0)) := cell_of_row z1 b2 1 _ 27 (0, 0) ah
  have a2 : z1.cell? ⟨b2, 2, none⟩ = some (.int .u64 (u4 1)) := cell_of_row z1 b2 2 _ 27 (0, 0) ah
  have a3 : z1.cell? ⟨b2, 3, none⟩ = some (.int .u64 (u4 2)) := cell_of_row z1 b2 3 _ 27 (0, 0) ah
  have a4 : z1.cell? ⟨b2, 4, none⟩ = some (.int .u64 (u4 3)) := cell_of_row z1 b2 4 _ 27 (0, 0) ah
  have a5 : z1.cell? ⟨b2, 5, none⟩ = some (.slice p4 n4 c4) := cell_of_row z1 b2 5 _ 27 (0, 0) ah
  have az : b2 < z1.heap.size := (Array.getElem?_eq_some_iff.1 ah).1
  have HM := mat2_hid o2 d2 M2 (fun b h => h) R1.out.2.2.2.2 R1.out.2.2.2.1 av
  unfold nodeC at HM
  clear ah av
  go_wp2_with fail
  refine (HM.out _ (Below.refl _ _)).mono ?_
  rintro _ z2 ⟨rfl, hb⟩
  have R' := Lib.hid (R1.out.up hb)
  clear R1 HM hb a0 a1 a2 a3 a4 a5 az
  have R1 := R'
  clear R'
  have HA := alive_hid R1.out.2.2.2.2 R1.out.2.2.2.1
  go_wp2_with fail
  refine (HA.out _ (Below.refl _ _)).mono ?_
  rintro _ y9 ⟨rfl, hb⟩
  have R8 := Lib.hid (R1.out.up hb)
  clear hb HA R1
  go_wp2
  go_ret
  exact ⟨rfl, R8.out.2.2.1⟩
theorem told_any {t : RT} (s : ByteArray) {w : World} {ka : Int} {ua : Nat → Int} {pa : Option Addr} {na ca : Nat} (hw0 : 0 < w.heap.size) (hT : Tb w) (V1 : RV (fun b => b < w.heap.size) w t (.agg (nodeC ka ua (.slice pa na ca)))) (o1 : okT t) (d1 : wid t ≤ 9223372036854775806) :
    Calls Tryd.prog 8 #[.agg #[.int .i64 ka, .int .u64 (ua 0), .int .u64 (ua 1), .int .u64 (ua 2), .int .u64 (ua 3), .slice pa na ca], .string s] w fun e w' => e = .returned (.bool true) ∧ Below w.heap.size w w' := by
  rw [← bs_list5 s]
  generalize s.data.toList = x
  cases q0 : smB t x with
  | false => exact told_big hw0 hT V1 o1 d1 q0
  | true =>
    by_cases hc : checkE t = 0
    · by_cases hl : 256 < (wrT t).length
      · exact told_err (R := []) (F := 3) hw0 hT V1 o1 d1 q0 (by unfold prtP; rw [if_neg (by omega), if_pos hl]) (by decide)
      · obtain ⟨hm, hs, hd⟩ := checkE_ok hc
        have hx : x.length ≤ 120 := by
          unfold smB at q0
          rw [Bool.and_eq_true] at q0
          simpa using q0.1
        have mf := mf_of t hm
        have hw := whole_rd mf
        have hz := rd_sz t mf
        have hg := gd_whole hw
        have hq : prsR (bs (wrT t)).data.toList = (rdT t, 0, 0) := by
          show prsR (wrT t) = _
          rw [prs_of hw (by omega), if_neg (by omega)]
        have P2 := prs_hid (bs (wrT t)) (by show (wrT t).length ≤ _; omega) hq
        have c2 : checkE (rdT t) = 0 := check_mk (by omega) (by omega) hg.1
        exact told_ok (r1 := matB t x) hw0 hT V1 o1 d1 q0 (by unfold prtP; rw [if_neg (by omega), if_neg hl]) P2 hg.2 (by have := wid_sz (rdT t); omega) (match_ok hc (by omega)) (by rw [match_ok c2 (by omega), mat_iff c2 hc (rd_lg t mf o1 x)])
    · exact told_err (R := []) (F := checkE t) hw0 hT V1 o1 d1 q0 (by unfold prtP; rw [if_pos (by omega)]) (by rw [bne_iff_ne]; exact hc)
end Go.Proofs.YtmjojahkbjlcdaaDoor
