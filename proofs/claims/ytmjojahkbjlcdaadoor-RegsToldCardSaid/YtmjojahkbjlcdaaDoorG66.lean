import Derived.Deep.RegionHeld3
import Derived.RegionCalls
import Derived.Deep.RegionWith
import Derived.Test.YtmjojahkbjlcdaaDoorProg
import Derived.Test.YtmjojahkbjlcdaaDoorX3
import Derived.Test.YtmjojahkbjlcdaaDoorX4
import Derived.WalkKit
import Derived.WalkLawsBesides
import Derived.WalkSpells
import Derived.Outline
import Derived.Lib.Walk
import Derived.Lib.Hide
import Derived.RegionTactic
import Derived.LoopTactic
import Derived.Below
import Derived.IntWalk
import Derived.Deep.QuietTactic
import Derived.BigQuiet
import Derived.Test.YtmjojahkbjlcdaaDoorG65
import Derived.Test.YtmjojahkbjlcdaaDoorG61
import Derived.Test.YtmjojahkbjlcdaaDoorG64
namespace Go.Proofs.YtmjojahkbjlcdaaDoor
set_option linter.unusedSimpArgs false
set_option linter.unusedVariables false
set_option maxRecDepth 100000
open Go.RowKit

/- RegsParts: the walks. -/
set_option maxHeartbeats 16000000 in
theorem parts_long {t1 t2 : RT} {x : List UInt8} {w : World} {ka kb : Int} {ua ub : Nat → Int} {pa pb : Option Addr} {na ca nb cb : Nat} (hw0 : 0 < w.heap.size) (hT : Tb w) (V1 : RV (fun b => b < w.heap.size) w t1 (.agg (nodeC ka ua (.slice pa na ca)))) (V2 : RV (fun b => b < w.heap.size) w t2 (.agg (nodeC kb ub (.slice pb nb cb))))
    (o1 : okT t1) (o2 : okT t2) (d1 : wid t1 ≤ 9223372036854775806) (d2 : wid t2 ≤ 9223372036854775806) (h3 : 60 < x.length) :
    Calls Tryd.prog 9 #[.agg #[.int .i64 ka, .int .u64 (ua 0), .int .u64 (ua 1), .int .u64 (ua 2), .int .u64 (ua 3), .slice pa na ca], .agg #[.int .i64 kb, .int .u64 (ub 0), .int .u64 (ub 1), .int .u64 (ub 2), .int .u64 (ub 3), .slice pb nb cb], .string (bs x)] w fun e w' => e = .returned (.bool true) ∧ Below w.heap.size w w' := by
  have hxs : (bs x).size = x.length := rfl
  have S1 := Lib.hid (((Below.refl w.heap.size w).alloc (Nat.le_refl _) (.cells #[.int .i64 ka, .int .u64 (ua 0), .int .u64 (ua 1), .int .u64 (ua 2), .int .u64 (ua 3), .slice pa na ca] 27)).alloc (by simp) (.cells #[.int .i64 kb, .int .u64 (ub 0), .int .u64 (ub 1), .int .u64 (ub 2), .int .u64 (ub 3), .slice pb nb cb] 27) : Below w.heap.size w _)
  have B1 := Lib.hid ((PBox.new (fun b h => h) V1).up ((Below.refl _ _).alloc (Nat.le_refl _) (.cells #[.int .i64 kb, .int .u64 (ub 0), .int .u64 (ub 1), .int .u64 (ub 2), .int .u64 (ub 3), .slice pb nb cb] 27)))
  have B2 := Lib.hid (PBox.new (fun b h => h) (rv_alloc (.cells #[.int .i64 ka, .int .u64 (ua 0), .int .u64 (ua 1), .int .u64 (ua 2), .int .u64 (ua 3), .slice pa na ca] 27) V2))
  have HT := Lib.hid hT
  unfold nodeC at B1 B2
  clear V1 V2 hT
  have i3 : (60 : Int) < ((bs x).size : Int) := by rw [hxs]; omega
  go_enter Tryd.func9, Tryd.ntmps9
  go_wp2_with fail
  go_ret
  exact ⟨rfl, S1.out⟩
set_option maxHeartbeats 16000000 in
theorem parts_big1 {t1 t2 : RT} {x : List UInt8} {w : World} {ka kb : Int} {ua ub : Nat → Int} {pa pb : Option Addr} {na ca nb cb : Nat} (hw0 : 0 < w.heap.size) (hT : Tb w) (V1 : RV (fun b => b < w.heap.size) w t1 (.agg (nodeC ka ua (.slice pa na ca)))) (V2 : RV (fun b => b < w.heap.size) w t2 (.agg (nodeC kb ub (.slice pb nb cb))))
    (o1 : okT t1) (o2 : okT t2) (d1 : wid t1 ≤ 9223372036854775806) (d2 : wid t2 ≤ 9223372036854775806) (h3 : x.length ≤ 60) (q1 : decide (60 < sz t1) = true) :
    Calls Tryd.prog 9 #[.agg #[.int .i64 ka, .int .u64 (ua 0), .int .u64 (ua 1), .int .u64 (ua 2), .int .u64 (ua 3), .slice pa na ca], .agg #[.int .i64 kb, .int .u64 (ub 0), .int .u64 (ub 1), .int .u64 (ub 2), .int .u64 (ub 3), .slice pb nb cb], .string (bs x)] w fun e w' => e = .returned (.bool true) ∧ Below w.heap.size w w' := by
  have hxs : (bs x).size = x.length := rfl
  have S1 := Lib.hid (((Below.refl w.heap.size w).alloc (Nat.le_refl _) (.cells #[.int .i64 ka, .int .u64 (ua 0), .int .u64 (ua 1), .int .u64 (ua 2), .int .u64 (ua 3), .slice pa na ca] 27)).alloc (by simp) (.cells #[.int .i64 kb, .int .u64 (ub 0), .int .u64 (ub 1), .int .u64 (ub 2), .int .u64 (ub 3), .slice pb nb cb] 27) : Below w.heap.size w _)
  have B1 := Lib.hid ((PBox.new (fun b h => h) V1).up ((Below.refl _ _).alloc (Nat.le_refl _) (.cells #[.int .i64 kb, .int .u64 (ub 0), .int .u64 (ub 1), .int .u64 (ub 2), .int .u64 (ub 3), .slice pb nb cb] 27)))
  have B2 := Lib.hid (PBox.new (fun b h => h) (rv_alloc (.cells #[.int .i64 ka, .int .u64 (ua 0), .int .u64 (ua 1), .int .u64 (ua 2), .int .u64 (ua 3), .slice pa na ca] 27) V2))
  have HT := Lib.hid hT
  unfold nodeC at B1 B2
  clear V1 V2 hT
  have i3 : ¬ (60 : Int) < ((bs x).size : Int) := by rw [hxs]; omega
  have hs : (w.alloc (.cells #[.int .i64 ka, .int .u64 (ua 0), .int .u64 (ua 1), .int .u64 (ua 2), .int .u64 (ua 3), .slice pa na ca] 27)).heap.size = w.heap.size + 1 := by simp
  rw [hs] at B2
  go_enter Tryd.func9, Tryd.ntmps9
  go_upto_region 1 with fail
  refine at_world (fun y => Rst w w.heap.size (w.heap.size + 1) t1 t2 y) ⟨B1.out, B2.out, S1.out, HT.out.mono (S1.out.block 0 hw0), by have := S1.out.size; omega⟩ fun y hy => ?_
  have R1 := Lib.hid hy
  clear B1 B2 S1 hy hs
  obtain ⟨b1, hb1⟩ : ∃ b1, w.heap.size = b1 := ⟨_, rfl⟩
  rw [hb1] at R1
  obtain ⟨k1, u1, p1, n1, c1, ah, av⟩ := R1.out.1
  have a0 : y.cell? ⟨b1, 0, none⟩ = some (.int .i64 k1) := cell_of_row y b1 0 _ 27 (0, 0) ah
  have a1 : y.cell? ⟨b1, 1, none⟩ = some (.int .u64 (u1 0)) := cell_of_row y b1 1 _ 27 (0, 0) ah
  have a2 : y.cell? ⟨b1, 2, none⟩ = some (.int .u64 (u1 1)) := cell_of_row y b1 2 _ 27 (0, 0) ah
  have a3 : y.cell? ⟨b1, 3, none⟩ = some (.int .u64 (u1 2)) := cell_of_row y b1 3 _ 27 (0, 0) ah
  have a4 : y.cell? ⟨b1, 4, none⟩ = some (.int .u64 (u1 3)) := cell_of_row y b1 4 _ 27 (0, 0) ah
  have a5 : y.cell? ⟨b1, 5, none⟩ = some (.slice p1 n1 c1) := cell_of_row y b1 5 _ 27 (0, 0) ah
  have az : b1 < y.heap.size := (Array.getElem?_eq_some_iff.1 ah).1
  have HM := bigd_hid 60 q1 (by omega) d1 (fun b h => h) av
  unfold nodeC at HM
  clear ah av
  go_wp2_with fail
  refine (HM.out _ (Below.refl _ _)).mono ?_
  rintro _ y1 ⟨rfl, hb⟩
  have R' := Lib.hid (R1.out.up hb)
  clear R1 HM hb a0 a1 a2 a3 a4 a5 az
  have R1 := R'
  clear R'
  go_wp2_with fail
  go_ret
  exact ⟨rfl, R1.out.2.2.1⟩
set_option maxHeartbeats 16000000 in
theorem parts_big2 {t1 t2 : RT} {x : List UInt8} {w : World} {ka kb : Int} {ua ub : Nat → Int} {pa pb : Option Addr} {na ca nb cb : Nat} (hw0 : 0 < w.heap.size) (hT : Tb w) (V1 : RV (fun b => b < w.heap.size) w t1 (.agg (nodeC ka ua (.slice pa na ca)))) (V2 : RV (fun b => b < w.heap.size) w t2 (.agg (nodeC kb ub (.slice pb nb cb))))
    (o1 : okT t1) (o2 : okT t2) (d1 : wid t1 ≤ 9223372036854775806) (d2 : wid t2 ≤ 9223372036854775806) (h3 : x.length ≤ 60) (q1 : decide (60 < sz t1) = false) (q2 : decide (60 < sz t2) = true) :
    Calls Tryd.prog 9 #[.agg #[.int .i64 ka, .int .u64 (ua 0), .int .u64 (ua 1), .int .u64 (ua 2), .int .u64 (ua 3), .slice pa na ca], .agg #[.int .i64 kb, .int .u64 (ub 0), .int .u64 (ub 1), .int .u64 (ub 2), .int .u64 (ub 3), .slice pb nb cb], .string (bs x)] w fun e w' => e = .returned (.bool true) ∧ Below w.heap.size w w' := by
  have hxs : (bs x).size = x.length := rfl
  have S1 := Lib.hid (((Below.refl w.heap.size w).alloc (Nat.le_refl _) (.cells #[.int .i64 ka, .int .u64 (ua 0), .int .u64 (ua 1), .int .u64 (ua 2), .int .u64 (ua 3), .slice pa na ca] 27)).alloc (by simp) (.cells #[.int .i64 kb, .int .u64 (ub 0), .int .u64 (ub 1), .int .u64 (ub 2), .int .u64 (ub 3), .slice pb nb cb] 27) : Below w.heap.size w _)
  have B1 := Lib.hid ((PBox.new (fun b h => h) V1).up ((Below.refl _ _).alloc (Nat.le_refl _) (.cells #[.int .i64 kb, .int .u64 (ub 0), .int .u64 (ub 1), .int .u64 (ub 2), .int .u64 (ub 3), .slice pb nb cb] 27)))
  have B2 := Lib.hid (PBox.new (fun b h => h) (rv_alloc (.cells #[.int .i64 ka, .int .u64 (ua 0), .int .u64 (ua 1), .int .u64 (ua 2), .int .u64 (ua 3), .slice pa na ca] 27) V2))
  have HT := Lib.hid hT
  unfold nodeC at B1 B2
  clear V1 V2 hT
  have i3 : ¬ (60 : Int) < ((bs x).size : Int) := by rw [hxs]; omega
  have hs : (w.alloc (.cells #[.int .i64 ka, .int .u64 (ua 0), .int .u64 (ua 1), .int .u64 (ua 2), .int .u64 (ua 3), .slice pa na ca] 27)).heap.size = w.heap.size + 1 := by simp
  rw [hs] at B2
  go_enter Tryd.func9, Tryd.ntmps9
  go_upto_region 1 with fail
  refine at_world (fun y => Rst w w.heap.size (w.heap.size + 1) t1 t2 y) ⟨B1.out, B2.out, S1.out, HT.out.mono (S1.out.block 0 hw0), by have := S1.out.size; omega⟩ fun y hy => ?_
  have R1 := Lib.hid hy
  clear B1 B2 S1 hy hs
  obtain ⟨b1, hb1⟩ : ∃ b1, w.heap.size = b1 := ⟨_, rfl⟩
  rw [hb1] at R1
  obtain ⟨k1, u1, p1, n1, c1, ah, av⟩ := R1.out.1
  have a0 : y.cell? ⟨b1, 0, none⟩ = some (.int .i64 k1) := cell_of_row y b1 0 _ 27 (0, 0) ah
  have a1 : y.cell? ⟨b1, 1, none⟩ = some (.int .u64 (u1 0)) := cell_of_row y b1 1 _ 27 (0, 0) ah
  have a2 : y.cell? ⟨b1, 2, none⟩ = some (.int .u64 (u1 1)) := cell_of_row y b1 2 _ 27 (0, 0) ah
  have a3 : y.cell? ⟨b1, 3, none⟩ = some (.int .u64 (u1 2)) := cell_of_row y b1 3 _ 27 (0, 0) ah
  have a4 : y.cell? ⟨b1, 4, none⟩ = some (.int .u64 (u1 3)) := cell_of_row y b1 4 _ 27 (0, 0) ah
  have a5 : y.cell? ⟨b1, 5, none⟩ = some (.slice p1 n1 c1) := cell_of_row y b1 5 _ 27 (0, 0) ah
  have az : b1 < y.heap.size := (Array.getElem?_eq_some_iff.1 ah).1
  have HM := bigd_hid 60 q1 (by omega) d1 (fun b h => h) av
  unfold nodeC at HM
  clear ah av
  go_wp2_with fail
  refine (HM.out _ (Below.refl _ _)).mono ?_
  rintro _ y1 ⟨rfl, hb⟩
  have R' := Lib.hid (R1.out.up hb)
  clear R1 HM hb a0 a1 a2 a3 a4 a5 az
  have R1 := R'
  clear R'
  obtain ⟨k2, u2, p2, n2, c2, ah, av⟩ := R1.out.2.1
  have a0 : y1.cell? ⟨(b1 + 1), 0, none⟩ = some (.int .i64 k2) := cell_of_row y1 (b1 + 1) 0 _ 27 (0, 0) ah
  have a1 : y1.cell? ⟨(b1 + 1), 1, none⟩ = some (.int .u64 (u2 0)) := cell_of_row y1 (b1 + 1) 1 _ 27 (0, 0) ah
  have a2 : y1.cell? ⟨(b1 + 1), 2, none⟩ = some (.int .u64 (u2 1)) := cell_of_row y1 (b1 + 1) 2 _ 27 (0, 0) ah
  have a3 : y1.cell? ⟨(b1 + 1), 3, none⟩ = some (.int .u64 (u2 2)) := cell_of_row y1 (b1 + 1) 3 _ 27 (0, 0) ah
  have a4 : y1.cell? ⟨(b1 + 1), 4, none⟩ = some (.int .u64 (u2 3)) := cell_of_row y1 (b1 + 1) 4 _ 27 (0, 0) ah
  have a5 : y1.cell? ⟨(b1 + 1), 5, none⟩ = some (.slice p2 n2 c2) := cell_of_row y1 (b1 + 1) 5 _ 27 (0, 0) ah
  have az : (b1 + 1) < y1.heap.size := (Array.getElem?_eq_some_iff.1 ah).1
  have HM := bigd_hid 60 q2 (by omega) d2 (fun b h => h) av
  unfold nodeC at HM
  clear ah av
  go_wp2_with fail
  refine (HM.out _ (Below.refl _ _)).mono ?_
  rintro _ y2 ⟨rfl, hb⟩
  have R' := Lib.hid (R1.out.up hb)
  clear R1 HM hb a0 a1 a2 a3 a4 a5 az
  have R1 := R'
  clear R'
  go_wp2_with fail
  go_ret
  exact ⟨rfl, R1.out.2.2.1⟩
set_option maxHeartbeats 16000000 in
theorem parts_err {t1 t2 : RT} {x : List UInt8} {w : World} {ka kb : Int} {ua ub : Nat → Int} {pa pb : Option Addr} {na ca nb cb : Nat} (hw0 : 0 < w.heap.size) (hT : Tb w) (V1 : RV (fun b => b < w.heap.size) w t1 (.agg (nodeC ka ua (.slice pa na ca)))) (V2 : RV (fun b => b < w.heap.size) w t2 (.agg (nodeC kb ub (.slice pb nb cb))))
    (o1 : okT t1) (o2 : okT t2) (d1 : wid t1 ≤ 9223372036854775806) (d2 : wid t2 ≤ 9223372036854775806) (h3 : x.length ≤ 60) (q1 : decide (60 < sz t1) = false) (q2 : decide (60 < sz t2) = false) (o3 : okT (.mk 3 u0 [t1, t2])) (o4 : okT (.mk 4 u0 [t1, t2])) (d3 : wid (.mk 3 u0 [t1, t2]) ≤ 9223372036854775806) (d4 : wid (.mk 4 u0 [t1, t2]) ≤ 9223372036854775806) {r1 r2 r3 r4 : Bool} {E E1 E2 : Int} (hE : (E != 0) = true) (M3 : mtP (.mk 3 u0 [t1, t2]) x = (r3, E)) (M4 : mtP (.mk 4 u0 [t1, t2]) x = (r4, E)) (M1 : mtP t1 x = (r1, E1)) (M2 : mtP t2 x = (r2, E2)) :
    Calls Tryd.prog 9 #[.agg #[.int .i64 ka, .int .u64 (ua 0), .int .u64 (ua 1), .int .u64 (ua 2), .int .u64 (ua 3), .slice pa na ca], .agg #[.int .i64 kb, .int .u64 (ub 0), .int .u64 (ub 1), .int .u64 (ub 2), .int .u64 (ub 3), .slice pb nb cb], .string (bs x)] w fun e w' => e = .returned (.bool true) ∧ Below w.heap.size w w' := by
  have hxs : (bs x).size = x.length := rfl
  have S1 := Lib.hid (((Below.refl w.heap.size w).alloc (Nat.le_refl _) (.cells #[.int .i64 ka, .int .u64 (ua 0), .int .u64 (ua 1), .int .u64 (ua 2), .int .u64 (ua 3), .slice pa na ca] 27)).alloc (by simp) (.cells #[.int .i64 kb, .int .u64 (ub 0), .int .u64 (ub 1), .int .u64 (ub 2), .int .u64 (ub 3), .slice pb nb cb] 27) : Below w.heap.size w _)
  have B1 := Lib.hid ((PBox.new (fun b h => h) V1).up ((Below.refl _ _).alloc (Nat.le_refl _) (.cells #[.int .i64 kb, .int .u64 (ub 0), .int .u64 (ub 1), .int .u64 (ub 2), .int .u64 (ub 3), .slice pb nb cb] 27)))
  have B2 := Lib.hid (PBox.new (fun b h => h) (rv_alloc (.cells #[.int .i64 ka, .int .u64 (ua 0), .int .u64 (ua 1), .int .u64 (ua 2), .int .u64 (ua 3), .slice pa na ca] 27) V2))
  have HT := Lib.hid hT
  unfold nodeC at B1 B2
  clear V1 V2 hT
  have i3 : ¬ (60 : Int) < ((bs x).size : Int) := by rw [hxs]; omega
  have hs : (w.alloc (.cells #[.int .i64 ka, .int .u64 (ua 0), .int .u64 (ua 1), .int .u64 (ua 2), .int .u64 (ua 3), .slice pa na ca] 27)).heap.size = w.heap.size + 1 := by simp
  rw [hs] at B2
  go_enter Tryd.func9, Tryd.ntmps9
  go_upto_region 1 with fail
  refine at_world (fun y => Rst w w.heap.size (w.heap.size + 1) t1 t2 y) ⟨B1.out, B2.out, S1.out, HT.out.mono (S1.out.block 0 hw0), by have := S1.out.size; omega⟩ fun y hy => ?_
  have R1 := Lib.hid hy
  clear B1 B2 S1 hy hs
  obtain ⟨b1, hb1⟩ : ∃ b1, w.heap.size = b1 := ⟨_, rfl⟩
  rw [hb1] at R1
  obtain ⟨k1, u1, p1, n1, c1, ah, av⟩ := R1.out.1
  have a0 : y.cell? ⟨b1, 0, none⟩ = some (.int .i64 k1) := cell_of_row y b1 0 _ 27 (0, 0) ah
  have a1 : y.cell? ⟨b1, 1, none⟩ = some (.int .u64 (u1 0)) := cell_of_row y b1 1 _ 27 (0, 0) ah
  have a2 : y.cell? ⟨b1, 2, none⟩ = some (.int .u64 (u1 1)) := cell_of_row y b1 2 _ 27 (0, 0) ah
  have a3 : y.cell? ⟨b1, 3, none⟩ = some (.int .u64 (u1 2)) := cell_of_row y b1 3 _ 27 (0, 0) ah
  have a4 : y.cell? ⟨b1, 4, none⟩ = some (.int .u64 (u1 3)) := cell_of_row y b1 4 _ 27 (0, 0) ah
  have a5 : y.cell? ⟨b1, 5, none⟩ = some (.slice p1 n1 c1) := cell_of_row y b1 5 _ 27 (0, 0) ah
  have az : b1 < y.heap.size := (Array.getElem?_eq_some_iff.1 ah).1
  have HM := bigd_hid 60 q1 (by omega) d1 (fun b h => h) av
  unfold nodeC at HM
  clear ah av
  go_wp2_with fail
  refine (HM.out _ (Below.refl _ _)).mono ?_
  rintro _ y1 ⟨rfl, hb⟩
  have R' := Lib.hid (R1.out.up hb)
  clear R1 HM hb a0 a1 a2 a3 a4 a5 az
  have R1 := R'
  clear R'
  obtain ⟨k2, u2, p2, n2, c2, ah, av⟩ := R1.out.2.1
  have a0 : y1.cell? ⟨(b1 + 1), 0, none⟩ = some (.int .i64 k2) := cell_of_row y1 (b1 + 1) 0 _ 27 (0, 0) ah
  have a1 : y1.cell? ⟨(b1 + 1), 1, none⟩ = some (.int .u64 (u2 0)) := cell_of_row y1 (b1 + 1) 1 _ 27 (0, 0) ah
  have a2 : y1.cell? ⟨(b1 + 1), 2, none⟩ = some (.int .u64 (u2 1)) := cell_of_row y1 (b1 + 1) 2 _ 27 (0, 0) ah
  have a3 : y1.cell? ⟨(b1 + 1), 3, none⟩ = some (.int .u64 (u2 2)) := cell_of_row y1 (b1 + 1) 3 _ 27 (0, 0) ah
  have a4 : y1.cell? ⟨(b1 + 1), 4, none⟩ = some (.int .u64 (u2 3)) := cell_of_row y1 (b1 + 1) 4 _ 27 (0, 0) ah
  have a5 : y1.cell? ⟨(b1 + 1), 5, none⟩ = some (.slice p2 n2 c2) := cell_of_row y1 (b1 + 1) 5 _ 27 (0, 0) ah
  have az : (b1 + 1) < y1.heap.size := (Array.getElem?_eq_some_iff.1 ah).1
  have HM := bigd_hid 60 q2 (by omega) d2 (fun b h => h) av
  unfold nodeC at HM
  clear ah av
  go_wp2_with fail
  refine (HM.out _ (Below.refl _ _)).mono ?_
  rintro _ y2 ⟨rfl, hb⟩
  have R' := Lib.hid (R1.out.up hb)
  clear R1 HM hb a0 a1 a2 a3 a4 a5 az
  have R1 := R'
  clear R'
  obtain ⟨k3, u3, p3, n3, c3, ah, av⟩ := R1.out.1
  have a0 : y2.cell? ⟨b1, 0, none⟩ = some (.int .i64 k3) := cell_of_row y2 b1 0 _ 27 (0, 0) ah
  have a1 : y2.cell? ⟨b1, 1, none⟩ = some (.int .u64 (u3 0)) := cell_of_row y2 b1 1 _ 27 (0, 0) ah
  have a2 : y2.cell? ⟨b1, 2, none⟩ = some (.int .u64 (u3 1)) := cell_of_row y2 b1 2 _ 27 (0, 0) ah
  have a3 : y2.cell? ⟨b1, 3, none⟩ = some (.int .u64 (u3 2)) := cell_of_row y2 b1 3 _ 27 (0, 0) ah
  have a4 : y2.cell? ⟨b1, 4, none⟩ = some (.int .u64 (u3 3)) := cell_of_row y2 b1 4 _ 27 (0, 0) ah
  have a5 : y2.cell? ⟨b1, 5, none⟩ = some (.slice p3 n3 c3) := cell_of_row y2 b1 5 _ 27 (0, 0) ah
  have az : b1 < y2.heap.size := (Array.getElem?_eq_some_iff.1 ah).1
  obtain ⟨k4, u4, p4, n4, c4, eh, ev⟩ := R1.out.2.1
  have e0 : y2.cell? ⟨(b1 + 1), 0, none⟩ = some (.int .i64 k4) := cell_of_row y2 (b1 + 1) 0 _ 27 (0, 0) eh
  have e1 : y2.cell? ⟨(b1 + 1), 1, none⟩ = some (.int .u64 (u4 0)) := cell_of_row y2 (b1 + 1) 1 _ 27 (0, 0) eh
  have e2 : y2.cell? ⟨(b1 + 1), 2, none⟩ = some (.int .u64 (u4 1)) := cell_of_row y2 (b1 + 1) 2 _ 27 (0, 0) eh
  have e3 : y2.cell? ⟨(b1 + 1), 3, none⟩ = some (.int .u64 (u4 2)) := cell_of_row y2 (b1 + 1) 3 _ 27 (0, 0) eh
  have e4 : y2.cell? ⟨(b1 + 1), 4, none⟩ = some (.int .u64 (u4 3)) := cell_of_row y2 (b1 + 1) 4 _ 27 (0, 0) eh
  have e5 : y2.cell? ⟨(b1 + 1), 5, none⟩ = some (.slice p4 n4 c4) := cell_of_row y2 (b1 + 1) 5 _ 27 (0, 0) eh
  have ez : (b1 + 1) < y2.heap.size := (Array.getElem?_eq_some_iff.1 eh).1
  have V := rv_two (y := y2.alloc (.cells #[.int .i64 k3, .int .u64 (u3 0), .int .u64 (u3 1), .int .u64 (u3 2), .int .u64 (u3 3), .slice p3 n3 c3, .int .i64 k4, .int .u64 (u4 0), .int .u64 (u4 1), .int .u64 (u4 2), .int .u64 (u4 3), .slice p4 n4 c4] 27)) 3 (heap_alloc_last y2 _) (rv_alloc _ av) (rv_alloc _ ev)
  have U := Lib.hid ((Below.refl y2.heap.size y2).alloc (Nat.le_refl _) (.cells #[.int .i64 k3, .int .u64 (u3 0), .int .u64 (u3 1), .int .u64 (u3 2), .int .u64 (u3 3), .slice p3 n3 c3, .int .i64 k4, .int .u64 (u4 0), .int .u64 (u4 1), .int .u64 (u4 2), .int .u64 (u4 3), .slice p4 n4 c4] 27))
  have R2 := Lib.hid (R1.out.up U.out)
  have HM := mat2_hid o3 d3 M3 (fun b h => h) R2.out.2.2.2.2 R2.out.2.2.2.1 V
  unfold nodeC u0 at HM
  clear ah av eh ev V U
  go_wp2_with fail
  refine (HM.out _ (Below.refl _ _)).mono ?_
  rintro _ y3 ⟨rfl, hb⟩
  have R' := Lib.hid (R2.out.up hb)
  clear R1 R2 HM hb a0 a1 a2 a3 a4 a5 az e0 e1 e2 e3 e4 e5 ez
  have R1 := R'
  clear R'
  obtain ⟨k5, u5, p5, n5, c5, ah, av⟩ := R1.out.1
  have a0 : y3.cell? ⟨b1, 0, none⟩ = some (.int .i64 k5) := cell_of_row y3 b1 0 _ 27 (0, 0) ah
  have a1 : y3.cell? ⟨b1, 1, none⟩ = some (.int .u64 (u5 0)) := cell_of_row y3 b1 1 _ 27 (0, 0) ah
  have a2 : y3.cell? ⟨b1, 2, none⟩ = some (.int .u64 (u5 1)) := cell_of_row y3 b1 2 _ 27 (0, 0) ah
  have a3 : y3.cell? ⟨b1, 3, none⟩ = some (.int .u64 (u5 2)) := cell_of_row y3 b1 3 _ 27 (0, 0) ah
  have a4 : y3.cell? ⟨b1, 4, none⟩ = some (.int .u64 (u5 3)) := cell_of_row y3 b1 4 _ 27 (0, 0) ah
  have a5 : y3.cell? ⟨b1, 5, none⟩ = some (.slice p5 n5 c5) := cell_of_row y3 b1 5 _ 27 (0, 0) ah
  have az : b1 < y3.heap.size := (Array.getElem?_eq_some_iff.1 ah).1
  obtain ⟨k6, u6, p6, n6, c6, eh, ev⟩ := R1.out.2.1
  have e0 : y3.cell? ⟨(b1 + 1), 0, none⟩ = some (.int .i64 k6) := cell_of_row y3 (b1 + 1) 0 _ 27 (0, 0) eh
  have e1 : y3.cell? ⟨(b1 + 1), 1, none⟩ = some (.int .u64 (u6 0)) := cell_of_row y3 (b1 + 1) 1 _ 27 (0, 0) eh
  have e2 : y3.cell? ⟨(b1 + 1), 2, none⟩ = some (.int .u64 (u6 1)) := cell_of_row y3 (b1 + 1) 2 _ 27 (0, 0) eh
  have e3 : y3.cell? ⟨(b1 + 1), 3, none⟩ = some (.int .u64 (u6 2)) := cell_of_row y3 (b1 + 1) 3 _ 27 (0, 0) eh
  have e4 : y3.cell? ⟨(b1 + 1), 4, none⟩ = some (.int .u64 (u6 3)) := cell_of_row y3 (b1 + 1) 4 _ 27 (0, 0) eh
  have e5 : y3.cell? ⟨(b1 + 1), 5, none⟩ = some (.slice p6 n6 c6) := cell_of_row y3 (b1 + 1) 5 _ 27 (0, 0) eh
  have ez : (b1 + 1) < y3.heap.size := (Array.getElem?_eq_some_iff.1 eh).1
  have V := rv_two (y := y3.alloc (.cells #[.int .i64 k5, .int .u64 (u5 0), .int .u64 (u5 1), .int .u64 (u5 2), .int .u64 (u5 3), .slice p5 n5 c5, .int .i64 k6, .int .u64 (u6 0), .int .u64 (u6 1), .int .u64 (u6 2), .int .u64 (u6 3), .slice p6 n6 c6] 27)) 4 (heap_alloc_last y3 _) (rv_alloc _ av) (rv_alloc _ ev)
  have U := Lib.hid ((Below.refl y3.heap.size y3).alloc (Nat.le_refl _) (.cells #[.int .i64 k5, .int .u64 (u5 0), .int .u64 (u5 1), .int .u64 (u5 2), .int .u64 (u5 3), .slice p5 n5 c5, .int .i64 k6, .int .u64 (u6 0), .int .u64 (u6 1), .int .u64 (u6 2), .int .u64 (u6 3), .slice p6 n6 c6] 27))
  have R2 := Lib.hid (R1.out.up U.out)
  have HM := mat2_hid o4 d4 M4 (fun b h => h) R2.out.2.2.2.2 R2.out.2.2.2.1 V
  unfold nodeC u0 at HM
  clear ah av eh ev V U
  go_wp2_with fail
  refine (HM.out _ (Below.refl _ _)).mono ?_
  rintro _ y4 ⟨rfl, hb⟩
  have R' := Lib.hid (R2.out.up hb)
  clear R1 R2 HM hb a0 a1 a2 a3 a4 a5 az e0 e1 e2 e3 e4 e5 ez
  have R1 := R'
  clear R'
  obtain ⟨k7, u7, p7, n7, c7, ah, av⟩ := R1.out.1
  have a0 : y4.cell? ⟨b1, 0, none⟩ = some (.int .i64 k7) := cell_of_row y4 b1 0 _ 27 (0, 0) ah
  have a1 : y4.cell? ⟨b1, 1, none⟩ = some (.int .u64 (u7 0)) := cell_of_row y4 b1 1 _ 27 (0, 0) ah
  have a2 : y4.cell? ⟨b1, 2, none⟩ = some (.int .u64 (u7 1)) := cell_of_row y4 b1 2 _ 27 (0, 0) ah
  have a3 : y4.cell? ⟨b1, 3, none⟩ = some (.int .u64 (u7 2)) := cell_of_row y4 b1 3 _ 27 (0, 0) ah
  have a4 : y4.cell? ⟨b1, 4, none⟩ = some (.int .u64 (u7 3)) := cell_of_row y4 b1 4 _ 27 (0, 0) ah
  have a5 : y4.cell? ⟨b1, 5, none⟩ = some (.slice p7 n7 c7) := cell_of_row y4 b1 5 _ 27 (0, 0) ah
  have az : b1 < y4.heap.size := (Array.getElem?_eq_some_iff.1 ah).1
  have HM := mat2_hid o1 d1 M1 (fun b h => h) R1.out.2.2.2.2 R1.out.2.2.2.1 av
  unfold nodeC at HM
  clear ah av
  go_wp2_with fail
  refine (HM.out _ (Below.refl _ _)).mono ?_
  rintro _ y5 ⟨rfl, hb⟩
  have R' := Lib.hid (R1.out.up hb)
  clear R1 HM hb a0 a1 a2 a3 a4 a5 az
  have R1 := R'
  clear R'
  obtain ⟨k8, u8, p8, n8, c8, ah, av⟩ := R1.out.2.1
  have a0 : y5.cell? ⟨(b1 + 1), 0, none⟩ = some (.int .i64 k8) := cell_of_row y5 (b1 + 1) 0 _ 27 (0, 0) ah
  have a1 : y5.cell? ⟨(b1 + 1), 1, none⟩ = some (.int .u64 (u8 0)) := cell_of_row y5 (b1 + 1) 1 _ 27 (0, 0) ah
  have a2 : y5.cell? ⟨(b1 + 1), 2, none⟩ = some (.int .u64 (u8 1)) := cell_of_row y5 (b1 + 1) 2 _ 27 (0, 0) ah
  have a3 : y5.cell? ⟨(b1 + 1), 3, none⟩ = some (.int .u64 (u8 2)) := cell_of_row y5 (b1 + 1) 3 _ 27 (0, 0) ah
  have a4 : y5.cell? ⟨(b1 + 1), 4, none⟩ = some (.int .u64 (u8 3)) := cell_of_row y5 (b1 + 1) 4 _ 27 (0, 0) ah
  have a5 : y5.cell? ⟨(b1 + 1), 5, none⟩ = some (.slice p8 n8 c8) := cell_of_row y5 (b1 + 1) 5 _ 27 (0, 0) ah
  have az : (b1 + 1) < y5.heap.size := (Array.getElem?_eq_some_iff.1 ah).1
  have HM := mat2_hid o2 d2 M2 (fun b h => h) R1.out.2.2.2.2 R1.out.2.2.2.1 av
  unfold nodeC at HM
  clear ah av
  go_wp2_with fail
  refine (HM.out _ (Below.refl _ _)).mono ?_
  rintro _ y6 ⟨rfl, hb⟩
  have R' := Lib.hid (R1.out.up hb)
  clear R1 HM hb a0 a1 a2 a3 a4 a5 az
  have R1 := R'
  clear R'
  have HA := alive_hid R1.out.2.2.2.2 R1.out.2.2.2.1
  go_wp2_with fail
  refine (HA.out _ (Below.refl _ _)).mono ?_
  rintro _ y7 ⟨rfl, hb⟩
  have R8 := Lib.hid (R1.out.up hb)
  clear hb HA R1
  go_wp2
  go_ret
  exact ⟨rfl, R8.out.2.2.1⟩
set_option maxHeartbeats 16000000 in
theorem parts_ok {t1 t2 : RT} {x : List UInt8} {w : World} {ka kb : Int} {ua ub : Nat → Int} {pa pb : Option Addr} {na ca nb cb : Nat} (hw0 : 0 < w.heap.size) (hT : Tb w) (V1 : RV (fun b => b < w.heap.size) w t1 (.agg (nodeC ka ua (.slice pa na ca)))) (V2 : RV (fun b => b < w.heap.size) w t2 (.agg (nodeC kb ub (.slice pb nb cb))))
    (o1 : okT t1) (o2 : okT t2) (d1 : wid t1 ≤ 9223372036854775806) (d2 : wid t2 ≤ 9223372036854775806) (h3 : x.length ≤ 60) (q1 : decide (60 < sz t1) = false) (q2 : decide (60 < sz t2) = false) (o3 : okT (.mk 3 u0 [t1, t2])) (o4 : okT (.mk 4 u0 [t1, t2])) (d3 : wid (.mk 3 u0 [t1, t2]) ≤ 9223372036854775806) (d4 : wid (.mk 4 u0 [t1, t2]) ≤ 9223372036854775806) {r1 r2 r3 r4 : Bool} (C1 : checkE t1 = 0) (C2 : checkE t2 = 0) (M3 : mtP (.mk 3 u0 [t1, t2]) x = (pty t1 t2 x (x.length + 1), 0)) (M4 : mtP (.mk 4 u0 [t1, t2]) x = ((r1 || r2), 0)) (M1 : mtP t1 x = (r1, 0)) (M2 : mtP t2 x = (r2, 0)) :
    Calls Tryd.prog 9 #[.agg #[.int .i64 ka, .int .u64 (ua 0), .int .u64 (ua 1), .int .u64 (ua 2), .int .u64 (ua 3), .slice pa na ca], .agg #[.int .i64 kb, .int .u64 (ub 0), .int .u64 (ub 1), .int .u64 (ub 2), .int .u64 (ub 3), .slice pb nb cb], .string (bs x)] w fun e w' => e = .returned (.bool true) ∧ Below w.heap.size w w' := by
  have hxs : (bs x).size = x.length := rfl
  have S1 := Lib.hid (((Below.refl w.heap.size w).alloc (Nat.le_refl _) (.cells #[.int .i64 ka, .int .u64 (ua 0), .int .u64 (ua 1), .int .u64 (ua 2), .int .u64 (ua 3), .slice pa na ca] 27)).alloc (by simp) (.cells #[.int .i64 kb, .int .u64 (ub 0), .int .u64 (ub 1), .int .u64 (ub 2), .int .u64 (ub 3), .slice pb nb cb] 27) : Below w.heap.size w _)
  have B1 := Lib.hid ((PBox.new (fun b h => h) V1).up ((Below.refl _ _).alloc (Nat.le_refl _) (.cells #[.int .i64 kb, .int .u64 (ub 0), .int .u64 (ub 1), .int .u64 (ub 2), .int .u64 (ub 3), .slice pb nb cb] 27)))
  have B2 := Lib.hid (PBox.new (fun b h => h) (rv_alloc (.cells #[.int .i64 ka, .int .u64 (ua 0), .int .u64 (ua 1), .int .u64 (ua 2), .int .u64 (ua 3), .slice pa na ca] 27) V2))
  have HT := Lib.hid hT
  unfold nodeC at B1 B2
  clear V1 V2 hT
  have i3 : ¬ (60 : Int) < ((bs x).size : Int) := by rw [hxs]; omega
  have hs : (w.alloc (.cells #[.int .i64 ka, .int .u64 (ua 0), .int .u64 (ua 1), .int .u64 (ua 2), .int .u64 (ua 3), .slice pa na ca] 27)).heap.size = w.heap.size + 1 := by simp
  rw [hs] at B2
  go_enter Tryd.func9, Tryd.ntmps9
  go_upto_region 1 with fail
  refine at_world (fun y => Rst w w.heap.size (w.heap.size + 1) t1 t2 y) ⟨B1.out, B2.out, S1.out, HT.out.mono (S1.out.block 0 hw0), by have := S1.out.size; omega⟩ fun y hy => ?_
  have R1 := Lib.hid hy
  clear B1 B2 S1 hy hs
  obtain ⟨b1, hb1⟩ : ∃ b1, w.heap.size = b1 := ⟨_, rfl⟩
  rw [hb1] at R1
  obtain ⟨k1, u1, p1, n1, c1, ah, av⟩ := R1.out.1
  have a0 : y.cell? ⟨b1, 0, none⟩ = some (.int .i64 k1) := cell_of_row y b1 0 _ 27 (0, 0) ah
  have a1 : y.cell? ⟨b1, 1, none⟩ = some (.int .u64 (u1 0)) := cell_of_row y b1 1 _ 27 (0, 0) ah
  have a2 : y.cell? ⟨b1, 2, none⟩ = some (.int .u64 (u1 1)) := cell_of_row y b1 2 _ 27 (0, 0) ah
  have a3 : y.cell? ⟨b1, 3, none⟩ = some (.int .u64 (u1 2)) := cell_of_row y b1 3 _ 27 (0, 0) ah
  have a4 : y.cell? ⟨b1, 4, none⟩ = some (.int .u64 (u1 3)) := cell_of_row y b1 4 _ 27 (0, 0) ah
  have a5 : y.cell? ⟨b1, 5, none⟩ = some (.slice p1 n1 c1) := cell_of_row y b1 5 _ 27 (0, 0) ah
  have az : b1 < y.heap.size := (Array.getElem?_eq_some_iff.1 ah).1
  have HM := bigd_hid 60 q1 (by omega) d1 (fun b h => h) av
  unfold nodeC at HM
  clear ah av
  go_wp2_with fail
  refine (HM.out _ (Below.refl _ _)).mono ?_
  rintro _ y1 ⟨rfl, hb⟩
  have R' := Lib.hid (R1.out.up hb)
  clear R1 HM hb a0 a1 a2 a3 a4 a5 az
  have R1 := R'
  clear R'
  obtain ⟨k2, u2, p2, n2, c2, ah, av⟩ := R1.out.2.1
  have a0 : y1.cell? ⟨(b1 + 1), 0, none⟩ = some (.int .i64 k2) := cell_of_row y1 (b1 + 1) 0 _ 27 (0, 0) ah
  have a1 : y1.cell? ⟨(b1 + 1), 1, none⟩ = some (.int .u64 (u2 0)) := cell_of_row y1 (b1 + 1) 1 _ 27 (0, 0) ah
  have a2 : y1.cell? ⟨(b1 + 1), 2, none⟩ = some (.int .u64 (u2 1)) := cell_of_row y1 (b1 + 1) 2 _ 27 (0, 0) ah
  have a3 : y1.cell? ⟨(b1 + 1), 3, none⟩ = some (.int .u64 (u2 2)) := cell_of_row y1 (b1 + 1) 3 _ 27 (0, 0) ah
  have a4 : y1.cell? ⟨(b1 + 1), 4, none⟩ = some (.int .u64 (u2 3)) := cell_of_row y1 (b1 + 1) 4 _ 27 (0, 0) ah
  have a5 : y1.cell? ⟨(b1 + 1), 5, none⟩ = some (.slice p2 n2 c2) := cell_of_row y1 (b1 + 1) 5 _ 27 (0, 0) ah
  have az : (b1 + 1) < y1.heap.size := (Array.getElem?_eq_some_iff.1 ah).1
  have HM := bigd_hid 60 q2 (by omega) d2 (fun b h => h) av
  unfold nodeC at HM
  clear ah av
  go_wp2_with fail
  refine (HM.out _ (Below.refl _ _)).mono ?_
  rintro _ y2 ⟨rfl, hb⟩
  have R' := Lib.hid (R1.out.up hb)
  clear R1 HM hb a0 a1 a2 a3 a4 a5 az
  have R1 := R'
  clear R'
  obtain ⟨k3, u3, p3, n3, c3, ah, av⟩ := R1.out.1
  have a0 : y2.cell? ⟨b1, 0, none⟩ = some (.int .i64 k3) := cell_of_row y2 b1 0 _ 27 (0, 0) ah
  have a1 : y2.cell? ⟨b1, 1, none⟩ = some (.int .u64 (u3 0)) := cell_of_row y2 b1 1 _ 27 (0, 0) ah
  have a2 : y2.cell? ⟨b1, 2, none⟩ = some (.int .u64 (u3 1)) := cell_of_row y2 b1 2 _ 27 (0, 0) ah
  have a3 : y2.cell? ⟨b1, 3, none⟩ = some (.int .u64 (u3 2)) := cell_of_row y2 b1 3 _ 27 (0, 0) ah
  have a4 : y2.cell? ⟨b1, 4, none⟩ = some (.int .u64 (u3 3)) := cell_of_row y2 b1 4 _ 27 (0, 0) ah
  have a5 : y2.cell? ⟨b1, 5, none⟩ = some (.slice p3 n3 c3) := cell_of_row y2 b1 5 _ 27 (0, 0) ah
  have az : b1 < y2.heap.size := (Array.getElem?_eq_some_iff.1 ah).1
  obtain ⟨k4, u4, p4, n4, c4, eh, ev⟩ := R1.out.2.1
  have e0 : y2.cell? ⟨(b1 + 1), 0, none⟩ = some (.int .i64 k4) := cell_of_row y2 (b1 + 1) 0 _ 27 (0, 0) eh
  have e1 : y2.cell? ⟨(b1 + 1), 1, none⟩ = some (.int .u64 (u4 0)) := cell_of_row y2 (b1 + 1) 1 _ 27 (0, 0) eh
  have e2 : y2.cell? ⟨(b1 + 1), 2, none⟩ = some (.int .u64 (u4 1)) := cell_of_row y2 (b1 + 1) 2 _ 27 (0, 0) eh
  have e3 : y2.cell? ⟨(b1 + 1), 3, none⟩ = some (.int .u64 (u4 2)) := cell_of_row y2 (b1 + 1) 3 _ 27 (0, 0) eh
  have e4 : y2.cell? ⟨(b1 + 1), 4, none⟩ = some (.int .u64 (u4 3)) := cell_of_row y2 (b1 + 1) 4 _ 27 (0, 0) eh
  have e5 : y2.cell? ⟨(b1 + 1), 5, none⟩ = some (.slice p4 n4 c4) := cell_of_row y2 (b1 + 1) 5 _ 27 (0, 0) eh
  have ez : (b1 + 1) < y2.heap.size := (Array.getElem?_eq_some_iff.1 eh).1
  have V := rv_two (y := y2.alloc (.cells #[.int .i64 k3, .int .u64 (u3 0), .int .u64 (u3 1), .int .u64 (u3 2), .int .u64 (u3 3), .slice p3 n3 c3, .int .i64 k4, .int .u64 (u4 0), .int .u64 (u4 1), .int .u64 (u4 2), .int .u64 (u4 3), .slice p4 n4 c4] 27)) 3 (heap_alloc_last y2 _) (rv_alloc _ av) (rv_alloc _ ev)
  have U := Lib.hid ((Below.refl y2.heap.size y2).alloc (Nat.le_refl _) (.cells #[.int .i64 k3, .int .u64 (u3 0), .int .u64 (u3 1), .int .u64 (u3 2), .int .u64 (u3 3), .slice p3 n3 c3, .int .i64 k4, .int .u64 (u4 0), .int .u64 (u4 1), .int .u64 (u4 2), .int .u64 (u4 3), .slice p4 n4 c4] 27))
  have R2 := Lib.hid (R1.out.up U.out)
  have HM := mat2_hid o3 d3 M3 (fun b h => h) R2.out.2.2.2.2 R2.out.2.2.2.1 V
  unfold nodeC u0 at HM
  clear ah av eh ev V U
  go_wp2_with fail
  refine (HM.out _ (Below.refl _ _)).mono ?_
  rintro _ y3 ⟨rfl, hb⟩
  have R' := Lib.hid (R2.out.up hb)
  clear R1 R2 HM hb a0 a1 a2 a3 a4 a5 az e0 e1 e2 e3 e4 e5 ez
  have R1 := R'
  clear R'
  obtain ⟨k5, u5, p5, n5, c5, ah, av⟩ := R1.out.1
  have a0 : y3.cell? ⟨b1, 0, none⟩ = some (.int .i64 k5) := cell_of_row y3 b1 0 _ 27 (0, 0) ah
  have a1 : y3.cell? ⟨b1, 1, none⟩ = some (.int .u64 (u5 0)) := cell_of_row y3 b1 1 _ 27 (0, 0) ah
  have a2 : y3.cell? ⟨b1, 2, none⟩ = some (.int .u64 (u5 1)) := cell_of_row y3 b1 2 _ 27 (0, 0) ah
  have a3 : y3.cell? ⟨b1, 3, none⟩ = some (.int .u64 (u5 2)) := cell_of_row y3 b1 3 _ 27 (0, 0) ah
  have a4 : y3.cell? ⟨b1, 4, none⟩ = some (.int .u64 (u5 3)) := cell_of_row y3 b1 4 _ 27 (0, 0) ah
  have a5 : y3.cell? ⟨b1, 5, none⟩ = some (.slice p5 n5 c5) := cell_of_row y3 b1 5 _ 27 (0, 0) ah
  have az : b1 < y3.heap.size := (Array.getElem?_eq_some_iff.1 ah).1
  obtain ⟨k6, u6, p6, n6, c6, eh, ev⟩ := R1.out.2.1
  have e0 : y3.cell? ⟨(b1 + 1), 0, none⟩ = some (.int .i64 k6) := cell_of_row y3 (b1 + 1) 0 _ 27 (0, 0) eh
  have e1 : y3.cell? ⟨(b1 + 1), 1, none⟩ = some (.int .u64 (u6 0)) := cell_of_row y3 (b1 + 1) 1 _ 27 (0, 0) eh
  have e2 : y3.cell? ⟨(b1 + 1), 2, none⟩ = some (.int .u64 (u6 1)) := cell_of_row y3 (b1 + 1) 2 _ 27 (0, 0) eh
  have e3 : y3.cell? ⟨(b1 + 1), 3, none⟩ = some (.int .u64 (u6 2)) := cell_of_row y3 (b1 + 1) 3 _ 27 (0, 0) eh
  have e4 : y3.cell? ⟨(b1 + 1), 4, none⟩ = some (.int .u64 (u6 3)) := cell_of_row y3 (b1 + 1) 4 _ 27 (0, 0) eh
  have e5 : y3.cell? ⟨(b1 + 1), 5, none⟩ = some (.slice p6 n6 c6) := cell_of_row y3 (b1 + 1) 5 _ 27 (0, 0) eh
  have ez : (b1 + 1) < y3.heap.size := (Array.getElem?_eq_some_iff.1 eh).1
  have V := rv_two (y := y3.alloc (.cells #[.int .i64 k5, .int .u64 (u5 0), .int .u64 (u5 1), .int .u64 (u5 2), .int .u64 (u5 3), .slice p5 n5 c5, .int .i64 k6, .int .u64 (u6 0), .int .u64 (u6 1), .int .u64 (u6 2), .int .u64 (u6 3), .slice p6 n6 c6] 27)) 4 (heap_alloc_last y3 _) (rv_alloc _ av) (rv_alloc _ ev)
  have U := Lib.hid ((Below.refl y3.heap.size y3).alloc (Nat.le_refl _) (.cells #[.int .i64 k5, .int .u64 (u5 0), .int .u64 (u5 1), .int .u64 (u5 2), .int .u64 (u5 3), .slice p5 n5 c5, .int .i64 k6, .int .u64 (u6 0), .int .u64 (u6 1), .int .u64 (u6 2), .int .u64 (u6 3), .slice p6 n6 c6] 27))
  have R2 := Lib.hid (R1.out.up U.out)
  have HM := mat2_hid o4 d4 M4 (fun b h => h) R2.out.2.2.2.2 R2.out.2.2.2.1 V
  unfold nodeC u0 at HM
  clear ah av eh ev V U
  go_wp2_with fail
  refine (HM.out _ (Below.refl _ _)).mono ?_
  rintro _ y4 ⟨rfl, hb⟩
  have R' := Lib.hid (R2.out.up hb)
  clear R1 R2 HM hb a0 a1 a2 a3 a4 a5 az e0 e1 e2 e3 e4 e5 ez
  have R1 := R'
  clear R'
  obtain ⟨k7, u7, p7, n7, c7, ah, av⟩ := R1.out.1
  have a0 : y4.cell? ⟨b1, 0, none⟩ = some (.int .i64 k7) := cell_of_row y4 b1 0 _ 27 (0, 0) ah
  have a1 : y4.cell? ⟨b1, 1, none⟩ = some (.int .u64 (u7 0)) := cell_of_row y4 b1 1 _ 27 (0, 0) ah
  have a2 : y4.cell? ⟨b1, 2, none⟩ = some (.int .u64 (u7 1)) := cell_of_row y4 b1 2 _ 27 (0, 0) ah
  have a3 : y4.cell? ⟨b1, 3, none⟩ = some (.int .u64 (u7 2)) := cell_of_row y4 b1 3 _ 27 (0, 0) ah
  have a4 : y4.cell? ⟨b1, 4, none⟩ = some (.int .u64 (u7 3)) := cell_of_row y4 b1 4 _ 27 (0, 0) ah
  have a5 : y4.cell? ⟨b1, 5, none⟩ = some (.slice p7 n7 c7) := cell_of_row y4 b1 5 _ 27 (0, 0) ah
  have az : b1 < y4.heap.size := (Array.getElem?_eq_some_iff.1 ah).1
  have HM := mat2_hid o1 d1 M1 (fun b h => h) R1.out.2.2.2.2 R1.out.2.2.2.1 av
  unfold nodeC at HM
  clear ah av
  go_wp2_with fail
  refine (HM.out _ (Below.refl _ _)).mono ?_
  rintro _ y5 ⟨rfl, hb⟩
  have R' := Lib.hid (R1.out.up hb)
  clear R1 HM hb a0 a1 a2 a3 a4 a5 az
  have R1 := R'
  clear R'
  obtain ⟨k8, u8, p8, n8, c8, ah, av⟩ := R1.out.2.1
  have a0 : y5.cell? ⟨(b1 + 1), 0, none⟩ = some (.int .i64 k8) := cell_of_row y5 (b1 + 1) 0 _ 27 (0, 0) ah
  have a1 : y5.cell? ⟨(b1 + 1), 1, none⟩ = some (.int .u64 (u8 0)) := cell_of_row y5 (b1 + 1) 1 _ 27 (0, 0) ah
  have a2 : y5.cell? ⟨(b1 + 1), 2, none⟩ = some (.int .u64 (u8 1)) := cell_of_row y5 (b1 + 1) 2 _ 27 (0, 0) ah
  have a3 : y5.cell? ⟨(b1 + 1), 3, none⟩ = some (.int .u64 (u8 2)) := cell_of_row y5 (b1 + 1) 3 _ 27 (0, 0) ah
  have a4 : y5.cell? ⟨(b1 + 1), 4, none⟩ = some (.int .u64 (u8 3)) := cell_of_row y5 (b1 + 1) 4 _ 27 (0, 0) ah
  have a5 : y5.cell? ⟨(b1 + 1), 5, none⟩ = some (.slice p8 n8 c8) := cell_of_row y5 (b1 + 1) 5 _ 27 (0, 0) ah
  have az : (b1 + 1) < y5.heap.size := (Array.getElem?_eq_some_iff.1 ah).1
  have HM := mat2_hid o2 d2 M2 (fun b h => h) R1.out.2.2.2.2 R1.out.2.2.2.1 av
  unfold nodeC at HM
  clear ah av
  go_wp2_with fail
  refine (HM.out _ (Below.refl _ _)).mono ?_
  rintro _ y6 ⟨rfl, hb⟩
  have R' := Lib.hid (R1.out.up hb)
  clear R1 HM hb a0 a1 a2 a3 a4 a5 az
  have R1 := R'
  clear R'
  cases r1 <;> cases r2
  all_goals (try simp only [Bool.or_true, Bool.or_false, Bool.true_or, Bool.false_or] at *)
  all_goals
    go_wp2_with fail
    go_loopw [15, 16] (fun pt i wr => ∃ k : Nat, k ≤ x.length + 1 ∧ i = .int .i64 (k : Nat) ∧ pt = .bool (pty t1 t2 x k) ∧ Hid (Rst w b1 (b1 + 1) t1 t2 wr)) (fun _ i _ => x.length + 1 - (intOf i).toNat)
    case atStart => exact ⟨0, by omega, rfl, rfl, R1⟩
    case round =>
      obtain ⟨k, hk, rfl, rfl, HR⟩ := hrel
      clear R1
      by_cases hle : k ≤ x.length
      · have j0 : (0 : Int) ≤ ((k : Nat) : Int) := by omega
        have j1 : ((k : Nat) : Int) ≤ ((bs x).size : Int) := by rw [hxs]; omega
        obtain ⟨k21, u21, p21, n21, c21, ah, av⟩ := HR.out.1
        have a0 : wr.cell? ⟨b1, 0, none⟩ = some (.int .i64 k21) := cell_of_row wr b1 0 _ 27 (0, 0) ah
        have a1 : wr.cell? ⟨b1, 1, none⟩ = some (.int .u64 (u21 0)) := cell_of_row wr b1 1 _ 27 (0, 0) ah
        have a2 : wr.cell? ⟨b1, 2, none⟩ = some (.int .u64 (u21 1)) := cell_of_row wr b1 2 _ 27 (0, 0) ah
        have a3 : wr.cell? ⟨b1, 3, none⟩ = some (.int .u64 (u21 2)) := cell_of_row wr b1 3 _ 27 (0, 0) ah
        have a4 : wr.cell? ⟨b1, 4, none⟩ = some (.int .u64 (u21 3)) := cell_of_row wr b1 4 _ 27 (0, 0) ah
        have a5 : wr.cell? ⟨b1, 5, none⟩ = some (.slice p21 n21 c21) := cell_of_row wr b1 5 _ 27 (0, 0) ah
        have az : b1 < wr.heap.size := (Array.getElem?_eq_some_iff.1 ah).1
        have HM := mat_hid C1 o1 (x := x.take k) (by rw [List.length_take]; omega) (fun b h => h) HR.out.2.2.2.2 HR.out.2.2.2.1 av
        rw [← bs_take] at HM
        unfold nodeC at HM
        clear ah av
        go_upto_region 15 with fail
        go_region_held3 (fun w' => w'.cell? ⟨b1, 0, none⟩ = some (.int .i64 k21) ∧ w'.cell? ⟨b1, 1, none⟩ = some (.int .u64 (u21 0)) ∧ w'.cell? ⟨b1, 2, none⟩ = some (.int .u64 (u21 1)) ∧ w'.cell? ⟨b1, 3, none⟩ = some (.int .u64 (u21 2)) ∧ w'.cell? ⟨b1, 4, none⟩ = some (.int .u64 (u21 3)) ∧ w'.cell? ⟨b1, 5, none⟩ = some (.slice p21 n21 c21) ∧ b1 < w'.heap.size ∧ Below wr.heap.size wr w')
          (first | assumption | exact ⟨a0, a1, a2, a3, a4, a5, az, below_drewN (Below.refl _ _) 1⟩ | exact keepR (by assumption) hb | exact keepR (by assumption) ((Below.refl _ _).alloc (Nat.le_refl _) _))
          (first | (go_at_call 27; refine (HM.out _ (keepR_k (by assumption))).mono ?_; rintro _ wq ⟨rfl, hb⟩))
        rename_i hHeld
        have R9 := Lib.hid (HR.out.up (keepR_k hHeld))
        clear hHeld hb HM HR a0 a1 a2 a3 a4 a5 az
        have R7 := R9
        clear R9
        obtain ⟨k22, u22, p22, n22, c22, ah, av⟩ := R7.out.2.1
        have a0 : wq.cell? ⟨(b1 + 1), 0, none⟩ = some (.int .i64 k22) := cell_of_row wq (b1 + 1) 0 _ 27 (0, 0) ah
        have a1 : wq.cell? ⟨(b1 + 1), 1, none⟩ = some (.int .u64 (u22 0)) := cell_of_row wq (b1 + 1) 1 _ 27 (0, 0) ah
        have a2 : wq.cell? ⟨(b1 + 1), 2, none⟩ = some (.int .u64 (u22 1)) := cell_of_row wq (b1 + 1) 2 _ 27 (0, 0) ah
        have a3 : wq.cell? ⟨(b1 + 1), 3, none⟩ = some (.int .u64 (u22 2)) := cell_of_row wq (b1 + 1) 3 _ 27 (0, 0) ah
        have a4 : wq.cell? ⟨(b1 + 1), 4, none⟩ = some (.int .u64 (u22 3)) := cell_of_row wq (b1 + 1) 4 _ 27 (0, 0) ah
        have a5 : wq.cell? ⟨(b1 + 1), 5, none⟩ = some (.slice p22 n22 c22) := cell_of_row wq (b1 + 1) 5 _ 27 (0, 0) ah
        have az : (b1 + 1) < wq.heap.size := (Array.getElem?_eq_some_iff.1 ah).1
        have HM := mat_hid C2 o2 (x := x.drop k) (by rw [List.length_drop]; omega) (fun b h => h) R7.out.2.2.2.2 R7.out.2.2.2.1 av
        rw [← bs_drop] at HM
        unfold nodeC at HM
        clear ah av
        go_upto_region 16 with fail
        go_region_held3 (fun w' => w'.cell? ⟨(b1 + 1), 0, none⟩ = some (.int .i64 k22) ∧ w'.cell? ⟨(b1 + 1), 1, none⟩ = some (.int .u64 (u22 0)) ∧ w'.cell? ⟨(b1 + 1), 2, none⟩ = some (.int .u64 (u22 1)) ∧ w'.cell? ⟨(b1 + 1), 3, none⟩ = some (.int .u64 (u22 2)) ∧ w'.cell? ⟨(b1 + 1), 4, none⟩ = some (.int .u64 (u22 3)) ∧ w'.cell? ⟨(b1 + 1), 5, none⟩ = some (.slice p22 n22 c22) ∧ (b1 + 1) < w'.heap.size ∧ Below wq.heap.size wq w')
          (first | assumption | exact ⟨a0, a1, a2, a3, a4, a5, az, below_drewN (Below.refl _ _) 1⟩ | exact keepR (by assumption) hb | exact keepR (by assumption) ((Below.refl _ _).alloc (Nat.le_refl _) _))
          (first | (go_at_call 27; refine (HM.out _ (keepR_k (by assumption))).mono ?_; rintro _ wz ⟨rfl, hb⟩))
        rename_i hHeld
        have R9 := Lib.hid (R7.out.up (keepR_k hHeld))
        clear hHeld hb HM R7 a0 a1 a2 a3 a4 a5 az
        have hpt : pty t1 t2 x (k + 1) = (pty t1 t2 x k || (matB t1 (x.take k) && matB t2 (x.drop k))) := rfl
        generalize pty t1 t2 x k = q0 at *
        generalize matB t1 (x.take k) = qa at *
        generalize matB t2 (x.drop k) = qb at *
        cases q0 <;> cases qa <;> cases qb
        all_goals
          go_wp2_with fail
          go_roundw
          case rel => exact ⟨k + 1, by omega, by go_num, by rw [hpt]; rfl, R9⟩
          case measure => simp [intOf]; omega
      · obtain rfl : k = x.length + 1 := by omega
        have j1 : ¬ (((x.length + 1 : Nat)) : Int) ≤ ((bs x).size : Int) := by rw [hxs]; omega
        have HAL := alive_hid HR.out.2.2.2.2 HR.out.2.2.2.1
        generalize pty t1 t2 x (x.length + 1) = pt at *
        cases pt
        all_goals
          go_wp2_with fail
          refine (HAL.out _ (Below.refl _ _)).mono ?_
          rintro _ v3 ⟨rfl, hb⟩
          have R8 := Lib.hid (HR.out.up hb)
          clear hb HAL HR
          go_wp2
          go_ret
          exact ⟨rfl, R8.out.2.2.1⟩
end Go.Proofs.YtmjojahkbjlcdaaDoor
