import Derived.Test.YtmjojahkbjlcdaaDoorProg
import Derived.Test.YtmjojahkbjlcdaaDoorX3
import Derived.Test.YtmjojahkbjlcdaaDoorX4
import Derived.WalkKit
import Derived.WalkLawsBesides
import Derived.WalkSpells
import Derived.Outline
import Derived.Lib.Walk
import Derived.Lib.Hide
import Derived.RegionTactic
import Derived.LoopTactic
import Derived.Below
import Derived.IntWalk
import Derived.Deep.QuietTactic
import Derived.BigQuiet
import Derived.Test.YtmjojahkbjlcdaaDoorG78
import Derived.Test.YtmjojahkbjlcdaaDoorG76
import Derived.Test.YtmjojahkbjlcdaaDoorG75
import Derived.Test.YtmjojahkbjlcdaaDoorG65
import Derived.Test.YtmjojahkbjlcdaaDoorG64
namespace Go.Proofs.YtmjojahkbjlcdaaDoor
set_option linter.unusedSimpArgs false
set_option linter.unusedVariables false
set_option maxRecDepth 100000
open Go.RowKit

/- The document's Check; RegsChecks: the walks. -/
theorem sizer_hid {t : RT} (hw : wid t ≤ 9223372036854775806) {D : Nat → Prop} {v : Value} {y : World} (hD : ∀ b, D b → b < y.heap.size) (h : RV D y t v) :
    Hid (∀ z, Below y.heap.size y z → Calls Tryd.prog 18 #[v] z fun e w' => e = .returned (.int .i64 (min (sz t) 513 : Nat)) ∧ Below z.heap.size z w') := Lib.hid fun z hb =>
  sizer_any hw (fun b hd => Nat.lt_of_lt_of_le (hD b hd) hb.size) (RV.mono (fun b h => h) (fun b hb' _ => hb.block b (hD b hb')) h)
theorem size_hid {t : RT} (hw : wid t ≤ 9223372036854775806) {D : Nat → Prop} {v : Value} {y : World} (hD : ∀ b, D b → b < y.heap.size) (h : RV D y t v) :
    Hid (∀ z, Below y.heap.size y z → Calls Tryd.prog 14 #[v] z fun e w' => e = .returned (.int .i64 (min (sz t) 513 : Nat)) ∧ Below z.heap.size z w') := Lib.hid fun z hb =>
  size_any (fun b hd => Nat.lt_of_lt_of_le (hD b hd) hb.size) hw (RV.mono (fun b h => h) (fun b hb' _ => hb.block b (hD b hb')) h)
theorem check_hid {t : RT} (hw : wid t ≤ 9223372036854775806) {D : Nat → Prop} {v : Value} {y : World} (hD : ∀ b, D b → b < y.heap.size) (h : RV D y t v) :
    Hid (∀ z, Below y.heap.size y z → Calls Tryd.prog 15 #[v] z fun e w' => e = .returned (.int .i64 (checkE t)) ∧ Below z.heap.size z w') := Lib.hid fun z hb =>
  check_any (fun b hd => Nat.lt_of_lt_of_le (hD b hd) hb.size) hw (RV.mono (fun b h => h) (fun b hb' _ => hb.block b (hD b hb')) h)
theorem deep_hid {t : RT} (hs : sz t ≤ 512) {D : Nat → Prop} {v : Value} {y : World} (hD : ∀ b, D b → b < y.heap.size) (h : RV D y t v) :
    Hid (∀ z, Below y.heap.size y z → Calls Tryd.prog 34 #[v] z fun e w' => e = .returned (.int .i64 (dep t : Nat)) ∧ Below z.heap.size z w') := Lib.hid fun z hb =>
  deep_any (dep t) t (Nat.le_refl _) (by have := dep_sz t; omega) (fun b hd => Nat.lt_of_lt_of_le (hD b hd) hb.size) (by have := wid_sz t; omega) (RV.mono (fun b h => h) (fun b hb' _ => hb.block b (hD b hb')) h)
theorem mayr_hid {t : RT} (hw : wid t ≤ 9223372036854775806) {D : Nat → Prop} {v : Value} {y : World} (hD : ∀ b, D b → b < y.heap.size) (h : RV D y t v) :
    Hid (∀ z, Below y.heap.size y z → Calls Tryd.prog 35 #[v] z fun e w' => e = .returned (.bool (mayB t)) ∧ Below z.heap.size z w') := Lib.hid fun z hb =>
  mayr_any (dep t) t (Nat.le_refl _) (fun b hd => Nat.lt_of_lt_of_le (hD b hd) hb.size) hw (RV.mono (fun b h => h) (fun b hb' _ => hb.block b (hD b hb')) h)
theorem twin_hid {t : RT} (hw : wid t ≤ 1000000) {D : Nat → Prop} {v : Value} {y : World} (hD : ∀ b, D b → b < y.heap.size) (h : RV D y t v) :
    Hid (∀ z, Below y.heap.size y z → Calls Tryd.prog 17 #[v] z (TwP t z)) := Lib.hid fun z hb =>
  twin_any (dep t) t (Nat.le_refl _) hw (fun b hd => Nat.lt_of_lt_of_le (hD b hd) hb.size) (RV.mono (fun b h => h) (fun b hb' _ => hb.block b (hD b hb')) h)
theorem left_hid {t : RT} (hw : wid t ≤ 1000000) {D E : Nat → Prop} {v v' : Value} {y : World} (hD : ∀ b, D b → b < y.heap.size) (hE : ∀ b, E b → b < y.heap.size) (h : TW D y t v) (g : RV E y t v') :
    Hid (∀ z, Below y.heap.size y z → Calls Tryd.prog 20 #[v, v'] z fun e w' => e = .returned (.bool true) ∧ Below z.heap.size z w') := Lib.hid fun z hb =>
  left_any (dep t) t (Nat.le_refl _) hw (fun b hd => Nat.lt_of_lt_of_le (hD b hd) hb.size) (fun b hd => Nat.lt_of_lt_of_le (hE b hd) hb.size) (TW.mono (fun b h => h) (fun b hb' _ => hb.block b (hD b hb')) h) (RV.mono (fun b h => h) (fun b hb' _ => hb.block b (hE b hb')) g)
set_option maxHeartbeats 16000000 in
theorem ckr_A {t : RT} {w : World} {ka : Int} {ua : Nat → Int} {pa : Option Addr} {na ca : Nat} (hw0 : 0 < w.heap.size) (hT : Tb w) (V1 : RV (fun b => b < w.heap.size) w t (.agg (nodeC ka ua (.slice pa na ca)))) (d1 : wid t ≤ 9223372036854775806) (hs : min (sz t) 513 = 513) :
    Calls Tryd.prog 19 #[.agg #[.int .i64 ka, .int .u64 (ua 0), .int .u64 (ua 1), .int .u64 (ua 2), .int .u64 (ua 3), .slice pa na ca]] w fun e w' => e = .returned (.int .i64 3) ∧ Below w.heap.size w w' := by
  have S1 := Lib.hid ((Below.refl w.heap.size w).alloc (Nat.le_refl _) (.cells #[.int .i64 ka, .int .u64 (ua 0), .int .u64 (ua 1), .int .u64 (ua 2), .int .u64 (ua 3), .slice pa na ca] 27) : Below w.heap.size w _)
  have B1 := Lib.hid (PBox.new (fun b h => h) V1)
  have HT := Lib.hid hT
  unfold nodeC at B1
  clear V1 hT
  go_enter Tryd.func19, Tryd.ntmps19
  go_upto_region 1 with fail
  refine at_world (fun y => Rst w w.heap.size w.heap.size t t y) ⟨B1.out, B1.out, S1.out, HT.out.mono (S1.out.block 0 hw0), by have := S1.out.size; omega⟩ fun y hy => ?_
  have R1 := Lib.hid hy
  clear B1 S1 hy
  obtain ⟨b1, hb1⟩ : ∃ b1, w.heap.size = b1 := ⟨_, rfl⟩
  rw [hb1] at R1
  obtain ⟨k1, u1, p1, n1, c1, ah, av⟩ := R1.out.1
  have a0 : y.cell? ⟨b1, 0, none⟩ = some (.int .i64 k1) := cell_of_row y b1 0 _ 27 (0, 0) ah
  have a1 : y.cell? ⟨b1, 1, none⟩ = some (.int .u64 (u1 0)) := cell_of_row y b1 1 _ 27 (0, 0) ah
  have a2 : y.cell? ⟨b1, 2, none⟩ = some (.int .u64 (u1 1)) := cell_of_row y b1 2 _ 27 (0, 0) ah
  have a3 : y.cell? ⟨b1, 3, none⟩ = some (.int .u64 (u1 2)) := cell_of_row y b1 3 _ 27 (0, 0) ah
  have a4 : y.cell? ⟨b1, 4, none⟩ = some (.int .u64 (u1 3)) := cell_of_row y b1 4 _ 27 (0, 0) ah
  have a5 : y.cell? ⟨b1, 5, none⟩ = some (.slice p1 n1 c1) := cell_of_row y b1 5 _ 27 (0, 0) ah
  have az : b1 < y.heap.size := (Array.getElem?_eq_some_iff.1 ah).1
  have HM := sizer_hid d1 (fun b h => h) av
  rw [hs] at HM
  unfold nodeC at HM
  clear ah av
  go_wp2_with fail
  refine (HM.out _ (Below.refl _ _)).mono ?_
  rintro _ y1 ⟨rfl, hb⟩
  have R' := Lib.hid (R1.out.up hb)
  clear R1 HM hb a0 a1 a2 a3 a4 a5 az
  have R1 := R'
  clear R'
  go_wp2_with fail
  go_ret
  exact ⟨rfl, R1.out.2.2.1⟩
set_option maxHeartbeats 16000000 in
theorem ckr_B {t : RT} {w : World} {ka : Int} {ua : Nat → Int} {pa : Option Addr} {na ca : Nat} (hw0 : 0 < w.heap.size) (hT : Tb w) (V1 : RV (fun b => b < w.heap.size) w t (.agg (nodeC ka ua (.slice pa na ca)))) (d1 : wid t ≤ 9223372036854775806) {N d : Nat} (hs : min (sz t) 513 = N) (hN : ¬ (512 : Int) < (N : Int)) (hs2 : sz t ≤ 512) (hd : dep t = d) (hd2 : (16 : Int) < (d : Int)) :
    Calls Tryd.prog 19 #[.agg #[.int .i64 ka, .int .u64 (ua 0), .int .u64 (ua 1), .int .u64 (ua 2), .int .u64 (ua 3), .slice pa na ca]] w fun e w' => e = .returned (.int .i64 51) ∧ Below w.heap.size w w' := by
  have S1 := Lib.hid ((Below.refl w.heap.size w).alloc (Nat.le_refl _) (.cells #[.int .i64 ka, .int .u64 (ua 0), .int .u64 (ua 1), .int .u64 (ua 2), .int .u64 (ua 3), .slice pa na ca] 27) : Below w.heap.size w _)
  have B1 := Lib.hid (PBox.new (fun b h => h) V1)
  have HT := Lib.hid hT
  unfold nodeC at B1
  clear V1 hT
  go_enter Tryd.func19, Tryd.ntmps19
  go_upto_region 1 with fail
  refine at_world (fun y => Rst w w.heap.size w.heap.size t t y) ⟨B1.out, B1.out, S1.out, HT.out.mono (S1.out.block 0 hw0), by have := S1.out.size; omega⟩ fun y hy => ?_
  have R1 := Lib.hid hy
  clear B1 S1 hy
  obtain ⟨b1, hb1⟩ : ∃ b1, w.heap.size = b1 := ⟨_, rfl⟩
  rw [hb1] at R1
  obtain ⟨k1, u1, p1, n1, c1, ah, av⟩ := R1.out.1
  have a0 : y.cell? ⟨b1, 0, none⟩ = some (.int .i64 k1) := cell_of_row y b1 0 _ 27 (0, 0) ah
  have a1 : y.cell? ⟨b1, 1, none⟩ = some (.int .u64 (u1 0)) := cell_of_row y b1 1 _ 27 (0, 0) ah
  have a2 : y.cell? ⟨b1, 2, none⟩ = some (.int .u64 (u1 1)) := cell_of_row y b1 2 _ 27 (0, 0) ah
  have a3 : y.cell? ⟨b1, 3, none⟩ = some (.int .u64 (u1 2)) := cell_of_row y b1 3 _ 27 (0, 0) ah
  have a4 : y.cell? ⟨b1, 4, none⟩ = some (.int .u64 (u1 3)) := cell_of_row y b1 4 _ 27 (0, 0) ah
  have a5 : y.cell? ⟨b1, 5, none⟩ = some (.slice p1 n1 c1) := cell_of_row y b1 5 _ 27 (0, 0) ah
  have az : b1 < y.heap.size := (Array.getElem?_eq_some_iff.1 ah).1
  have HM := sizer_hid d1 (fun b h => h) av
  rw [hs] at HM
  unfold nodeC at HM
  clear ah av
  go_wp2_with fail
  refine (HM.out _ (Below.refl _ _)).mono ?_
  rintro _ y1 ⟨rfl, hb⟩
  have R' := Lib.hid (R1.out.up hb)
  clear R1 HM hb a0 a1 a2 a3 a4 a5 az
  have R1 := R'
  clear R'
  obtain ⟨k2, u2, p2, n2, c2, ah, av⟩ := R1.out.1
  have a0 : y1.cell? ⟨b1, 0, none⟩ = some (.int .i64 k2) := cell_of_row y1 b1 0 _ 27 (0, 0) ah
  have a1 : y1.cell? ⟨b1, 1, none⟩ = some (.int .u64 (u2 0)) := cell_of_row y1 b1 1 _ 27 (0, 0) ah
  have a2 : y1.cell? ⟨b1, 2, none⟩ = some (.int .u64 (u2 1)) := cell_of_row y1 b1 2 _ 27 (0, 0) ah
  have a3 : y1.cell? ⟨b1, 3, none⟩ = some (.int .u64 (u2 2)) := cell_of_row y1 b1 3 _ 27 (0, 0) ah
  have a4 : y1.cell? ⟨b1, 4, none⟩ = some (.int .u64 (u2 3)) := cell_of_row y1 b1 4 _ 27 (0, 0) ah
  have a5 : y1.cell? ⟨b1, 5, none⟩ = some (.slice p2 n2 c2) := cell_of_row y1 b1 5 _ 27 (0, 0) ah
  have az : b1 < y1.heap.size := (Array.getElem?_eq_some_iff.1 ah).1
  have HM := deep_hid hs2 (fun b h => h) av
  rw [hd] at HM
  unfold nodeC at HM
  clear ah av
  go_wp2_with fail
  refine (HM.out _ (Below.refl _ _)).mono ?_
  rintro _ y2 ⟨rfl, hb⟩
  have R' := Lib.hid (R1.out.up hb)
  clear R1 HM hb a0 a1 a2 a3 a4 a5 az
  have R1 := R'
  clear R'
  go_wp2_with fail
  go_ret
  exact ⟨rfl, R1.out.2.2.1⟩
set_option maxHeartbeats 16000000 in
theorem ckr_C {t : RT} {w : World} {ka : Int} {ua : Nat → Int} {pa : Option Addr} {na ca : Nat} (hw0 : 0 < w.heap.size) (hT : Tb w) (V1 : RV (fun b => b < w.heap.size) w t (.agg (nodeC ka ua (.slice pa na ca)))) (d1 : wid t ≤ 9223372036854775806) {N d : Nat} (hs : min (sz t) 513 = N) (hN : ¬ (512 : Int) < (N : Int)) (hs2 : sz t ≤ 512) (hd : dep t = d) (hd2 : ¬ (16 : Int) < (d : Int)) (hm : mayB t = false) :
    Calls Tryd.prog 19 #[.agg #[.int .i64 ka, .int .u64 (ua 0), .int .u64 (ua 1), .int .u64 (ua 2), .int .u64 (ua 3), .slice pa na ca]] w fun e w' => e = .returned (.int .i64 2) ∧ Below w.heap.size w w' := by
  have S1 := Lib.hid ((Below.refl w.heap.size w).alloc (Nat.le_refl _) (.cells #[.int .i64 ka, .int .u64 (ua 0), .int .u64 (ua 1), .int .u64 (ua 2), .int .u64 (ua 3), .slice pa na ca] 27) : Below w.heap.size w _)
  have B1 := Lib.hid (PBox.new (fun b h => h) V1)
  have HT := Lib.hid hT
  unfold nodeC at B1
  clear V1 hT
  go_enter Tryd.func19, Tryd.ntmps19
  go_upto_region 1 with fail
  refine at_world (fun y => Rst w w.heap.size w.heap.size t t y) ⟨B1.out, B1.out, S1.out, HT.out.mono (S1.out.block 0 hw0), by have := S1.out.size; omega⟩ fun y hy => ?_
  have R1 := Lib.hid hy
  clear B1 S1 hy
  obtain ⟨b1, hb1⟩ : ∃ b1, w.heap.size = b1 := ⟨_, rfl⟩
  rw [hb1] at R1
  obtain ⟨k1, u1, p1, n1, c1, ah, av⟩ := R1.out.1
  have a0 : y.cell? ⟨b1, 0, none⟩ = some (.int .i64 k1) := cell_of_row y b1 0 _ 27 (0, 0) ah
  have a1 : y.cell? ⟨b1, 1, none⟩ = some (.int .u64 (u1 0)) := cell_of_row y b1 1 _ 27 (0, 0) ah
  have a2 : y.cell? ⟨b1, 2, none⟩ = some (.int .u64 (u1 1)) := cell_of_row y b1 2 _ 27 (0, 0) ah
  have a3 : y.cell? ⟨b1, 3, none⟩ = some (.int .u64 (u1 2)) := cell_of_row y b1 3 _ 27 (0, 0) ah
  have a4 : y.cell? ⟨b1, 4, none⟩ = some (.int .u64 (u1 3)) := cell_of_row y b1 4 _ 27 (0, 0) ah
  have a5 : y.cell? ⟨b1, 5, none⟩ = some (.slice p1 n1 c1) := cell_of_row y b1 5 _ 27 (0, 0) ah
  have az : b1 < y.heap.size := (Array.getElem?_eq_some_iff.1 ah).1
  have HM := sizer_hid d1 (fun b h => h) av
  rw [hs] at HM
  unfold nodeC at HM
  clear ah av
  go_wp2_with fail
  refine (HM.out _ (Below.refl _ _)).mono ?_
  rintro _ y1 ⟨rfl, hb⟩
  have R' := Lib.hid (R1.out.up hb)
  clear R1 HM hb a0 a1 a2 a3 a4 a5 az
  have R1 := R'
  clear R'
  obtain ⟨k2, u2, p2, n2, c2, ah, av⟩ := R1.out.1
  have a0 : y1.cell? ⟨b1, 0, none⟩ = some (.int .i64 k2) := cell_of_row y1 b1 0 _ 27 (0, 0) ah
  have a1 : y1.cell? ⟨b1, 1, none⟩ = some (.int .u64 (u2 0)) := cell_of_row y1 b1 1 _ 27 (0, 0) ah
  have a2 : y1.cell? ⟨b1, 2, none⟩ = some (.int .u64 (u2 1)) := cell_of_row y1 b1 2 _ 27 (0, 0) ah
  have a3 : y1.cell? ⟨b1, 3, none⟩ = some (.int .u64 (u2 2)) := cell_of_row y1 b1 3 _ 27 (0, 0) ah
  have a4 : y1.cell? ⟨b1, 4, none⟩ = some (.int .u64 (u2 3)) := cell_of_row y1 b1 4 _ 27 (0, 0) ah
  have a5 : y1.cell? ⟨b1, 5, none⟩ = some (.slice p2 n2 c2) := cell_of_row y1 b1 5 _ 27 (0, 0) ah
  have az : b1 < y1.heap.size := (Array.getElem?_eq_some_iff.1 ah).1
  have HM := deep_hid hs2 (fun b h => h) av
  rw [hd] at HM
  unfold nodeC at HM
  clear ah av
  go_wp2_with fail
  refine (HM.out _ (Below.refl _ _)).mono ?_
  rintro _ y2 ⟨rfl, hb⟩
  have R' := Lib.hid (R1.out.up hb)
  clear R1 HM hb a0 a1 a2 a3 a4 a5 az
  have R1 := R'
  clear R'
  obtain ⟨k3, u3, p3, n3, c3, ah, av⟩ := R1.out.1
  have a0 : y2.cell? ⟨b1, 0, none⟩ = some (.int .i64 k3) := cell_of_row y2 b1 0 _ 27 (0, 0) ah
  have a1 : y2.cell? ⟨b1, 1, none⟩ = some (.int .u64 (u3 0)) := cell_of_row y2 b1 1 _ 27 (0, 0) ah
  have a2 : y2.cell? ⟨b1, 2, none⟩ = some (.int .u64 (u3 1)) := cell_of_row y2 b1 2 _ 27 (0, 0) ah
  have a3 : y2.cell? ⟨b1, 3, none⟩ = some (.int .u64 (u3 2)) := cell_of_row y2 b1 3 _ 27 (0, 0) ah
  have a4 : y2.cell? ⟨b1, 4, none⟩ = some (.int .u64 (u3 3)) := cell_of_row y2 b1 4 _ 27 (0, 0) ah
  have a5 : y2.cell? ⟨b1, 5, none⟩ = some (.slice p3 n3 c3) := cell_of_row y2 b1 5 _ 27 (0, 0) ah
  have az : b1 < y2.heap.size := (Array.getElem?_eq_some_iff.1 ah).1
  have HM := mayr_hid d1 (fun b h => h) av
  rw [hm] at HM
  unfold nodeC at HM
  clear ah av
  go_wp2_with fail
  refine (HM.out _ (Below.refl _ _)).mono ?_
  rintro _ y3 ⟨rfl, hb⟩
  have R' := Lib.hid (R1.out.up hb)
  clear R1 HM hb a0 a1 a2 a3 a4 a5 az
  have R1 := R'
  clear R'
  go_wp2_with fail
  go_ret
  exact ⟨rfl, R1.out.2.2.1⟩
set_option maxHeartbeats 16000000 in
theorem ckr_D {t : RT} {w : World} {ka : Int} {ua : Nat → Int} {pa : Option Addr} {na ca : Nat} (hw0 : 0 < w.heap.size) (hT : Tb w) (V1 : RV (fun b => b < w.heap.size) w t (.agg (nodeC ka ua (.slice pa na ca)))) (d1 : wid t ≤ 9223372036854775806) {N d : Nat} (hs : min (sz t) 513 = N) (hN : ¬ (512 : Int) < (N : Int)) (hs2 : sz t ≤ 512) (hd : dep t = d) (hd2 : ¬ (16 : Int) < (d : Int)) (hm : mayB t = true) :
    Calls Tryd.prog 19 #[.agg #[.int .i64 ka, .int .u64 (ua 0), .int .u64 (ua 1), .int .u64 (ua 2), .int .u64 (ua 3), .slice pa na ca]] w fun e w' => e = .returned (.int .i64 0) ∧ Below w.heap.size w w' := by
  have S1 := Lib.hid ((Below.refl w.heap.size w).alloc (Nat.le_refl _) (.cells #[.int .i64 ka, .int .u64 (ua 0), .int .u64 (ua 1), .int .u64 (ua 2), .int .u64 (ua 3), .slice pa na ca] 27) : Below w.heap.size w _)
  have B1 := Lib.hid (PBox.new (fun b h => h) V1)
  have HT := Lib.hid hT
  unfold nodeC at B1
  clear V1 hT
  go_enter Tryd.func19, Tryd.ntmps19
  go_upto_region 1 with fail
  refine at_world (fun y => Rst w w.heap.size w.heap.size t t y) ⟨B1.out, B1.out, S1.out, HT.out.mono (S1.out.block 0 hw0), by have := S1.out.size; omega⟩ fun y hy => ?_
  have R1 := Lib.hid hy
  clear B1 S1 hy
  obtain ⟨b1, hb1⟩ : ∃ b1, w.heap.size = b1 := ⟨_, rfl⟩
  rw [hb1] at R1
  obtain ⟨k1, u1, p1, n1, c1, ah, av⟩ := R1.out.1
  have a0 : y.cell? ⟨b1, 0, none⟩ = some (.int .i64 k1) := cell_of_row y b1 0 _ 27 (0, 0) ah
  have a1 : y.cell? ⟨b1, 1, none⟩ = some (.int .u64 (u1 0)) := cell_of_row y b1 1 _ 27 (0, 0) ah
  have a2 : y.cell? ⟨b1, 2, none⟩ = some (.int .u64 (u1 1)) := cell_of_row y b1 2 _ 27 (0, 0) ah
  have a3 : y.cell? ⟨b1, 3, none⟩ = some (.int .u64 (u1 2)) := cell_of_row y b1 3 _ 27 (0, 0) ah
  have a4 : y.cell? ⟨b1, 4, none⟩ = some (.int .u64 (u1 3)) := cell_of_row y b1 4 _ 27 (0, 0) ah
  have a5 : y.cell? ⟨b1, 5, none⟩ = some (.slice p1 n1 c1) := cell_of_row y b1 5 _ 27 (0, 0) ah
  have az : b1 < y.heap.size := (Array.getElem?_eq_some_iff.1 ah).1
  have HM := sizer_hid d1 (fun b h => h) av
  rw [hs] at HM
  unfold nodeC at HM
  clear ah av
  go_wp2_with fail
  refine (HM.out _ (Below.refl _ _)).mono ?_
  rintro _ y1 ⟨rfl, hb⟩
  have R' := Lib.hid (R1.out.up hb)
  clear R1 HM hb a0 a1 a2 a3 a4 a5 az
  have R1 := R'
  clear R'
  obtain ⟨k2, u2, p2, n2, c2, ah, av⟩ := R1.out.1
  have a0 : y1.cell? ⟨b1, 0, none⟩ = some (.int .i64 k2) := cell_of_row y1 b1 0 _ 27 (0, 0) ah
  have a1 : y1.cell? ⟨b1, 1, none⟩ = some (.int .u64 (u2 0)) := cell_of_row y1 b1 1 _ 27 (0, 0) ah
  have a2 : y1.cell? ⟨b1, 2, none⟩ = some (.int .u64 (u2 1)) := cell_of_row y1 b1 2 _ 27 (0, 0) ah
  have a3 : y1.cell? ⟨b1, 3, none⟩ = some (.int .u64 (u2 2)) := cell_of_row y1 b1 3 _ 27 (0, 0) ah
  have a4 : y1.cell? ⟨b1, 4, none⟩ = some (.int .u64 (u2 3)) := cell_of_row y1 b1 4 _ 27 (0, 0) ah
  have a5 : y1.cell? ⟨b1, 5, none⟩ = some (.slice p2 n2 c2) := cell_of_row y1 b1 5 _ 27 (0, 0) ah
  have az : b1 < y1.heap.size := (Array.getElem?_eq_some_iff.1 ah).1
  have HM := deep_hid hs2 (fun b h => h) av
  rw [hd] at HM
  unfold nodeC at HM
  clear ah av
  go_wp2_with fail
  refine (HM.out _ (Below.refl _ _)).mono ?_
  rintro _ y2 ⟨rfl, hb⟩
  have R' := Lib.hid (R1.out.up hb)
  clear R1 HM hb a0 a1 a2 a3 a4 a5 az
  have R1 := R'
  clear R'
  obtain ⟨k3, u3, p3, n3, c3, ah, av⟩ := R1.out.1
  have a0 : y2.cell? ⟨b1, 0, none⟩ = some (.int .i64 k3) := cell_of_row y2 b1 0 _ 27 (0, 0) ah
  have a1 : y2.cell? ⟨b1, 1, none⟩ = some (.int .u64 (u3 0)) := cell_of_row y2 b1 1 _ 27 (0, 0) ah
  have a2 : y2.cell? ⟨b1, 2, none⟩ = some (.int .u64 (u3 1)) := cell_of_row y2 b1 2 _ 27 (0, 0) ah
  have a3 : y2.cell? ⟨b1, 3, none⟩ = some (.int .u64 (u3 2)) := cell_of_row y2 b1 3 _ 27 (0, 0) ah
  have a4 : y2.cell? ⟨b1, 4, none⟩ = some (.int .u64 (u3 3)) := cell_of_row y2 b1 4 _ 27 (0, 0) ah
  have a5 : y2.cell? ⟨b1, 5, none⟩ = some (.slice p3 n3 c3) := cell_of_row y2 b1 5 _ 27 (0, 0) ah
  have az : b1 < y2.heap.size := (Array.getElem?_eq_some_iff.1 ah).1
  have HM := mayr_hid d1 (fun b h => h) av
  rw [hm] at HM
  unfold nodeC at HM
  clear ah av
  go_wp2_with fail
  refine (HM.out _ (Below.refl _ _)).mono ?_
  rintro _ y3 ⟨rfl, hb⟩
  have R' := Lib.hid (R1.out.up hb)
  clear R1 HM hb a0 a1 a2 a3 a4 a5 az
  have R1 := R'
  clear R'
  go_wp2_with fail
  go_ret
  exact ⟨rfl, R1.out.2.2.1⟩
theorem checkr_any {t : RT} {w : World} {ka : Int} {ua : Nat → Int} {pa : Option Addr} {na ca : Nat} (hw0 : 0 < w.heap.size) (hT : Tb w) (V1 : RV (fun b => b < w.heap.size) w t (.agg (nodeC ka ua (.slice pa na ca)))) (d1 : wid t ≤ 9223372036854775806) :
    Calls Tryd.prog 19 #[.agg #[.int .i64 ka, .int .u64 (ua 0), .int .u64 (ua 1), .int .u64 (ua 2), .int .u64 (ua 3), .slice pa na ca]] w fun e w' => e = .returned (.int .i64 (checkE t)) ∧ Below w.heap.size w w' := by
  unfold checkE
  by_cases h1 : 512 < sz t
  · rw [if_pos h1]; exact ckr_A hw0 hT V1 d1 (by omega)
  · rw [if_neg h1]
    by_cases h2 : 16 < dep t
    · rw [if_pos h2]; exact ckr_B hw0 hT V1 d1 rfl (by omega) (by omega) rfl (by omega)
    · rw [if_neg h2]
      cases hm : mayB t with
      | false => exact ckr_C hw0 hT V1 d1 rfl (by omega) (by omega) rfl (by omega) hm
      | true => exact ckr_D hw0 hT V1 d1 rfl (by omega) (by omega) rfl (by omega) hm
theorem checkr_hid {t : RT} (d1 : wid t ≤ 9223372036854775806) {y : World} {ka : Int} {ua : Nat → Int} {pa : Option Addr} {na ca : Nat} (hw0 : 0 < y.heap.size) (hT : Tb y) (h : RV (fun b => b < y.heap.size) y t (.agg (nodeC ka ua (.slice pa na ca)))) :
    Hid (∀ z, Below y.heap.size y z → Calls Tryd.prog 19 #[.agg (nodeC ka ua (.slice pa na ca))] z fun e w' => e = .returned (.int .i64 (checkE t)) ∧ Below z.heap.size z w') := Lib.hid fun z hb =>
  checkr_any (by have := hb.size; omega) (hT.mono (hb.block 0 hw0)) (RV.mono (fun b hl => Nat.lt_of_lt_of_le hl hb.size) (fun b _ hlt => hb.block b hlt) h) d1
end Go.Proofs.YtmjojahkbjlcdaaDoor
