import Derived.Test.YtmjojahkbjlcdaaDoorProg
import Derived.Test.YtmjojahkbjlcdaaDoorX3
import Derived.Test.YtmjojahkbjlcdaaDoorX4
import Derived.WalkKit
import Derived.WalkLawsBesides
import Derived.WalkSpells
import Derived.Outline
import Derived.Lib.Walk
import Derived.Lib.Hide
import Derived.RegionTactic
import Derived.LoopTactic
import Derived.Below
import Derived.IntWalk
import Derived.Deep.QuietTactic
import Derived.BigQuiet
import Derived.Test.YtmjojahkbjlcdaaDoorG65
import Derived.Test.YtmjojahkbjlcdaaDoorG61
import Derived.Test.YtmjojahkbjlcdaaDoorG64
namespace Go.Proofs.YtmjojahkbjlcdaaDoor
set_option linter.unusedSimpArgs false
set_option linter.unusedVariables false
set_option maxRecDepth 100000
open Go.RowKit

/- RegsAgain: the walks. -/
def Ast (w : World) (b bo b6 b7 : Nat) (t : RT) (y : World) : Prop := PBox b t y ∧ PBox bo t y ∧ PBox b6 (.mk 5 u0 [t]) y ∧ PBox b7 (.mk 6 u0 [t]) y ∧ Below w.heap.size w y ∧ Tb y ∧ 0 < y.heap.size
theorem Ast.up {w : World} {b bo b6 b7 : Nat} {t : RT} {y z : World} (h : Ast w b bo b6 b7 t y) (hb : Below y.heap.size y z) : Ast w b bo b6 b7 t z :=
  ⟨h.1.up hb, h.2.1.up hb, h.2.2.1.up hb, h.2.2.2.1.up hb, h.2.2.2.2.1.trans (hb.mono h.2.2.2.2.1.size), h.2.2.2.2.2.1.mono (hb.block 0 h.2.2.2.2.2.2), Nat.lt_of_lt_of_le h.2.2.2.2.2.2 hb.size⟩
theorem rv_box (k : Int) {t : RT} {y : World} {b : Nat} (h : PBox b t y) : RV (fun b => b < y.heap.size) y (.mk k u0 [t]) (.agg (nodeC k u0 (.slice (some ⟨b, 0, none⟩) 1 1))) := by
  obtain ⟨k1, u1, p1, n1, c1, h1, h2⟩ := h
  exact rv_one k h1 h2
set_option maxHeartbeats 16000000 in
theorem again_long {t : RT} {x : List UInt8} {w : World} {ka : Int} {ua : Nat → Int} {pa : Option Addr} {na ca : Nat} (hw0 : 0 < w.heap.size) (hT : Tb w) (V1 : RV (fun b => b < w.heap.size) w t (.agg (nodeC ka ua (.slice pa na ca)))) (o1 : okT t) (d1 : wid t ≤ 9223372036854775806) (h3 : 80 < x.length) :
    Calls Tryd.prog 10 #[.agg #[.int .i64 ka, .int .u64 (ua 0), .int .u64 (ua 1), .int .u64 (ua 2), .int .u64 (ua 3), .slice pa na ca], .string (bs x)] w fun e w' => e = .returned (.bool true) ∧ Below w.heap.size w w' := by
  have hxs : (bs x).size = x.length := rfl
  have S1 := Lib.hid ((Below.refl w.heap.size w).alloc (Nat.le_refl _) (.cells #[.int .i64 ka, .int .u64 (ua 0), .int .u64 (ua 1), .int .u64 (ua 2), .int .u64 (ua 3), .slice pa na ca] 27) : Below w.heap.size w _)
  have B1 := Lib.hid (PBox.new (fun b h => h) V1)
  have HT := Lib.hid hT
  unfold nodeC at B1
  clear V1 hT
  have i3 : (80 : Int) < ((bs x).size : Int) := by rw [hxs]; omega
  go_enter Tryd.func10, Tryd.ntmps10
  go_wp2_with fail
  go_ret
  exact ⟨rfl, S1.out⟩
set_option maxHeartbeats 16000000 in
theorem again_big {t : RT} {x : List UInt8} {w : World} {ka : Int} {ua : Nat → Int} {pa : Option Addr} {na ca : Nat} (hw0 : 0 < w.heap.size) (hT : Tb w) (V1 : RV (fun b => b < w.heap.size) w t (.agg (nodeC ka ua (.slice pa na ca)))) (o1 : okT t) (d1 : wid t ≤ 9223372036854775806) (h3 : x.length ≤ 80) (q1 : decide (80 < sz t) = true) :
    Calls Tryd.prog 10 #[.agg #[.int .i64 ka, .int .u64 (ua 0), .int .u64 (ua 1), .int .u64 (ua 2), .int .u64 (ua 3), .slice pa na ca], .string (bs x)] w fun e w' => e = .returned (.bool true) ∧ Below w.heap.size w w' := by
  have hxs : (bs x).size = x.length := rfl
  have S1 := Lib.hid ((Below.refl w.heap.size w).alloc (Nat.le_refl _) (.cells #[.int .i64 ka, .int .u64 (ua 0), .int .u64 (ua 1), .int .u64 (ua 2), .int .u64 (ua 3), .slice pa na ca] 27) : Below w.heap.size w _)
  have B1 := Lib.hid (PBox.new (fun b h => h) V1)
  have HT := Lib.hid hT
  unfold nodeC at B1
  clear V1 hT
  have i3 : ¬ (80 : Int) < ((bs x).size : Int) := by rw [hxs]; omega
  go_enter Tryd.func10, Tryd.ntmps10
  go_upto_region 1 with fail
  refine at_world (fun y => Rst w w.heap.size w.heap.size t t y) ⟨B1.out, B1.out, S1.out, HT.out.mono (S1.out.block 0 hw0), by have := S1.out.size; omega⟩ fun y hy => ?_
  have R1 := Lib.hid hy
  clear B1 S1 hy
  obtain ⟨b1, hb1⟩ : ∃ b1, w.heap.size = b1 := ⟨_, rfl⟩
  rw [hb1] at R1
  obtain ⟨k1, u1, p1, n1, c1, ah, av⟩ := R1.out.1
  have a0 : y.cell? ⟨b1, 0, none⟩ = some (.int .i64 k1) := cell_of_row y b1 0 _ 27 (0, 0) ah
  have a1 : y.cell? ⟨b1, 1, none⟩ = some (.int .u64 (u1 0)) := cell_of_row y b1 1 _ 27 (0, 0) ah
  have a2 : y.cell? ⟨b1, 2, none⟩ = some (.int .u64 (u1 1)) := cell_of_row y b1 2 _ 27 (0, 0) ah
  have a3 : y.cell? ⟨b1, 3, none⟩ = some (.int .u64 (u1 2)) := cell_of_row y b1 3 _ 27 (0, 0) ah
  have a4 : y.cell? ⟨b1, 4, none⟩ = some (.int .u64 (u1 3)) := cell_of_row y b1 4 _ 27 (0, 0) ah
  have a5 : y.cell? ⟨b1, 5, none⟩ = some (.slice p1 n1 c1) := cell_of_row y b1 5 _ 27 (0, 0) ah
  have az : b1 < y.heap.size := (Array.getElem?_eq_some_iff.1 ah).1
  have HM := bigd_hid 80 q1 (by omega) d1 (fun b h => h) av
  unfold nodeC at HM
  clear ah av
  go_wp2_with fail
  refine (HM.out _ (Below.refl _ _)).mono ?_
  rintro _ y1 ⟨rfl, hb⟩
  have R' := Lib.hid (R1.out.up hb)
  clear R1 HM hb a0 a1 a2 a3 a4 a5 az
  have R1 := R'
  clear R'
  go_wp2_with fail
  go_ret
  exact ⟨rfl, R1.out.2.2.1⟩
set_option maxHeartbeats 16000000 in
theorem again_err {t : RT} {x : List UInt8} {w : World} {ka : Int} {ua : Nat → Int} {pa : Option Addr} {na ca : Nat} (hw0 : 0 < w.heap.size) (hT : Tb w) (V1 : RV (fun b => b < w.heap.size) w t (.agg (nodeC ka ua (.slice pa na ca)))) (o1 : okT t) (d1 : wid t ≤ 9223372036854775806) (h3 : x.length ≤ 80) (q1 : decide (80 < sz t) = false) (O1 : okT (.mk 6 u0 [t])) (D1 : wid (.mk 6 u0 [t]) ≤ 9223372036854775806) (O2 : okT (.mk 3 u0 [t, .mk 5 u0 [t]])) (D2 : wid (.mk 3 u0 [t, .mk 5 u0 [t]]) ≤ 9223372036854775806) (O3 : okT (.mk 7 u0 [t])) (D3 : wid (.mk 7 u0 [t]) ≤ 9223372036854775806) (O4 : okT (.mk 4 u0 [t, .mk 1 u0 []])) (D4 : wid (.mk 4 u0 [t, .mk 1 u0 []]) ≤ 9223372036854775806) (O5 : okT (.mk 5 u0 [t])) (D5 : wid (.mk 5 u0 [t]) ≤ 9223372036854775806) (O6 : okT (.mk 7 u0 [.mk 6 u0 [t]])) (D6 : wid (.mk 7 u0 [.mk 6 u0 [t]]) ≤ 9223372036854775806) {r1 r2 r3 r4 r5 r6 : Bool} {E1 E2 E3 E4 E5 E6 : Int} (M1 : mtP (.mk 6 u0 [t]) x = (r1, E1)) (M2 : mtP (.mk 3 u0 [t, .mk 5 u0 [t]]) x = (r2, E2)) (M3 : mtP (.mk 7 u0 [t]) x = (r3, E3)) (M4 : mtP (.mk 4 u0 [t, .mk 1 u0 []]) x = (r4, E4)) (M5 : mtP (.mk 5 u0 [t]) x = (r5, E5)) (M6 : mtP (.mk 7 u0 [.mk 6 u0 [t]]) x = (r6, E6)) (hE : (E2 != 0) = true ∨ (E2 = 0 ∧ (E6 != 0) = true)) :
    Calls Tryd.prog 10 #[.agg #[.int .i64 ka, .int .u64 (ua 0), .int .u64 (ua 1), .int .u64 (ua 2), .int .u64 (ua 3), .slice pa na ca], .string (bs x)] w fun e w' => e = .returned (.bool true) ∧ Below w.heap.size w w' := by
  have hxs : (bs x).size = x.length := rfl
  have S1 := Lib.hid ((Below.refl w.heap.size w).alloc (Nat.le_refl _) (.cells #[.int .i64 ka, .int .u64 (ua 0), .int .u64 (ua 1), .int .u64 (ua 2), .int .u64 (ua 3), .slice pa na ca] 27) : Below w.heap.size w _)
  have B1 := Lib.hid (PBox.new (fun b h => h) V1)
  have HT := Lib.hid hT
  unfold nodeC at B1
  clear V1 hT
  have i3 : ¬ (80 : Int) < ((bs x).size : Int) := by rw [hxs]; omega
  rcases hE with hE | ⟨rfl, hE⟩
  all_goals
    go_enter Tryd.func10, Tryd.ntmps10
    go_upto_region 1 with fail
    refine at_world (fun y => Rst w w.heap.size w.heap.size t t y) ⟨B1.out, B1.out, S1.out, HT.out.mono (S1.out.block 0 hw0), by have := S1.out.size; omega⟩ fun y hy => ?_
    have R1 := Lib.hid hy
    clear B1 S1 hy
    obtain ⟨b1, hb1⟩ : ∃ b1, w.heap.size = b1 := ⟨_, rfl⟩
    rw [hb1] at R1
    obtain ⟨k1, u1, p1, n1, c1, ah, av⟩ := R1.out.1
    have a0 : y.cell? ⟨b1, 0, none⟩ = some (.int .i64 k1) := cell_of_row y b1 0 _ 27 (0, 0) ah
    have a1 : y.cell? ⟨b1, 1, none⟩ = some (.int .u64 (u1 0)) := cell_of_row y b1 1 _ 27 (0, 0) ah
    have a2 : y.cell? ⟨b1, 2, none⟩ = some (.int .u64 (u1 1)) := cell_of_row y b1 2 _ 27 (0, 0) ah
    have a3 : y.cell? ⟨b1, 3, none⟩ = some (.int .u64 (u1 2)) := cell_of_row y b1 3 _ 27 (0, 0) ah
    have a4 : y.cell? ⟨b1, 4, none⟩ = some (.int .u64 (u1 3)) := cell_of_row y b1 4 _ 27 (0, 0) ah
    have a5 : y.cell? ⟨b1, 5, none⟩ = some (.slice p1 n1 c1) := cell_of_row y b1 5 _ 27 (0, 0) ah
    have az : b1 < y.heap.size := (Array.getElem?_eq_some_iff.1 ah).1
    have HM := bigd_hid 80 q1 (by omega) d1 (fun b h => h) av
    unfold nodeC at HM
    clear ah av
    go_wp2_with fail
    refine (HM.out _ (Below.refl _ _)).mono ?_
    rintro _ y1 ⟨rfl, hb⟩
    have R' := Lib.hid (R1.out.up hb)
    clear R1 HM hb a0 a1 a2 a3 a4 a5 az
    have R1 := R'
    clear R'
    obtain ⟨k2, u2, p2, n2, c2, ah, av⟩ := R1.out.1
    have a0 : y1.cell? ⟨b1, 0, none⟩ = some (.int .i64 k2) := cell_of_row y1 b1 0 _ 27 (0, 0) ah
    have a1 : y1.cell? ⟨b1, 1, none⟩ = some (.int .u64 (u2 0)) := cell_of_row y1 b1 1 _ 27 (0, 0) ah
    have a2 : y1.cell? ⟨b1, 2, none⟩ = some (.int .u64 (u2 1)) := cell_of_row y1 b1 2 _ 27 (0, 0) ah
    have a3 : y1.cell? ⟨b1, 3, none⟩ = some (.int .u64 (u2 2)) := cell_of_row y1 b1 3 _ 27 (0, 0) ah
    have a4 : y1.cell? ⟨b1, 4, none⟩ = some (.int .u64 (u2 3)) := cell_of_row y1 b1 4 _ 27 (0, 0) ah
    have a5 : y1.cell? ⟨b1, 5, none⟩ = some (.slice p2 n2 c2) := cell_of_row y1 b1 5 _ 27 (0, 0) ah
    have az : b1 < y1.heap.size := (Array.getElem?_eq_some_iff.1 ah).1
    have F1 := Lib.hid ((Below.refl y1.heap.size y1).alloc (Nat.le_refl _) (.cells #[.int .i64 k2, .int .u64 (u2 0), .int .u64 (u2 1), .int .u64 (u2 2), .int .u64 (u2 3), .slice p2 n2 c2] 27))
    have G1 := Lib.hid (PBox.new (fun b h => h) av)
    unfold nodeC at G1
    obtain ⟨z1, hz1⟩ : ∃ z, y1.alloc (.cells #[.int .i64 k2, .int .u64 (u2 0), .int .u64 (u2 1), .int .u64 (u2 2), .int .u64 (u2 3), .slice p2 n2 c2] 27) = z := ⟨_, rfl⟩
    rw [hz1] at F1 G1
    have V5 := rv_box 5 G1.out
    have G2 := Lib.hid (PBox.new (fun b h => h) V5)
    have F2 := Lib.hid ((Below.refl z1.heap.size z1).alloc (Nat.le_refl _) (.cells (nodeC 5 u0 (.slice (some ⟨y1.heap.size, 0, none⟩) 1 1)) 27))
    unfold nodeC u0 at G2 F2
    obtain ⟨z2, hz2⟩ : ∃ z, z1.alloc (.cells #[.int .i64 5, .int .u64 0, .int .u64 0, .int .u64 0, .int .u64 0, .slice (some ⟨y1.heap.size, 0, none⟩) 1 1] 27) = z := ⟨_, rfl⟩
    rw [hz2] at F2 G2
    have G12 := Lib.hid (G1.out.up F2.out)
    have V6 := rv_box 6 G12.out
    have G3 := Lib.hid (PBox.new (fun b h => h) V6)
    have F3 := Lib.hid ((Below.refl z2.heap.size z2).alloc (Nat.le_refl _) (.cells (nodeC 6 u0 (.slice (some ⟨y1.heap.size, 0, none⟩) 1 1)) 27))
    unfold nodeC u0 at G3 F3
    have FA := Lib.hid ((F1.out.trans (F2.out.mono F1.out.size)).trans (F3.out.mono (Nat.le_trans F1.out.size F2.out.size)))
    have RA := Lib.hid (R1.out.up FA.out)
    have G13 := Lib.hid (G12.out.up F3.out)
    have G23 := Lib.hid (G2.out.up F3.out)
    clear V5 V6 F1 F2 F3 G1 G2 G12 FA R1 ah av
    go_upto_region 6 with fail
    refine at_world (fun z => Ast w b1 y1.heap.size z1.heap.size z2.heap.size t z) ⟨RA.out.1, G13.out, G23.out, G3.out, RA.out.2.2⟩ fun z hz => ?_
    have R1 := Lib.hid hz
    clear RA G13 G23 G3 hz hz1 hz2 a0 a1 a2 a3 a4 a5 az
    generalize y1.heap.size = bo at *
    generalize z1.heap.size = b6 at *
    generalize z2.heap.size = b7 at *
    obtain ⟨k3, u3, p3, n3, c3, ah, av⟩ := R1.out.2.2.2.1
    have a0 : z.cell? ⟨b7, 0, none⟩ = some (.int .i64 k3) := cell_of_row z b7 0 _ 27 (0, 0) ah
    have a1 : z.cell? ⟨b7, 1, none⟩ = some (.int .u64 (u3 0)) := cell_of_row z b7 1 _ 27 (0, 0) ah
    have a2 : z.cell? ⟨b7, 2, none⟩ = some (.int .u64 (u3 1)) := cell_of_row z b7 2 _ 27 (0, 0) ah
    have a3 : z.cell? ⟨b7, 3, none⟩ = some (.int .u64 (u3 2)) := cell_of_row z b7 3 _ 27 (0, 0) ah
    have a4 : z.cell? ⟨b7, 4, none⟩ = some (.int .u64 (u3 3)) := cell_of_row z b7 4 _ 27 (0, 0) ah
    have a5 : z.cell? ⟨b7, 5, none⟩ = some (.slice p3 n3 c3) := cell_of_row z b7 5 _ 27 (0, 0) ah
    have az : b7 < z.heap.size := (Array.getElem?_eq_some_iff.1 ah).1
    have R2 := R1
    have HM := mat2_hid O1 D1 M1 (fun b h => h) R2.out.2.2.2.2.2.2 R2.out.2.2.2.2.2.1 av
    unfold nodeC at HM
    clear ah av
    go_wp2_with fail
    refine (HM.out _ (Below.refl _ _)).mono ?_
    rintro _ v1 ⟨rfl, hb⟩
    have R' := Lib.hid (R1.out.up hb)
    clear R1 R2 HM hb a0 a1 a2 a3 a4 a5 az
    have R1 := R'
    clear R'
    obtain ⟨kxv2, uxv2, pxv2, nxv2, cxv2, ah, av⟩ := R1.out.1
    have a0 : v1.cell? ⟨b1, 0, none⟩ = some (.int .i64 kxv2) := cell_of_row v1 b1 0 _ 27 (0, 0) ah
    have a1 : v1.cell? ⟨b1, 1, none⟩ = some (.int .u64 (uxv2 0)) := cell_of_row v1 b1 1 _ 27 (0, 0) ah
    have a2 : v1.cell? ⟨b1, 2, none⟩ = some (.int .u64 (uxv2 1)) := cell_of_row v1 b1 2 _ 27 (0, 0) ah
    have a3 : v1.cell? ⟨b1, 3, none⟩ = some (.int .u64 (uxv2 2)) := cell_of_row v1 b1 3 _ 27 (0, 0) ah
    have a4 : v1.cell? ⟨b1, 4, none⟩ = some (.int .u64 (uxv2 3)) := cell_of_row v1 b1 4 _ 27 (0, 0) ah
    have a5 : v1.cell? ⟨b1, 5, none⟩ = some (.slice pxv2 nxv2 cxv2) := cell_of_row v1 b1 5 _ 27 (0, 0) ah
    have az : b1 < v1.heap.size := (Array.getElem?_eq_some_iff.1 ah).1
    obtain ⟨kwv2, uwv2, pwv2, nwv2, cwv2, eh, ev⟩ := R1.out.2.2.1
    have e0 : v1.cell? ⟨b6, 0, none⟩ = some (.int .i64 kwv2) := cell_of_row v1 b6 0 _ 27 (0, 0) eh
    have e1 : v1.cell? ⟨b6, 1, none⟩ = some (.int .u64 (uwv2 0)) := cell_of_row v1 b6 1 _ 27 (0, 0) eh
    have e2 : v1.cell? ⟨b6, 2, none⟩ = some (.int .u64 (uwv2 1)) := cell_of_row v1 b6 2 _ 27 (0, 0) eh
    have e3 : v1.cell? ⟨b6, 3, none⟩ = some (.int .u64 (uwv2 2)) := cell_of_row v1 b6 3 _ 27 (0, 0) eh
    have e4 : v1.cell? ⟨b6, 4, none⟩ = some (.int .u64 (uwv2 3)) := cell_of_row v1 b6 4 _ 27 (0, 0) eh
    have e5 : v1.cell? ⟨b6, 5, none⟩ = some (.slice pwv2 nwv2 cwv2) := cell_of_row v1 b6 5 _ 27 (0, 0) eh
    have ez : b6 < v1.heap.size := (Array.getElem?_eq_some_iff.1 eh).1
    have V := rv_two (y := v1.alloc (.cells #[.int .i64 kxv2, .int .u64 (uxv2 0), .int .u64 (uxv2 1), .int .u64 (uxv2 2), .int .u64 (uxv2 3), .slice pxv2 nxv2 cxv2, .int .i64 kwv2, .int .u64 (uwv2 0), .int .u64 (uwv2 1), .int .u64 (uwv2 2), .int .u64 (uwv2 3), .slice pwv2 nwv2 cwv2] 27)) 3 (heap_alloc_last v1 _) (rv_alloc _ av) (rv_alloc _ ev)
    have U := Lib.hid ((Below.refl v1.heap.size v1).alloc (Nat.le_refl _) (.cells #[.int .i64 kxv2, .int .u64 (uxv2 0), .int .u64 (uxv2 1), .int .u64 (uxv2 2), .int .u64 (uxv2 3), .slice pxv2 nxv2 cxv2, .int .i64 kwv2, .int .u64 (uwv2 0), .int .u64 (uwv2 1), .int .u64 (uwv2 2), .int .u64 (uwv2 3), .slice pwv2 nwv2 cwv2] 27))
    have R2 := Lib.hid (R1.out.up U.out)
    have HM := mat2_hid O2 D2 M2 (fun b h => h) R2.out.2.2.2.2.2.2 R2.out.2.2.2.2.2.1 V
    unfold nodeC u0 at HM
    clear ah av V U eh ev
    go_wp2_with fail
    refine (HM.out _ (Below.refl _ _)).mono ?_
    rintro _ v2 ⟨rfl, hb⟩
    have R' := Lib.hid (R2.out.up hb)
    clear R1 R2 HM hb a0 a1 a2 a3 a4 a5 az e0 e1 e2 e3 e4 e5 ez
    have R1 := R'
    clear R'
    have V := rv_box 7 R1.out.2.1
    have R2 := R1
    have HM := mat2_hid O3 D3 M3 (fun b h => h) R2.out.2.2.2.2.2.2 R2.out.2.2.2.2.2.1 V
    unfold nodeC u0 at HM
    clear V
    go_wp2_with fail
    refine (HM.out _ (Below.refl _ _)).mono ?_
    rintro _ v3 ⟨rfl, hb⟩
    have R' := Lib.hid (R1.out.up hb)
    clear R1 R2 HM hb
    have R1 := R'
    clear R'
    obtain ⟨kxv4, uxv4, pxv4, nxv4, cxv4, ah, av⟩ := R1.out.1
    have a0 : v3.cell? ⟨b1, 0, none⟩ = some (.int .i64 kxv4) := cell_of_row v3 b1 0 _ 27 (0, 0) ah
    have a1 : v3.cell? ⟨b1, 1, none⟩ = some (.int .u64 (uxv4 0)) := cell_of_row v3 b1 1 _ 27 (0, 0) ah
    have a2 : v3.cell? ⟨b1, 2, none⟩ = some (.int .u64 (uxv4 1)) := cell_of_row v3 b1 2 _ 27 (0, 0) ah
    have a3 : v3.cell? ⟨b1, 3, none⟩ = some (.int .u64 (uxv4 2)) := cell_of_row v3 b1 3 _ 27 (0, 0) ah
    have a4 : v3.cell? ⟨b1, 4, none⟩ = some (.int .u64 (uxv4 3)) := cell_of_row v3 b1 4 _ 27 (0, 0) ah
    have a5 : v3.cell? ⟨b1, 5, none⟩ = some (.slice pxv4 nxv4 cxv4) := cell_of_row v3 b1 5 _ 27 (0, 0) ah
    have az : b1 < v3.heap.size := (Array.getElem?_eq_some_iff.1 ah).1
    have ev : RV (fun b => b < v3.heap.size) v3 (.mk 1 u0 []) (.agg (nodeC 1 u0 (.slice none 0 0))) := .leaf 1 u0 none 0
    have V := rv_two (y := v3.alloc (.cells #[.int .i64 kxv4, .int .u64 (uxv4 0), .int .u64 (uxv4 1), .int .u64 (uxv4 2), .int .u64 (uxv4 3), .slice pxv4 nxv4 cxv4, .int .i64 1, .int .u64 0, .int .u64 0, .int .u64 0, .int .u64 0, .slice none 0 0] 27)) 4 (heap_alloc_last v3 _) (rv_alloc _ av) (rv_alloc _ ev)
    have U := Lib.hid ((Below.refl v3.heap.size v3).alloc (Nat.le_refl _) (.cells #[.int .i64 kxv4, .int .u64 (uxv4 0), .int .u64 (uxv4 1), .int .u64 (uxv4 2), .int .u64 (uxv4 3), .slice pxv4 nxv4 cxv4, .int .i64 1, .int .u64 0, .int .u64 0, .int .u64 0, .int .u64 0, .slice none 0 0] 27))
    have R2 := Lib.hid (R1.out.up U.out)
    have HM := mat2_hid O4 D4 M4 (fun b h => h) R2.out.2.2.2.2.2.2 R2.out.2.2.2.2.2.1 V
    unfold nodeC u0 at HM
    clear ah av V U ev
    go_wp2_with fail
    refine (HM.out _ (Below.refl _ _)).mono ?_
    rintro _ v4 ⟨rfl, hb⟩
    have R' := Lib.hid (R2.out.up hb)
    clear R1 R2 HM hb a0 a1 a2 a3 a4 a5 az
    have R1 := R'
    clear R'
    obtain ⟨k4, u4, p4, n4, c4, ah, av⟩ := R1.out.2.2.1
    have a0 : v4.cell? ⟨b6, 0, none⟩ = some (.int .i64 k4) := cell_of_row v4 b6 0 _ 27 (0, 0) ah
    have a1 : v4.cell? ⟨b6, 1, none⟩ = some (.int .u64 (u4 0)) := cell_of_row v4 b6 1 _ 27 (0, 0) ah
    have a2 : v4.cell? ⟨b6, 2, none⟩ = some (.int .u64 (u4 1)) := cell_of_row v4 b6 2 _ 27 (0, 0) ah
    have a3 : v4.cell? ⟨b6, 3, none⟩ = some (.int .u64 (u4 2)) := cell_of_row v4 b6 3 _ 27 (0, 0) ah
    have a4 : v4.cell? ⟨b6, 4, none⟩ = some (.int .u64 (u4 3)) := cell_of_row v4 b6 4 _ 27 (0, 0) ah
    have a5 : v4.cell? ⟨b6, 5, none⟩ = some (.slice p4 n4 c4) := cell_of_row v4 b6 5 _ 27 (0, 0) ah
    have az : b6 < v4.heap.size := (Array.getElem?_eq_some_iff.1 ah).1
    have R2 := R1
    have HM := mat2_hid O5 D5 M5 (fun b h => h) R2.out.2.2.2.2.2.2 R2.out.2.2.2.2.2.1 av
    unfold nodeC at HM
    clear ah av
    go_wp2_with fail
    refine (HM.out _ (Below.refl _ _)).mono ?_
    rintro _ v5 ⟨rfl, hb⟩
    have R' := Lib.hid (R1.out.up hb)
    clear R1 R2 HM hb a0 a1 a2 a3 a4 a5 az
    have R1 := R'
    clear R'
    obtain ⟨kxv6, uxv6, pxv6, nxv6, cxv6, ah, av⟩ := R1.out.2.2.2.1
    have a0 : v5.cell? ⟨b7, 0, none⟩ = some (.int .i64 kxv6) := cell_of_row v5 b7 0 _ 27 (0, 0) ah
    have a1 : v5.cell? ⟨b7, 1, none⟩ = some (.int .u64 (uxv6 0)) := cell_of_row v5 b7 1 _ 27 (0, 0) ah
    have a2 : v5.cell? ⟨b7, 2, none⟩ = some (.int .u64 (uxv6 1)) := cell_of_row v5 b7 2 _ 27 (0, 0) ah
    have a3 : v5.cell? ⟨b7, 3, none⟩ = some (.int .u64 (uxv6 2)) := cell_of_row v5 b7 3 _ 27 (0, 0) ah
    have a4 : v5.cell? ⟨b7, 4, none⟩ = some (.int .u64 (uxv6 3)) := cell_of_row v5 b7 4 _ 27 (0, 0) ah
    have a5 : v5.cell? ⟨b7, 5, none⟩ = some (.slice pxv6 nxv6 cxv6) := cell_of_row v5 b7 5 _ 27 (0, 0) ah
    have az : b7 < v5.heap.size := (Array.getElem?_eq_some_iff.1 ah).1
    have V := rv_one (y := v5.alloc (.cells #[.int .i64 kxv6, .int .u64 (uxv6 0), .int .u64 (uxv6 1), .int .u64 (uxv6 2), .int .u64 (uxv6 3), .slice pxv6 nxv6 cxv6] 27)) 7 (heap_alloc_last v5 _) (rv_alloc _ av)
    have U := Lib.hid ((Below.refl v5.heap.size v5).alloc (Nat.le_refl _) (.cells #[.int .i64 kxv6, .int .u64 (uxv6 0), .int .u64 (uxv6 1), .int .u64 (uxv6 2), .int .u64 (uxv6 3), .slice pxv6 nxv6 cxv6] 27))
    have R2 := Lib.hid (R1.out.up U.out)
    have HM := mat2_hid O6 D6 M6 (fun b h => h) R2.out.2.2.2.2.2.2 R2.out.2.2.2.2.2.1 V
    unfold nodeC u0 at HM
    clear ah av V U
    go_wp2_with fail
    refine (HM.out _ (Below.refl _ _)).mono ?_
    rintro _ v6 ⟨rfl, hb⟩
    have R' := Lib.hid (R2.out.up hb)
    clear R1 R2 HM hb a0 a1 a2 a3 a4 a5 az
    have R1 := R'
    clear R'
    have HA := alive_hid R1.out.2.2.2.2.2.2 R1.out.2.2.2.2.2.1
    go_wp2_with fail
    refine (HA.out _ (Below.refl _ _)).mono ?_
    rintro _ y7 ⟨rfl, hb⟩
    have R8 := Lib.hid (R1.out.up hb)
    clear hb HA R1
    go_wp2
    go_ret
    exact ⟨rfl, R8.out.2.2.2.2.1⟩
set_option maxHeartbeats 16000000 in
theorem again_ok {t : RT} {x : List UInt8} {w : World} {ka : Int} {ua : Nat → Int} {pa : Option Addr} {na ca : Nat} (hw0 : 0 < w.heap.size) (hT : Tb w) (V1 : RV (fun b => b < w.heap.size) w t (.agg (nodeC ka ua (.slice pa na ca)))) (o1 : okT t) (d1 : wid t ≤ 9223372036854775806) (h3 : x.length ≤ 80) (q1 : decide (80 < sz t) = false) (O1 : okT (.mk 6 u0 [t])) (D1 : wid (.mk 6 u0 [t]) ≤ 9223372036854775806) (O2 : okT (.mk 3 u0 [t, .mk 5 u0 [t]])) (D2 : wid (.mk 3 u0 [t, .mk 5 u0 [t]]) ≤ 9223372036854775806) (O3 : okT (.mk 7 u0 [t])) (D3 : wid (.mk 7 u0 [t]) ≤ 9223372036854775806) (O4 : okT (.mk 4 u0 [t, .mk 1 u0 []])) (D4 : wid (.mk 4 u0 [t, .mk 1 u0 []]) ≤ 9223372036854775806) (O5 : okT (.mk 5 u0 [t])) (D5 : wid (.mk 5 u0 [t]) ≤ 9223372036854775806) (O6 : okT (.mk 7 u0 [.mk 6 u0 [t]])) (D6 : wid (.mk 7 u0 [.mk 6 u0 [t]]) ≤ 9223372036854775806) {r1 r3 r5 : Bool} (M1 : mtP (.mk 6 u0 [t]) x = (r1, 0)) (M2 : mtP (.mk 3 u0 [t, .mk 5 u0 [t]]) x = (r1, 0)) (M3 : mtP (.mk 7 u0 [t]) x = (r3, 0)) (M4 : mtP (.mk 4 u0 [t, .mk 1 u0 []]) x = (r3, 0)) (M5 : mtP (.mk 5 u0 [t]) x = (r5, 0)) (M6 : mtP (.mk 7 u0 [.mk 6 u0 [t]]) x = (r5, 0)) :
    Calls Tryd.prog 10 #[.agg #[.int .i64 ka, .int .u64 (ua 0), .int .u64 (ua 1), .int .u64 (ua 2), .int .u64 (ua 3), .slice pa na ca], .string (bs x)] w fun e w' => e = .returned (.bool true) ∧ Below w.heap.size w w' := by
  have hxs : (bs x).size = x.length := rfl
  have S1 := Lib.hid ((Below.refl w.heap.size w).alloc (Nat.le_refl _) (.cells #[.int .i64 ka, .int .u64 (ua 0), .int .u64 (ua 1), .int .u64 (ua 2), .int .u64 (ua 3), .slice pa na ca] 27) : Below w.heap.size w _)
  have B1 := Lib.hid (PBox.new (fun b h => h) V1)
  have HT := Lib.hid hT
  unfold nodeC at B1
  clear V1 hT
  have i3 : ¬ (80 : Int) < ((bs x).size : Int) := by rw [hxs]; omega
  go_enter Tryd.func10, Tryd.ntmps10
  go_upto_region 1 with fail
  refine at_world (fun y => Rst w w.heap.size w.heap.size t t y) ⟨B1.out, B1.out, S1.out, HT.out.mono (S1.out.block 0 hw0), by have := S1.out.size; omega⟩ fun y hy => ?_
  have R1 := Lib.hid hy
  clear B1 S1 hy
  obtain ⟨b1, hb1⟩ : ∃ b1, w.heap.size = b1 := ⟨_, rfl⟩
  rw [hb1] at R1
  obtain ⟨k1, u1, p1, n1, c1, ah, av⟩ := R1.out.1
  have a0 : y.cell? ⟨b1, 0, none⟩ = some (.int .i64 k1) := cell_of_row y b1 0 _ 27 (0, 0) ah
  have a1 : y.cell? ⟨b1, 1, none⟩ = some (.int .u64 (u1 0)) := cell_of_row y b1 1 _ 27 (0, 0) ah
  have a2 : y.cell? ⟨b1, 2, none⟩ = some (.int .u64 (u1 1)) := cell_of_row y b1 2 _ 27 (0, 0) ah
  have a3 : y.cell? ⟨b1, 3, none⟩ = some (.int .u64 (u1 2)) := cell_of_row y b1 3 _ 27 (0, 0) ah
  have a4 : y.cell? ⟨b1, 4, none⟩ = some (.int .u64 (u1 3)) := cell_of_row y b1 4 _ 27 (0, 0) ah
  have a5 : y.cell? ⟨b1, 5, none⟩ = some (.slice p1 n1 c1) := cell_of_row y b1 5 _ 27 (0, 0) ah
  have az : b1 < y.heap.size := (Array.getElem?_eq_some_iff.1 ah).1
  have HM := bigd_hid 80 q1 (by omega) d1 (fun b h => h) av
  unfold nodeC at HM
  clear ah av
  go_wp2_with fail
  refine (HM.out _ (Below.refl _ _)).mono ?_
  rintro _ y1 ⟨rfl, hb⟩
  have R' := Lib.hid (R1.out.up hb)
  clear R1 HM hb a0 a1 a2 a3 a4 a5 az
  have R1 := R'
  clear R'
  obtain ⟨k2, u2, p2, n2, c2, ah, av⟩ := R1.out.1
  have a0 : y1.cell? ⟨b1, 0, none⟩ = some (.int .i64 k2) := cell_of_row y1 b1 0 _ 27 (0, 0) ah
  have a1 : y1.cell? ⟨b1, 1, none⟩ = some (.int .u64 (u2 0)) := cell_of_row y1 b1 1 _ 27 (0, 0) ah
  have a2 : y1.cell? ⟨b1, 2, none⟩ = some (.int .u64 (u2 1)) := cell_of_row y1 b1 2 _ 27 (0, 0) ah
  have a3 : y1.cell? ⟨b1, 3, none⟩ = some (.int .u64 (u2 2)) := cell_of_row y1 b1 3 _ 27 (0, 0) ah
  have a4 : y1.cell? ⟨b1, 4, none⟩ = some (.int .u64 (u2 3)) := cell_of_row y1 b1 4 _ 27 (0, 0) ah
  have a5 : y1.cell? ⟨b1, 5, none⟩ = some (.slice p2 n2 c2) := cell_of_row y1 b1 5 _ 27 (0, 0) ah
  have az : b1 < y1.heap.size := (Array.getElem?_eq_some_iff.1 ah).1
  have F1 := Lib.hid ((Below.refl y1.heap.size y1).alloc (Nat.le_refl _) (.cells #[.int .i64 k2, .int .u64 (u2 0), .int .u64 (u2 1), .int .u64 (u2 2), .int .u64 (u2 3), .slice p2 n2 c2] 27))
  have G1 := Lib.hid (PBox.new (fun b h => h) av)
  unfold nodeC at G1
  obtain ⟨z1, hz1⟩ : ∃ z, y1.alloc (.cells #[.int .i64 k2, .int .u64 (u2 0), .int .u64 (u2 1), .int .u64 (u2 2), .int .u64 (u2 3), .slice p2 n2 c2] 27) = z := ⟨_, rfl⟩
  rw [hz1] at F1 G1
  have V5 := rv_box 5 G1.out
  have G2 := Lib.hid (PBox.new (fun b h => h) V5)
  have F2 := Lib.hid ((Below.refl z1.heap.size z1).alloc (Nat.le_refl _) (.cells (nodeC 5 u0 (.slice (some ⟨y1.heap.size, 0, none⟩) 1 1)) 27))
  unfold nodeC u0 at G2 F2
  obtain ⟨z2, hz2⟩ : ∃ z, z1.alloc (.cells #[.int .i64 5, .int .u64 0, .int .u64 0, .int .u64 0, .int .u64 0, .slice (some ⟨y1.heap.size, 0, none⟩) 1 1] 27) = z := ⟨_, rfl⟩
  rw [hz2] at F2 G2
  have G12 := Lib.hid (G1.out.up F2.out)
  have V6 := rv_box 6 G12.out
  have G3 := Lib.hid (PBox.new (fun b h => h) V6)
  have F3 := Lib.hid ((Below.refl z2.heap.size z2).alloc (Nat.le_refl _) (.cells (nodeC 6 u0 (.slice (some ⟨y1.heap.size, 0, none⟩) 1 1)) 27))
  unfold nodeC u0 at G3 F3
  have FA := Lib.hid ((F1.out.trans (F2.out.mono F1.out.size)).trans (F3.out.mono (Nat.le_trans F1.out.size F2.out.size)))
  have RA := Lib.hid (R1.out.up FA.out)
  have G13 := Lib.hid (G12.out.up F3.out)
  have G23 := Lib.hid (G2.out.up F3.out)
  clear V5 V6 F1 F2 F3 G1 G2 G12 FA R1 ah av
  go_upto_region 6 with fail
  refine at_world (fun z => Ast w b1 y1.heap.size z1.heap.size z2.heap.size t z) ⟨RA.out.1, G13.out, G23.out, G3.out, RA.out.2.2⟩ fun z hz => ?_
  have R1 := Lib.hid hz
  clear RA G13 G23 G3 hz hz1 hz2 a0 a1 a2 a3 a4 a5 az
  generalize y1.heap.size = bo at *
  generalize z1.heap.size = b6 at *
  generalize z2.heap.size = b7 at *
  obtain ⟨k3, u3, p3, n3, c3, ah, av⟩ := R1.out.2.2.2.1
  have a0 : z.cell? ⟨b7, 0, none⟩ = some (.int .i64 k3) := cell_of_row z b7 0 _ 27 (0, 0) ah
  have a1 : z.cell? ⟨b7, 1, none⟩ = some (.int .u64 (u3 0)) := cell_of_row z b7 1 _ 27 (0, 0) ah
  have a2 : z.cell? ⟨b7, 2, none⟩ = some (.int .u64 (u3 1)) := cell_of_row z b7 2 _ 27 (0, 0) ah
  have a3 : z.cell? ⟨b7, 3, none⟩ = some (.int .u64 (u3 2)) := cell_of_row z b7 3 _ 27 (0, 0) ah
  have a4 : z.cell? ⟨b7, 4, none⟩ = some (.int .u64 (u3 3)) := cell_of_row z b7 4 _ 27 (0, 0) ah
  have a5 : z.cell? ⟨b7, 5, none⟩ = some (.slice p3 n3 c3) := cell_of_row z b7 5 _ 27 (0, 0) ah
  have az : b7 < z.heap.size := (Array.getElem?_eq_some_iff.1 ah).1
  have R2 := R1
  have HM := mat2_hid O1 D1 M1 (fun b h => h) R2.out.2.2.2.2.2.2 R2.out.2.2.2.2.2.1 av
  unfold nodeC at HM
  clear ah av
  go_wp2_with fail
  refine (HM.out _ (Below.refl _ _)).mono ?_
  rintro _ v1 ⟨rfl, hb⟩
  have R' := Lib.hid (R1.out.up hb)
  clear R1 R2 HM hb a0 a1 a2 a3 a4 a5 az
  have R1 := R'
  clear R'
  obtain ⟨kxv2, uxv2, pxv2, nxv2, cxv2, ah, av⟩ := R1.out.1
  have a0 : v1.cell? ⟨b1, 0, none⟩ = some (.int .i64 kxv2) := cell_of_row v1 b1 0 _ 27 (0, 0) ah
  have a1 : v1.cell? ⟨b1, 1, none⟩ = some (.int .u64 (uxv2 0)) := cell_of_row v1 b1 1 _ 27 (0, 0) ah
  have a2 : v1.cell? ⟨b1, 2, none⟩ = some (.int .u64 (uxv2 1)) := cell_of_row v1 b1 2 _ 27 (0, 0) ah
  have a3 : v1.cell? ⟨b1, 3, none⟩ = some (.int .u64 (uxv2 2)) := cell_of_row v1 b1 3 _ 27 (0, 0) ah
  have a4 : v1.cell? ⟨b1, 4, none⟩ = some (.int .u64 (uxv2 3)) := cell_of_row v1 b1 4 _ 27 (0, 0) ah
  have a5 : v1.cell? ⟨b1, 5, none⟩ = some (.slice pxv2 nxv2 cxv2) := cell_of_row v1 b1 5 _ 27 (0, 0) ah
  have az : b1 < v1.heap.size := (Array.getElem?_eq_some_iff.1 ah).1
  obtain ⟨kwv2, uwv2, pwv2, nwv2, cwv2, eh, ev⟩ := R1.out.2.2.1
  have e0 : v1.cell? ⟨b6, 0, none⟩ = some (.int .i64 kwv2) := cell_of_row v1 b6 0 _ 27 (0, 0) eh
  have e1 : v1.cell? ⟨b6, 1, none⟩ = some (.int .u64 (uwv2 0)) := cell_of_row v1 b6 1 _ 27 (0, 0) eh
  have e2 : v1.cell? ⟨b6, 2, none⟩ = some (.int .u64 (uwv2 1)) := cell_of_row v1 b6 2 _ 27 (0, 0) eh
  have e3 : v1.cell? ⟨b6, 3, none⟩ = some (.int .u64 (uwv2 2)) := cell_of_row v1 b6 3 _ 27 (0, 0) eh
  have e4 : v1.cell? ⟨b6, 4, none⟩ = some (.int .u64 (uwv2 3)) := cell_of_row v1 b6 4 _ 27 (0, 0) eh
  have e5 : v1.cell? ⟨b6, 5, none⟩ = some (.slice pwv2 nwv2 cwv2) := cell_of_row v1 b6 5 _ 27 (0, 0) eh
  have ez : b6 < v1.heap.size := (Array.getElem?_eq_some_iff.1 eh).1
  have V := rv_two (y := v1.alloc (.cells #[.int .i64 kxv2, .int .u64 (uxv2 0), .int .u64 (uxv2 1), .int .u64 (uxv2 2), .int .u64 (uxv2 3), .slice pxv2 nxv2 cxv2, .int .i64 kwv2, .int .u64 (uwv2 0), .int .u64 (uwv2 1), .int .u64 (uwv2 2), .int .u64 (uwv2 3), .slice pwv2 nwv2 cwv2] 27)) 3 (heap_alloc_last v1 _) (rv_alloc _ av) (rv_alloc _ ev)
  have U := Lib.hid ((Below.refl v1.heap.size v1).alloc (Nat.le_refl _) (.cells #[.int .i64 kxv2, .int .u64 (uxv2 0), .int .u64 (uxv2 1), .int .u64 (uxv2 2), .int .u64 (uxv2 3), .slice pxv2 nxv2 cxv2, .int .i64 kwv2, .int .u64 (uwv2 0), .int .u64 (uwv2 1), .int .u64 (uwv2 2), .int .u64 (uwv2 3), .slice pwv2 nwv2 cwv2] 27))
  have R2 := Lib.hid (R1.out.up U.out)
  have HM := mat2_hid O2 D2 M2 (fun b h => h) R2.out.2.2.2.2.2.2 R2.out.2.2.2.2.2.1 V
  unfold nodeC u0 at HM
  clear ah av V U eh ev
  go_wp2_with fail
  refine (HM.out _ (Below.refl _ _)).mono ?_
  rintro _ v2 ⟨rfl, hb⟩
  have R' := Lib.hid (R2.out.up hb)
  clear R1 R2 HM hb a0 a1 a2 a3 a4 a5 az e0 e1 e2 e3 e4 e5 ez
  have R1 := R'
  clear R'
  have V := rv_box 7 R1.out.2.1
  have R2 := R1
  have HM := mat2_hid O3 D3 M3 (fun b h => h) R2.out.2.2.2.2.2.2 R2.out.2.2.2.2.2.1 V
  unfold nodeC u0 at HM
  clear V
  go_wp2_with fail
  refine (HM.out _ (Below.refl _ _)).mono ?_
  rintro _ v3 ⟨rfl, hb⟩
  have R' := Lib.hid (R1.out.up hb)
  clear R1 R2 HM hb
  have R1 := R'
  clear R'
  obtain ⟨kxv4, uxv4, pxv4, nxv4, cxv4, ah, av⟩ := R1.out.1
  have a0 : v3.cell? ⟨b1, 0, none⟩ = some (.int .i64 kxv4) := cell_of_row v3 b1 0 _ 27 (0, 0) ah
  have a1 : v3.cell? ⟨b1, 1, none⟩ = some (.int .u64 (uxv4 0)) := cell_of_row v3 b1 1 _ 27 (0, 0) ah
  have a2 : v3.cell? ⟨b1, 2, none⟩ = some (.int .u64 (uxv4 1)) := cell_of_row v3 b1 2 _ 27 (0, 0) ah
  have a3 : v3.cell? ⟨b1, 3, none⟩ = some (.int .u64 (uxv4 2)) := cell_of_row v3 b1 3 _ 27 (0, 0) ah
  have a4 : v3.cell? ⟨b1, 4, none⟩ = some (.int .u64 (uxv4 3)) := cell_of_row v3 b1 4 _ 27 (0, 0) ah
  have a5 : v3.cell? ⟨b1, 5, none⟩ = some (.slice pxv4 nxv4 cxv4) := cell_of_row v3 b1 5 _ 27 (0, 0) ah
  have az : b1 < v3.heap.size := (Array.getElem?_eq_some_iff.1 ah).1
  have ev : RV (fun b => b < v3.heap.size) v3 (.mk 1 u0 []) (.agg (nodeC 1 u0 (.slice none 0 0))) := .leaf 1 u0 none 0
  have V := rv_two (y := v3.alloc (.cells #[.int .i64 kxv4, .int .u64 (uxv4 0), .int .u64 (uxv4 1), .int .u64 (uxv4 2), .int .u64 (uxv4 3), .slice pxv4 nxv4 cxv4, .int .i64 1, .int .u64 0, .int .u64 0, .int .u64 0, .int .u64 0, .slice none 0 0] 27)) 4 (heap_alloc_last v3 _) (rv_alloc _ av) (rv_alloc _ ev)
  have U := Lib.hid ((Below.refl v3.heap.size v3).alloc (Nat.le_refl _) (.cells #[.int .i64 kxv4, .int .u64 (uxv4 0), .int .u64 (uxv4 1), .int .u64 (uxv4 2), .int .u64 (uxv4 3), .slice pxv4 nxv4 cxv4, .int .i64 1, .int .u64 0, .int .u64 0, .int .u64 0, .int .u64 0, .slice none 0 0] 27))
  have R2 := Lib.hid (R1.out.up U.out)
  have HM := mat2_hid O4 D4 M4 (fun b h => h) R2.out.2.2.2.2.2.2 R2.out.2.2.2.2.2.1 V
  unfold nodeC u0 at HM
  clear ah av V U ev
  go_wp2_with fail
  refine (HM.out _ (Below.refl _ _)).mono ?_
  rintro _ v4 ⟨rfl, hb⟩
  have R' := Lib.hid (R2.out.up hb)
  clear R1 R2 HM hb a0 a1 a2 a3 a4 a5 az
  have R1 := R'
  clear R'
  obtain ⟨k4, u4, p4, n4, c4, ah, av⟩ := R1.out.2.2.1
  have a0 : v4.cell? ⟨b6, 0, none⟩ = some (.int .i64 k4) := cell_of_row v4 b6 0 _ 27 (0, 0) ah
  have a1 : v4.cell? ⟨b6, 1, none⟩ = some (.int .u64 (u4 0)) := cell_of_row v4 b6 1 _ 27 (0, 0) ah
  have a2 : v4.cell? ⟨b6, 2, none⟩ = some (.int .u64 (u4 1)) := cell_of_row v4 b6 2 _ 27 (0, 0) ah
  have a3 : v4.cell? ⟨b6, 3, none⟩ = some (.int .u64 (u4 2)) := cell_of_row v4 b6 3 _ 27 (0, 0) ah
  have a4 : v4.cell? ⟨b6, 4, none⟩ = some (.int .u64 (u4 3)) := cell_of_row v4 b6 4 _ 27 (0, 0) ah
  have a5 : v4.cell? ⟨b6, 5, none⟩ = some (.slice p4 n4 c4) := cell_of_row v4 b6 5 _ 27 (0, 0) ah
  have az : b6 < v4.heap.size := (Array.getElem?_eq_some_iff.1 ah).1
  have R2 := R1
  have HM := mat2_hid O5 D5 M5 (fun b h => h) R2.out.2.2.2.2.2.2 R2.out.2.2.2.2.2.1 av
  unfold nodeC at HM
  clear ah av
  go_wp2_with fail
  refine (HM.out _ (Below.refl _ _)).mono ?_
  rintro _ v5 ⟨rfl, hb⟩
  have R' := Lib.hid (R1.out.up hb)
  clear R1 R2 HM hb a0 a1 a2 a3 a4 a5 az
  have R1 := R'
  clear R'
  obtain ⟨kxv6, uxv6, pxv6, nxv6, cxv6, ah, av⟩ := R1.out.2.2.2.1
  have a0 : v5.cell? ⟨b7, 0, none⟩ = some (.int .i64 kxv6) := cell_of_row v5 b7 0 _ 27 (0, 0) ah
  have a1 : v5.cell? ⟨b7, 1, none⟩ = some (.int .u64 (uxv6 0)) := cell_of_row v5 b7 1 _ 27 (0, 0) ah
  have a2 : v5.cell? ⟨b7, 2, none⟩ = some (.int .u64 (uxv6 1)) := cell_of_row v5 b7 2 _ 27 (0, 0) ah
  have a3 : v5.cell? ⟨b7, 3, none⟩ = some (.int .u64 (uxv6 2)) := cell_of_row v5 b7 3 _ 27 (0, 0) ah
  have a4 : v5.cell? ⟨b7, 4, none⟩ = some (.int .u64 (uxv6 3)) := cell_of_row v5 b7 4 _ 27 (0, 0) ah
  have a5 : v5.cell? ⟨b7, 5, none⟩ = some (.slice pxv6 nxv6 cxv6) := cell_of_row v5 b7 5 _ 27 (0, 0) ah
  have az : b7 < v5.heap.size := (Array.getElem?_eq_some_iff.1 ah).1
  have V := rv_one (y := v5.alloc (.cells #[.int .i64 kxv6, .int .u64 (uxv6 0), .int .u64 (uxv6 1), .int .u64 (uxv6 2), .int .u64 (uxv6 3), .slice pxv6 nxv6 cxv6] 27)) 7 (heap_alloc_last v5 _) (rv_alloc _ av)
  have U := Lib.hid ((Below.refl v5.heap.size v5).alloc (Nat.le_refl _) (.cells #[.int .i64 kxv6, .int .u64 (uxv6 0), .int .u64 (uxv6 1), .int .u64 (uxv6 2), .int .u64 (uxv6 3), .slice pxv6 nxv6 cxv6] 27))
  have R2 := Lib.hid (R1.out.up U.out)
  have HM := mat2_hid O6 D6 M6 (fun b h => h) R2.out.2.2.2.2.2.2 R2.out.2.2.2.2.2.1 V
  unfold nodeC u0 at HM
  clear ah av V U
  go_wp2_with fail
  refine (HM.out _ (Below.refl _ _)).mono ?_
  rintro _ v6 ⟨rfl, hb⟩
  have R' := Lib.hid (R2.out.up hb)
  clear R1 R2 HM hb a0 a1 a2 a3 a4 a5 az
  have R1 := R'
  clear R'
  have HA := alive_hid R1.out.2.2.2.2.2.2 R1.out.2.2.2.2.2.1
  go_wp2_with fail
  refine (HA.out _ (Below.refl _ _)).mono ?_
  rintro _ y7 ⟨rfl, hb⟩
  have R8 := Lib.hid (R1.out.up hb)
  clear hb HA R1
  go_wp2
  go_ret
  exact ⟨rfl, R8.out.2.2.2.2.1⟩
end Go.Proofs.YtmjojahkbjlcdaaDoor
