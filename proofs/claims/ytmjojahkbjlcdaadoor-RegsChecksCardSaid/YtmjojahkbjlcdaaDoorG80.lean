import Derived.Deep.RegionHeld3
import Derived.RegionCalls
import Derived.Deep.RegionWith
import Derived.Test.YtmjojahkbjlcdaaDoorProg
import Derived.Test.YtmjojahkbjlcdaaDoorX3
import Derived.Test.YtmjojahkbjlcdaaDoorX4
import Derived.WalkKit
import Derived.WalkLawsBesides
import Derived.WalkSpells
import Derived.Outline
import Derived.Lib.Walk
import Derived.Lib.Hide
import Derived.RegionTactic
import Derived.LoopTactic
import Derived.Below
import Derived.IntWalk
import Derived.Deep.QuietTactic
import Derived.BigQuiet
import Derived.Test.YtmjojahkbjlcdaaDoorG79
namespace Go.Proofs.YtmjojahkbjlcdaaDoor
set_option linter.unusedSimpArgs false
set_option linter.unusedVariables false
set_option maxRecDepth 100000
open Go.RowKit

/- RegsChecks: the walks. -/
theorem keepC {v0 v1 v2 v3 v4 v5 v6 v7 v8 v9 v10 v11 : Value} {o0 o1 o2 o3 o4 o5 o6 o7 o8 o9 o10 o11 : Nat} {b0 b1 : Nat} {y w' w'' : World} (h : w'.cell? ⟨b0, o0, none⟩ = some v0 ∧ w'.cell? ⟨b0, o1, none⟩ = some v1 ∧ w'.cell? ⟨b0, o2, none⟩ = some v2 ∧ w'.cell? ⟨b0, o3, none⟩ = some v3 ∧ w'.cell? ⟨b0, o4, none⟩ = some v4 ∧ w'.cell? ⟨b0, o5, none⟩ = some v5 ∧ w'.cell? ⟨b1, o6, none⟩ = some v6 ∧ w'.cell? ⟨b1, o7, none⟩ = some v7 ∧ w'.cell? ⟨b1, o8, none⟩ = some v8 ∧ w'.cell? ⟨b1, o9, none⟩ = some v9 ∧ w'.cell? ⟨b1, o10, none⟩ = some v10 ∧ w'.cell? ⟨b1, o11, none⟩ = some v11 ∧ b0 < w'.heap.size ∧ b1 < w'.heap.size ∧ Below y.heap.size y w') (hb : Below w'.heap.size w' w'') : w''.cell? ⟨b0, o0, none⟩ = some v0 ∧ w''.cell? ⟨b0, o1, none⟩ = some v1 ∧ w''.cell? ⟨b0, o2, none⟩ = some v2 ∧ w''.cell? ⟨b0, o3, none⟩ = some v3 ∧ w''.cell? ⟨b0, o4, none⟩ = some v4 ∧ w''.cell? ⟨b0, o5, none⟩ = some v5 ∧ w''.cell? ⟨b1, o6, none⟩ = some v6 ∧ w''.cell? ⟨b1, o7, none⟩ = some v7 ∧ w''.cell? ⟨b1, o8, none⟩ = some v8 ∧ w''.cell? ⟨b1, o9, none⟩ = some v9 ∧ w''.cell? ⟨b1, o10, none⟩ = some v10 ∧ w''.cell? ⟨b1, o11, none⟩ = some v11 ∧ b0 < w''.heap.size ∧ b1 < w''.heap.size ∧ Below y.heap.size y w'' := by
  obtain ⟨h0, h1, h2, h3, h4, h5, h6, h7, h8, h9, h10, h11, z0, z1, K⟩ := h
  exact ⟨(hb.cell (p := ⟨b0, o0, none⟩) z0).trans h0, (hb.cell (p := ⟨b0, o1, none⟩) z0).trans h1, (hb.cell (p := ⟨b0, o2, none⟩) z0).trans h2, (hb.cell (p := ⟨b0, o3, none⟩) z0).trans h3, (hb.cell (p := ⟨b0, o4, none⟩) z0).trans h4, (hb.cell (p := ⟨b0, o5, none⟩) z0).trans h5, (hb.cell (p := ⟨b1, o6, none⟩) z1).trans h6, (hb.cell (p := ⟨b1, o7, none⟩) z1).trans h7, (hb.cell (p := ⟨b1, o8, none⟩) z1).trans h8, (hb.cell (p := ⟨b1, o9, none⟩) z1).trans h9, (hb.cell (p := ⟨b1, o10, none⟩) z1).trans h10, (hb.cell (p := ⟨b1, o11, none⟩) z1).trans h11, Nat.lt_of_lt_of_le z0 hb.size, Nat.lt_of_lt_of_le z1 hb.size, K.trans (hb.mono K.size)⟩
theorem keepC_k {v0 v1 v2 v3 v4 v5 v6 v7 v8 v9 v10 v11 : Value} {o0 o1 o2 o3 o4 o5 o6 o7 o8 o9 o10 o11 : Nat} {b0 b1 : Nat} {y w' : World} (h : w'.cell? ⟨b0, o0, none⟩ = some v0 ∧ w'.cell? ⟨b0, o1, none⟩ = some v1 ∧ w'.cell? ⟨b0, o2, none⟩ = some v2 ∧ w'.cell? ⟨b0, o3, none⟩ = some v3 ∧ w'.cell? ⟨b0, o4, none⟩ = some v4 ∧ w'.cell? ⟨b0, o5, none⟩ = some v5 ∧ w'.cell? ⟨b1, o6, none⟩ = some v6 ∧ w'.cell? ⟨b1, o7, none⟩ = some v7 ∧ w'.cell? ⟨b1, o8, none⟩ = some v8 ∧ w'.cell? ⟨b1, o9, none⟩ = some v9 ∧ w'.cell? ⟨b1, o10, none⟩ = some v10 ∧ w'.cell? ⟨b1, o11, none⟩ = some v11 ∧ b0 < w'.heap.size ∧ b1 < w'.heap.size ∧ Below y.heap.size y w') : Below y.heap.size y w' := h.2.2.2.2.2.2.2.2.2.2.2.2.2.2
set_option maxHeartbeats 16000000 in
theorem checks_big {t : RT} {w : World} {ka : Int} {ua : Nat → Int} {pa : Option Addr} {na ca : Nat} (hw0 : 0 < w.heap.size) (hT : Tb w) (V1 : RV (fun b => b < w.heap.size) w t (.agg (nodeC ka ua (.slice pa na ca)))) (d1 : wid t ≤ 9223372036854775806) (q1 : decide (2000 < sz t) = true) (hs : min (sz t) 513 = 513) (hc : checkE t = 3) :
    Calls Tryd.prog 3 #[.agg #[.int .i64 ka, .int .u64 (ua 0), .int .u64 (ua 1), .int .u64 (ua 2), .int .u64 (ua 3), .slice pa na ca]] w fun e w' => e = .returned (.bool true) ∧ Below w.heap.size w w' := by
  have S1 := Lib.hid ((Below.refl w.heap.size w).alloc (Nat.le_refl _) (.cells #[.int .i64 ka, .int .u64 (ua 0), .int .u64 (ua 1), .int .u64 (ua 2), .int .u64 (ua 3), .slice pa na ca] 27) : Below w.heap.size w _)
  have B1 := Lib.hid (PBox.new (fun b h => h) V1)
  have HT := Lib.hid hT
  unfold nodeC at B1
  clear V1 hT
  go_enter Tryd.func3, Tryd.ntmps3
  go_upto_region 1 with fail
  refine at_world (fun y => Rst w w.heap.size w.heap.size t t y) ⟨B1.out, B1.out, S1.out, HT.out.mono (S1.out.block 0 hw0), by have := S1.out.size; omega⟩ fun y hy => ?_
  have R1 := Lib.hid hy
  clear B1 S1 hy
  obtain ⟨b1, hb1⟩ : ∃ b1, w.heap.size = b1 := ⟨_, rfl⟩
  rw [hb1] at R1
  obtain ⟨k1, u1, p1, n1, c1, ah, av⟩ := R1.out.1
  have a0 : y.cell? ⟨b1, 0, none⟩ = some (.int .i64 k1) := cell_of_row y b1 0 _ 27 (0, 0) ah
  have a1 : y.cell? ⟨b1, 1, none⟩ = some (.int .u64 (u1 0)) := cell_of_row y b1 1 _ 27 (0, 0) ah
  have a2 : y.cell? ⟨b1, 2, none⟩ = some (.int .u64 (u1 1)) := cell_of_row y b1 2 _ 27 (0, 0) ah
  have a3 : y.cell? ⟨b1, 3, none⟩ = some (.int .u64 (u1 2)) := cell_of_row y b1 3 _ 27 (0, 0) ah
  have a4 : y.cell? ⟨b1, 4, none⟩ = some (.int .u64 (u1 3)) := cell_of_row y b1 4 _ 27 (0, 0) ah
  have a5 : y.cell? ⟨b1, 5, none⟩ = some (.slice p1 n1 c1) := cell_of_row y b1 5 _ 27 (0, 0) ah
  have az : b1 < y.heap.size := (Array.getElem?_eq_some_iff.1 ah).1
  have HM := bigd_hid 2000 q1 (by omega) d1 (fun b h => h) av
  unfold nodeC at HM
  clear ah av
  go_wp2_with fail
  refine (HM.out _ (Below.refl _ _)).mono ?_
  rintro _ y1 ⟨rfl, hb⟩
  have R' := Lib.hid (R1.out.up hb)
  clear R1 HM hb a0 a1 a2 a3 a4 a5 az
  have R1 := R'
  clear R'
  obtain ⟨k2, u2, p2, n2, c2, ah, av⟩ := R1.out.1
  have a0 : y1.cell? ⟨b1, 0, none⟩ = some (.int .i64 k2) := cell_of_row y1 b1 0 _ 27 (0, 0) ah
  have a1 : y1.cell? ⟨b1, 1, none⟩ = some (.int .u64 (u2 0)) := cell_of_row y1 b1 1 _ 27 (0, 0) ah
  have a2 : y1.cell? ⟨b1, 2, none⟩ = some (.int .u64 (u2 1)) := cell_of_row y1 b1 2 _ 27 (0, 0) ah
  have a3 : y1.cell? ⟨b1, 3, none⟩ = some (.int .u64 (u2 2)) := cell_of_row y1 b1 3 _ 27 (0, 0) ah
  have a4 : y1.cell? ⟨b1, 4, none⟩ = some (.int .u64 (u2 3)) := cell_of_row y1 b1 4 _ 27 (0, 0) ah
  have a5 : y1.cell? ⟨b1, 5, none⟩ = some (.slice p2 n2 c2) := cell_of_row y1 b1 5 _ 27 (0, 0) ah
  have az : b1 < y1.heap.size := (Array.getElem?_eq_some_iff.1 ah).1
  have HM := size_hid d1 (fun b h => h) av
  rw [hs] at HM
  unfold nodeC at HM
  clear ah av
  go_wp2_with fail
  refine (HM.out _ (Below.refl _ _)).mono ?_
  rintro _ y2 ⟨rfl, hb⟩
  have R' := Lib.hid (R1.out.up hb)
  clear R1 HM hb a0 a1 a2 a3 a4 a5 az
  have R1 := R'
  clear R'
  obtain ⟨k3, u3, p3, n3, c3, ah, av⟩ := R1.out.1
  have a0 : y2.cell? ⟨b1, 0, none⟩ = some (.int .i64 k3) := cell_of_row y2 b1 0 _ 27 (0, 0) ah
  have a1 : y2.cell? ⟨b1, 1, none⟩ = some (.int .u64 (u3 0)) := cell_of_row y2 b1 1 _ 27 (0, 0) ah
  have a2 : y2.cell? ⟨b1, 2, none⟩ = some (.int .u64 (u3 1)) := cell_of_row y2 b1 2 _ 27 (0, 0) ah
  have a3 : y2.cell? ⟨b1, 3, none⟩ = some (.int .u64 (u3 2)) := cell_of_row y2 b1 3 _ 27 (0, 0) ah
  have a4 : y2.cell? ⟨b1, 4, none⟩ = some (.int .u64 (u3 3)) := cell_of_row y2 b1 4 _ 27 (0, 0) ah
  have a5 : y2.cell? ⟨b1, 5, none⟩ = some (.slice p3 n3 c3) := cell_of_row y2 b1 5 _ 27 (0, 0) ah
  have az : b1 < y2.heap.size := (Array.getElem?_eq_some_iff.1 ah).1
  have HM := check_hid d1 (fun b h => h) av
  rw [hc] at HM
  unfold nodeC at HM
  clear ah av
  go_wp2_with fail
  refine (HM.out _ (Below.refl _ _)).mono ?_
  rintro _ y3 ⟨rfl, hb⟩
  have R' := Lib.hid (R1.out.up hb)
  clear R1 HM hb a0 a1 a2 a3 a4 a5 az
  have R1 := R'
  clear R'
  have HA := alive_hid R1.out.2.2.2.2 R1.out.2.2.2.1
  go_wp2_with fail
  refine (HA.out _ (Below.refl _ _)).mono ?_
  rintro _ y9 ⟨rfl, hb⟩
  have R8 := Lib.hid (R1.out.up hb)
  clear hb HA R1
  go_wp2
  go_ret
  exact ⟨rfl, R8.out.2.2.1⟩
set_option maxHeartbeats 16000000 in
theorem checks_ok {t : RT} {w : World} {ka : Int} {ua : Nat → Int} {pa : Option Addr} {na ca : Nat} (hw0 : 0 < w.heap.size) (hT : Tb w) (V1 : RV (fun b => b < w.heap.size) w t (.agg (nodeC ka ua (.slice pa na ca)))) (d1 : wid t ≤ 9223372036854775806) (q1 : decide (2000 < sz t) = false) (hw1 : wid t ≤ 1000000) :
    Calls Tryd.prog 3 #[.agg #[.int .i64 ka, .int .u64 (ua 0), .int .u64 (ua 1), .int .u64 (ua 2), .int .u64 (ua 3), .slice pa na ca]] w fun e w' => e = .returned (.bool true) ∧ Below w.heap.size w w' := by
  have S1 := Lib.hid ((Below.refl w.heap.size w).alloc (Nat.le_refl _) (.cells #[.int .i64 ka, .int .u64 (ua 0), .int .u64 (ua 1), .int .u64 (ua 2), .int .u64 (ua 3), .slice pa na ca] 27) : Below w.heap.size w _)
  have B1 := Lib.hid (PBox.new (fun b h => h) V1)
  have HT := Lib.hid hT
  unfold nodeC at B1
  clear V1 hT
  go_enter Tryd.func3, Tryd.ntmps3
  go_upto_region 1 with fail
  refine at_world (fun y => Rst w w.heap.size w.heap.size t t y) ⟨B1.out, B1.out, S1.out, HT.out.mono (S1.out.block 0 hw0), by have := S1.out.size; omega⟩ fun y hy => ?_
  have R1 := Lib.hid hy
  clear B1 S1 hy
  obtain ⟨b1, hb1⟩ : ∃ b1, w.heap.size = b1 := ⟨_, rfl⟩
  rw [hb1] at R1
  obtain ⟨k1, u1, p1, n1, c1, ah, av⟩ := R1.out.1
  have a0 : y.cell? ⟨b1, 0, none⟩ = some (.int .i64 k1) := cell_of_row y b1 0 _ 27 (0, 0) ah
  have a1 : y.cell? ⟨b1, 1, none⟩ = some (.int .u64 (u1 0)) := cell_of_row y b1 1 _ 27 (0, 0) ah
  have a2 : y.cell? ⟨b1, 2, none⟩ = some (.int .u64 (u1 1)) := cell_of_row y b1 2 _ 27 (0, 0) ah
  have a3 : y.cell? ⟨b1, 3, none⟩ = some (.int .u64 (u1 2)) := cell_of_row y b1 3 _ 27 (0, 0) ah
  have a4 : y.cell? ⟨b1, 4, none⟩ = some (.int .u64 (u1 3)) := cell_of_row y b1 4 _ 27 (0, 0) ah
  have a5 : y.cell? ⟨b1, 5, none⟩ = some (.slice p1 n1 c1) := cell_of_row y b1 5 _ 27 (0, 0) ah
  have az : b1 < y.heap.size := (Array.getElem?_eq_some_iff.1 ah).1
  have HM := bigd_hid 2000 q1 (by omega) d1 (fun b h => h) av
  unfold nodeC at HM
  clear ah av
  go_wp2_with fail
  refine (HM.out _ (Below.refl _ _)).mono ?_
  rintro _ y1 ⟨rfl, hb⟩
  have R' := Lib.hid (R1.out.up hb)
  clear R1 HM hb a0 a1 a2 a3 a4 a5 az
  have R1 := R'
  clear R'
  obtain ⟨k1, u1, p1, n1, c1, ah, av⟩ := R1.out.1
  have a0 : y1.cell? ⟨b1, 0, none⟩ = some (.int .i64 k1) := cell_of_row y1 b1 0 _ 27 (0, 0) ah
  have a1 : y1.cell? ⟨b1, 1, none⟩ = some (.int .u64 (u1 0)) := cell_of_row y1 b1 1 _ 27 (0, 0) ah
  have a2 : y1.cell? ⟨b1, 2, none⟩ = some (.int .u64 (u1 1)) := cell_of_row y1 b1 2 _ 27 (0, 0) ah
  have a3 : y1.cell? ⟨b1, 3, none⟩ = some (.int .u64 (u1 2)) := cell_of_row y1 b1 3 _ 27 (0, 0) ah
  have a4 : y1.cell? ⟨b1, 4, none⟩ = some (.int .u64 (u1 3)) := cell_of_row y1 b1 4 _ 27 (0, 0) ah
  have a5 : y1.cell? ⟨b1, 5, none⟩ = some (.slice p1 n1 c1) := cell_of_row y1 b1 5 _ 27 (0, 0) ah
  have az : b1 < y1.heap.size := (Array.getElem?_eq_some_iff.1 ah).1
  have HM := twin_hid hw1 (fun b h => h) av
  unfold nodeC at HM
  clear ah av
  go_wp2_with fail
  refine (HM.out _ (Below.refl _ _)).mono ?_
  rintro _ y2 ⟨⟨v, rfl, ht⟩, hb⟩
  obtain ⟨k, u, p, n, c, rfl⟩ := ht.form2
  have R2 := Lib.hid ((R1.out.up hb).up ((Below.refl _ _).alloc (Nat.le_refl _) (.cells #[.int .i64 k, .int .u64 (u 0), .int .u64 (u 1), .int .u64 (u 2), .int .u64 (u 3), .slice p n c] 27)))
  have TH := Lib.hid (TW.mono (E := fun b => b < (y2.alloc (.cells #[.int .i64 k, .int .u64 (u 0), .int .u64 (u 1), .int .u64 (u 2), .int .u64 (u 3), .slice p n c] 27)).heap.size) (w' := y2.alloc (.cells #[.int .i64 k, .int .u64 (u 0), .int .u64 (u 1), .int .u64 (u 2), .int .u64 (u 3), .slice p n c] 27)) (fun b hb => by simp; omega) (fun b _ hlt => ((Below.refl y2.heap.size y2).alloc (Nat.le_refl _) (.cells #[.int .i64 k, .int .u64 (u 0), .int .u64 (u 1), .int .u64 (u 2), .int .u64 (u 3), .slice p n c] 27)).block b hlt) ht)
  have HX3 := Lib.hid (heap_alloc_last y2 (.cells #[.int .i64 k, .int .u64 (u 0), .int .u64 (u 1), .int .u64 (u 2), .int .u64 (u 3), .slice p n c] 27))
  clear ht hb R1 HM a0 a1 a2 a3 a4 a5 az
  go_upto_region 4 with fail
  refine at_world (fun z => Rst w b1 b1 t t z ∧ TW (fun b => b < z.heap.size) z t (.agg #[.int .i64 k, .int .u64 (u 0), .int .u64 (u 1), .int .u64 (u 2), .int .u64 (u 3), .slice p n c]) ∧ z.heap[y2.heap.size]? = some (.cells #[.int .i64 k, .int .u64 (u 0), .int .u64 (u 1), .int .u64 (u 2), .int .u64 (u 3), .slice p n c] 27)) ⟨R2.out, TH.out, HX3.out⟩ fun z hz => ?_
  obtain ⟨hr, hth, hx3⟩ := hz
  have R1 := Lib.hid hr
  have HT3 := Lib.hid hth
  have HX := Lib.hid hx3
  clear R2 TH HX3 hr hth hx3
  generalize y2.heap.size = b3 at *
  obtain ⟨k2, u2, p2, n2, c2, ah, av⟩ := R1.out.1
  have a0 : z.cell? ⟨b1, 0, none⟩ = some (.int .i64 k2) := cell_of_row z b1 0 _ 27 (0, 0) ah
  have a1 : z.cell? ⟨b1, 1, none⟩ = some (.int .u64 (u2 0)) := cell_of_row z b1 1 _ 27 (0, 0) ah
  have a2 : z.cell? ⟨b1, 2, none⟩ = some (.int .u64 (u2 1)) := cell_of_row z b1 2 _ 27 (0, 0) ah
  have a3 : z.cell? ⟨b1, 3, none⟩ = some (.int .u64 (u2 2)) := cell_of_row z b1 3 _ 27 (0, 0) ah
  have a4 : z.cell? ⟨b1, 4, none⟩ = some (.int .u64 (u2 3)) := cell_of_row z b1 4 _ 27 (0, 0) ah
  have a5 : z.cell? ⟨b1, 5, none⟩ = some (.slice p2 n2 c2) := cell_of_row z b1 5 _ 27 (0, 0) ah
  have az : b1 < z.heap.size := (Array.getElem?_eq_some_iff.1 ah).1
  have e0 : z.cell? ⟨b3, 0, none⟩ = some (.int .i64 k) := cell_of_row z b3 0 _ 27 (0, 0) HX.out
  have e1 : z.cell? ⟨b3, 1, none⟩ = some (.int .u64 (u 0)) := cell_of_row z b3 1 _ 27 (0, 0) HX.out
  have e2 : z.cell? ⟨b3, 2, none⟩ = some (.int .u64 (u 1)) := cell_of_row z b3 2 _ 27 (0, 0) HX.out
  have e3 : z.cell? ⟨b3, 3, none⟩ = some (.int .u64 (u 2)) := cell_of_row z b3 3 _ 27 (0, 0) HX.out
  have e4 : z.cell? ⟨b3, 4, none⟩ = some (.int .u64 (u 3)) := cell_of_row z b3 4 _ 27 (0, 0) HX.out
  have e5 : z.cell? ⟨b3, 5, none⟩ = some (.slice p n c) := cell_of_row z b3 5 _ 27 (0, 0) HX.out
  have ez : b3 < z.heap.size := (Array.getElem?_eq_some_iff.1 HX.out).1
  have H1 := size_hid d1 (fun b h => h) HT3.out.rv
  have H2 := sizer_hid d1 (fun b h => h) av
  have H3 := check_hid d1 (fun b h => h) HT3.out.rv
  have H4 := checkr_hid d1 R1.out.2.2.2.2 R1.out.2.2.2.1 av
  have H5 := left_hid hw1 (fun b h => h) (fun b h => h) HT3.out av
  have H6 := alive_hid R1.out.2.2.2.2 R1.out.2.2.2.1
  unfold nodeC at H2 H4 H5
  obtain ⟨N, hN⟩ : ∃ N, min (sz t) 513 = N := ⟨_, rfl⟩
  rw [hN] at H1 H2
  obtain ⟨E, hE⟩ : ∃ E, checkE t = E := ⟨_, rfl⟩
  rw [hE] at H3 H4
  clear hN hE ah av HX HT3
  go_region_held3 (fun w' => w'.cell? ⟨b1, 0, none⟩ = some (.int .i64 k2) ∧ w'.cell? ⟨b1, 1, none⟩ = some (.int .u64 (u2 0)) ∧ w'.cell? ⟨b1, 2, none⟩ = some (.int .u64 (u2 1)) ∧ w'.cell? ⟨b1, 3, none⟩ = some (.int .u64 (u2 2)) ∧ w'.cell? ⟨b1, 4, none⟩ = some (.int .u64 (u2 3)) ∧ w'.cell? ⟨b1, 5, none⟩ = some (.slice p2 n2 c2) ∧ w'.cell? ⟨b3, 0, none⟩ = some (.int .i64 k) ∧ w'.cell? ⟨b3, 1, none⟩ = some (.int .u64 (u 0)) ∧ w'.cell? ⟨b3, 2, none⟩ = some (.int .u64 (u 1)) ∧ w'.cell? ⟨b3, 3, none⟩ = some (.int .u64 (u 2)) ∧ w'.cell? ⟨b3, 4, none⟩ = some (.int .u64 (u 3)) ∧ w'.cell? ⟨b3, 5, none⟩ = some (.slice p n c) ∧ b1 < w'.heap.size ∧ b3 < w'.heap.size ∧ Below z.heap.size z w')
    (first | assumption | exact ⟨a0, a1, a2, a3, a4, a5, e0, e1, e2, e3, e4, e5, az, ez, below_drewN (Below.refl _ _) 1⟩ | exact keepC (by assumption) hb)
    (first | (go_at_call 14; refine (H1.out _ (keepC_k (by assumption))).mono ?_; rintro _ wq ⟨rfl, hb⟩) | (go_at_call 18; refine (H2.out _ (keepC_k (by assumption))).mono ?_; rintro _ wq ⟨rfl, hb⟩) | (go_at_call 15; refine (H3.out _ (keepC_k (by assumption))).mono ?_; rintro _ wq ⟨rfl, hb⟩) | (go_at_call 19; refine (H4.out _ (keepC_k (by assumption))).mono ?_; rintro _ wq ⟨rfl, hb⟩) | (go_at_call 20; refine (H5.out _ (keepC_k (by assumption))).mono ?_; rintro _ wq ⟨rfl, hb⟩) | (go_at_call 16; refine (H6.out _ (keepC_k (by assumption))).mono ?_; rintro _ wq ⟨rfl, hb⟩))
  all_goals
    rename_i hHeld
    have R8 := Lib.hid (R1.out.up (keepC_k hHeld))
    clear hHeld hb H1 H2 H3 H4 H5 H6 R1 a0 a1 a2 a3 a4 a5 az e0 e1 e2 e3 e4 e5 ez
    go_wp2_with fail
    go_ret
    exact ⟨rfl, R8.out.2.2.1⟩
theorem checks_any {t : RT} {w : World} {ka : Int} {ua : Nat → Int} {pa : Option Addr} {na ca : Nat} (hw0 : 0 < w.heap.size) (hT : Tb w) (V1 : RV (fun b => b < w.heap.size) w t (.agg (nodeC ka ua (.slice pa na ca)))) (d1 : wid t ≤ 9223372036854775806) :
    Calls Tryd.prog 3 #[.agg #[.int .i64 ka, .int .u64 (ua 0), .int .u64 (ua 1), .int .u64 (ua 2), .int .u64 (ua 3), .slice pa na ca]] w fun e w' => e = .returned (.bool true) ∧ Below w.heap.size w w' := by
  by_cases q : 2000 < sz t
  · exact checks_big hw0 hT V1 d1 (by simpa using q) (by omega) (by unfold checkE; rw [if_pos (by omega)])
  · exact checks_ok hw0 hT V1 d1 (by simpa using q) (by have := wid_sz t; omega)
end Go.Proofs.YtmjojahkbjlcdaaDoor
