/- Texts of package regs, one behind the other. -/
import Derived.Lib.Slices
import Derived.Lib.Strings
import Derived.Test.YtmjojahkbjlcdaaDoorProg
import Derived.Test.YtmjojahkbjlcdaaDoorY3
import Derived.Test.YtmjojahkbjlcdaaDoorY4
import Derived.WalkKit
import Derived.WalkLawsBesides
import Derived.WalkSpells
import Derived.Outline
import Derived.Lib.Walk
import Derived.Lib.Hide
import Derived.RegionTactic
import Derived.LoopTactic
import Derived.Below
import Derived.IntWalk
import Derived.Deep.QuietTactic
import Derived.BigQuiet
import Derived.Test.YtmjojahkbjlcdaaDoorY45
import Derived.Test.YtmjojahkbjlcdaaDoorH14
import Derived.Test.YtmjojahkbjlcdaaDoorY41
import Derived.Test.YtmjojahkbjlcdaaDoorG46
import Derived.Test.YtmjojahkbjlcdaaDoorG49
import Derived.Test.YtmjojahkbjlcdaaDoorH10
import Derived.Test.YtmjojahkbjlcdaaDoorRows
import Derived.Test.YtmjojahkbjlcdaaDoorY28
import Derived.ProofKit
import Derived.LaidMore
import Derived.OpenShut
import Derived.Stop.Joined
import Derived.Lib.LaidTab
section
namespace Go.Proofs.YtmjojahkbjlcdaaDoor
set_option linter.unusedSimpArgs false
set_option linter.unusedVariables false
set_option maxRecDepth 100000
open Go.RowKit

/- RegsParses: the walk. -/
theorem big_hid {t : RT} (m : Nat) (hm : sz t ≤ m) (hm2 : m ≤ 1000000) {D : Nat → Prop} {v : Value} {y : World} (hD : ∀ b, D b → b < y.heap.size) (h : RV D y t v) :
    Hid (Calls Tryd.prog 13 #[v, .int .i64 (m : Nat)] y fun e w' => e = .returned (.bool false) ∧ Below y.heap.size y w') := Lib.hid (big_walk m hm hm2 hD h)
theorem same_hid {t : RT} (hw : wid t ≤ 1000) {D E : Nat → Prop} {v v' : Value} {y : World} (hD : ∀ b, D b → b < y.heap.size) (hE : ∀ b, E b → b < y.heap.size) (h : RV D y t v) (h' : RV E y t v') :
    Hid (Calls Tryd.prog 23 #[v, v'] y fun e w' => e = .returned (.bool true) ∧ Below y.heap.size y w') := Lib.hid (same_true _ t (Nat.le_refl _) (by omega) hD hE h h')
/-- A pattern in a box. -/
def BX (b : Nat) (D : Nat → Prop) (t : RT) (y : World) : Prop := ∃ (k : Int) (u : Nat → Int) (p : Option Addr) (n c : Nat), y.heap[b]? = some (.cells (nodeC k u (.slice p n c)) 27) ∧ RV D y t (.agg (nodeC k u (.slice p n c)))
theorem BX.keep {b : Nat} {D : Nat → Prop} {t : RT} {y z : World} (h : BX b D t y) (hb : z.heap[b]? = y.heap[b]?) (hD : ∀ x, D x → z.heap[x]? = y.heap[x]?) : BX b D t z := by
  obtain ⟨k, u, p, n, c, h1, h2⟩ := h
  exact ⟨k, u, p, n, c, hb.trans h1, RV.mono (fun a ha => ha) (fun a ha _ => hD a ha) h2⟩
def R2 (w : World) (D1 D2 : Nat → Prop) (b1 b2 : Nat) (t : RT) (y : World) : Prop := BX b1 D1 t y ∧ BX b2 D2 t y ∧ Below w.heap.size w y ∧ b1 < y.heap.size ∧ b2 < y.heap.size ∧ (∀ b, D1 b → b < y.heap.size) ∧ ∀ b, D2 b → b < y.heap.size
theorem R2.up {w y z : World} {D1 D2 : Nat → Prop} {b1 b2 : Nat} {t : RT} (h : R2 w D1 D2 b1 b2 t y) (hb : Below y.heap.size y z) : R2 w D1 D2 b1 b2 t z :=
  ⟨h.1.keep (hb.block _ h.2.2.2.1) (fun x hx => hb.block x (h.2.2.2.2.2.1 x hx)), h.2.1.keep (hb.block _ h.2.2.2.2.1) (fun x hx => hb.block x (h.2.2.2.2.2.2 x hx)), h.2.2.1.trans (hb.mono h.2.2.1.size), Nat.lt_of_lt_of_le h.2.2.2.1 hb.size, Nat.lt_of_lt_of_le h.2.2.2.2.1 hb.size, fun b hd => Nat.lt_of_lt_of_le (h.2.2.2.2.2.1 b hd) hb.size, fun b hd => Nat.lt_of_lt_of_le (h.2.2.2.2.2.2 b hd) hb.size⟩
set_option maxHeartbeats 8000000 in
theorem parses_walk {s : ByteArray} {t : RT} {m E : Int} {w : World} (hw0 : 0 < w.heap.size) (hT : Tb w) (P1 : Hid (∀ w, Calls Tryd.prog 21 #[.string s] w (PP t m E w))) (P2 : Hid (∀ w, Calls Tryd.prog 22 #[.string s] w (PP t m E w))) (hsz : sz t ≤ 2000) (hdp : dep t ≤ 1000) (hwd : wid t ≤ 1000) :
    Calls Tryd.prog 4 #[.string s] w fun e w' => e = .returned (.bool true) ∧ Below w.heap.size w w' := by
  have HT := Lib.hid hT
  have HSZ := Lib.hid hsz
  have HDP := Lib.hid hdp
  have HWD := Lib.hid hwd
  have HW0 := Lib.hid hw0
  clear hT hsz hdp hwd hw0
  go_enter Tryd.func4, Tryd.ntmps4
  go_wp2_with fail
  refine (P1.out _).mono ?_
  rintro _ w1 ⟨⟨v, rfl, hv⟩, hb⟩
  obtain ⟨k, u, p, n, c, rfl⟩ := hv.form2
  unfold ret3
  have S1 := Lib.hid (hb.alloc hb.size (.cells #[.int .i64 k, .int .u64 (u 0), .int .u64 (u 1), .int .u64 (u 2), .int .u64 (u 3), .slice p n c] 27) : Below w.heap.size w (w1.alloc (.cells #[.int .i64 k, .int .u64 (u 0), .int .u64 (u 1), .int .u64 (u 2), .int .u64 (u 3), .slice p n c] 27)))
  have hV : RV (fun b => w.heap.size ≤ b ∧ b < w1.heap.size) (w1.alloc (.cells #[.int .i64 k, .int .u64 (u 0), .int .u64 (u 1), .int .u64 (u 2), .int .u64 (u 3), .slice p n c] 27)) t (.agg #[.int .i64 k, .int .u64 (u 0), .int .u64 (u 1), .int .u64 (u 2), .int .u64 (u 3), .slice p n c]) := RV.mono (fun b h => h) (fun b h hlt => ((Below.refl w1.heap.size w1).alloc (Nat.le_refl _) _).block b hlt) hv
  have X1 : Hid (BX w1.heap.size (fun b => w.heap.size ≤ b ∧ b < w1.heap.size) t (w1.alloc (.cells #[.int .i64 k, .int .u64 (u 0), .int .u64 (u 1), .int .u64 (u 2), .int .u64 (u 3), .slice p n c] 27))) := Lib.hid ⟨k, u, p, n, c, heap_alloc_last w1 _, hV⟩
  have hz1 : (w1.alloc (.cells #[.int .i64 k, .int .u64 (u 0), .int .u64 (u 1), .int .u64 (u 2), .int .u64 (u 3), .slice p n c] 27)).heap.size = w1.heap.size + 1 := by simp
  have hs1 := hb.size
  clear hb hv hV
  go_upto_region 2 with fail
  obtain ⟨b1, hb1⟩ : ∃ b1, w1.heap.size = b1 := ⟨_, rfl⟩
  rw [hb1] at hs1
  simp only [hb1] at X1 hz1 ⊢
  refine at_world (fun y => Below w.heap.size w y ∧ BX b1 (fun b => w.heap.size ≤ b ∧ b < b1) t y ∧ y.heap.size = b1 + 1) ⟨S1.out, X1.out, hz1⟩ fun y hy => ?_
  have S2 := Lib.hid hy
  clear hy S1 X1 hz1 hb1
  go_wp2_with fail
  refine (P2.out _).mono ?_
  rintro _ w2 ⟨⟨v, rfl, hv⟩, hb⟩
  obtain ⟨k, u, p, n, c, rfl⟩ := hv.form2
  unfold ret3
  have hs2 := hb.size
  have hy1 := S2.out.2.2
  have S3 : Below w.heap.size w (w2.alloc (.cells #[.int .i64 k, .int .u64 (u 0), .int .u64 (u 1), .int .u64 (u 2), .int .u64 (u 3), .slice p n c] 27)) := (S2.out.1.trans (hb.mono S2.out.1.size)).alloc (Nat.le_trans S2.out.1.size hb.size) (.cells #[.int .i64 k, .int .u64 (u 0), .int .u64 (u 1), .int .u64 (u 2), .int .u64 (u 3), .slice p n c] 27)
  have hV : RV (fun b => b1 < b ∧ b < w2.heap.size) (w2.alloc (.cells #[.int .i64 k, .int .u64 (u 0), .int .u64 (u 1), .int .u64 (u 2), .int .u64 (u 3), .slice p n c] 27)) t (.agg #[.int .i64 k, .int .u64 (u 0), .int .u64 (u 1), .int .u64 (u 2), .int .u64 (u 3), .slice p n c]) := RV.mono (fun b h => ⟨by have := h.1; omega, h.2⟩) (fun b h hlt => ((Below.refl w2.heap.size w2).alloc (Nat.le_refl _) _).block b hlt) hv
  have hz2 : (w2.alloc (.cells #[.int .i64 k, .int .u64 (u 0), .int .u64 (u 1), .int .u64 (u 2), .int .u64 (u 3), .slice p n c] 27)).heap.size = w2.heap.size + 1 := by simp
  have X1 : BX b1 (fun b => w.heap.size ≤ b ∧ b < b1) t (w2.alloc (.cells #[.int .i64 k, .int .u64 (u 0), .int .u64 (u 1), .int .u64 (u 2), .int .u64 (u 3), .slice p n c] 27)) := S2.out.2.1.keep ((heap_alloc_old w2 _ (show b1 < w2.heap.size by omega)).trans (hb.block b1 (by omega))) (fun x hx => (heap_alloc_old w2 _ (show x < w2.heap.size by omega)).trans (hb.block x (by omega)))
  have R := Lib.hid (show R2 w (fun b => w.heap.size ≤ b ∧ b < b1) (fun b => b1 < b ∧ b < w2.heap.size) b1 w2.heap.size t (w2.alloc (.cells #[.int .i64 k, .int .u64 (u 0), .int .u64 (u 1), .int .u64 (u 2), .int .u64 (u 3), .slice p n c] 27)) from ⟨X1, ⟨k, u, p, n, c, heap_alloc_last w2 _, hV⟩, S3, by omega, by omega, fun b h => by omega, fun b h => by omega⟩)
  have hb12 : b1 < w2.heap.size := by omega
  clear hb hv hV S3 X1 hz2 S2 hy1 hs2
  go_upto_region 3 with fail
  obtain ⟨b2, hb2⟩ : ∃ b2, w2.heap.size = b2 := ⟨_, rfl⟩
  simp only [hb2] at R hb12 ⊢
  refine at_world (fun y => R2 w (fun b => w.heap.size ≤ b ∧ b < b1) (fun b => b1 < b ∧ b < b2) b1 b2 t y) R.out fun y3 hy => ?_
  have R1 := Lib.hid hy
  clear hy R hb2
  obtain ⟨k1, u1, p1, n1, c1, ah, av⟩ := R1.out.1
  have a0 : y3.cell? ⟨b1, 0, none⟩ = some (.int .i64 k1) := cell_of_row y3 b1 0 _ 27 (0, 0) ah
  have a1 : y3.cell? ⟨b1, 1, none⟩ = some (.int .u64 (u1 0)) := cell_of_row y3 b1 1 _ 27 (0, 0) ah
  have a2 : y3.cell? ⟨b1, 2, none⟩ = some (.int .u64 (u1 1)) := cell_of_row y3 b1 2 _ 27 (0, 0) ah
  have a3 : y3.cell? ⟨b1, 3, none⟩ = some (.int .u64 (u1 2)) := cell_of_row y3 b1 3 _ 27 (0, 0) ah
  have a4 : y3.cell? ⟨b1, 4, none⟩ = some (.int .u64 (u1 3)) := cell_of_row y3 b1 4 _ 27 (0, 0) ah
  have a5 : y3.cell? ⟨b1, 5, none⟩ = some (.slice p1 n1 c1) := cell_of_row y3 b1 5 _ 27 (0, 0) ah
  have HM := big_hid 2000 HSZ.out (by omega) R1.out.2.2.2.2.2.1 av
  unfold nodeC at HM
  clear ah av
  go_wp2_with fail
  refine HM.out.mono ?_
  rintro _ y4 ⟨rfl, hb⟩
  have R2' := Lib.hid (R1.out.up hb)
  clear R1 HM hb a0 a1 a2 a3 a4 a5
  obtain ⟨k1, u1, p1, n1, c1, ah, av⟩ := R2'.out.1
  have a0 : y4.cell? ⟨b1, 0, none⟩ = some (.int .i64 k1) := cell_of_row y4 b1 0 _ 27 (0, 0) ah
  have a1 : y4.cell? ⟨b1, 1, none⟩ = some (.int .u64 (u1 0)) := cell_of_row y4 b1 1 _ 27 (0, 0) ah
  have a2 : y4.cell? ⟨b1, 2, none⟩ = some (.int .u64 (u1 1)) := cell_of_row y4 b1 2 _ 27 (0, 0) ah
  have a3 : y4.cell? ⟨b1, 3, none⟩ = some (.int .u64 (u1 2)) := cell_of_row y4 b1 3 _ 27 (0, 0) ah
  have a4 : y4.cell? ⟨b1, 4, none⟩ = some (.int .u64 (u1 3)) := cell_of_row y4 b1 4 _ 27 (0, 0) ah
  have a5 : y4.cell? ⟨b1, 5, none⟩ = some (.slice p1 n1 c1) := cell_of_row y4 b1 5 _ 27 (0, 0) ah
  obtain ⟨k2, u2, p2, n2, c2, dh, dv⟩ := R2'.out.2.1
  have d0 : y4.cell? ⟨b2, 0, none⟩ = some (.int .i64 k2) := cell_of_row y4 b2 0 _ 27 (0, 0) dh
  have d1 : y4.cell? ⟨b2, 1, none⟩ = some (.int .u64 (u2 0)) := cell_of_row y4 b2 1 _ 27 (0, 0) dh
  have d2 : y4.cell? ⟨b2, 2, none⟩ = some (.int .u64 (u2 1)) := cell_of_row y4 b2 2 _ 27 (0, 0) dh
  have d3 : y4.cell? ⟨b2, 3, none⟩ = some (.int .u64 (u2 2)) := cell_of_row y4 b2 3 _ 27 (0, 0) dh
  have d4 : y4.cell? ⟨b2, 4, none⟩ = some (.int .u64 (u2 3)) := cell_of_row y4 b2 4 _ 27 (0, 0) dh
  have d5 : y4.cell? ⟨b2, 5, none⟩ = some (.slice p2 n2 c2) := cell_of_row y4 b2 5 _ 27 (0, 0) dh
  have HM := same_hid HWD.out R2'.out.2.2.2.2.2.1 R2'.out.2.2.2.2.2.2 av dv
  unfold nodeC at HM
  clear ah av dh dv
  go_wp2_with fail
  refine HM.out.mono ?_
  rintro _ y5 ⟨rfl, hb⟩
  have R3 := Lib.hid (R2'.out.up hb)
  clear R2' HM hb a0 a1 a2 a3 a4 a5 d0 d1 d2 d3 d4 d5
  obtain ⟨k1, u1, p1, n1, c1, ah, av⟩ := R3.out.1
  have a0 : y5.cell? ⟨b1, 0, none⟩ = some (.int .i64 k1) := cell_of_row y5 b1 0 _ 27 (0, 0) ah
  have a1 : y5.cell? ⟨b1, 1, none⟩ = some (.int .u64 (u1 0)) := cell_of_row y5 b1 1 _ 27 (0, 0) ah
  have a2 : y5.cell? ⟨b1, 2, none⟩ = some (.int .u64 (u1 1)) := cell_of_row y5 b1 2 _ 27 (0, 0) ah
  have a3 : y5.cell? ⟨b1, 3, none⟩ = some (.int .u64 (u1 2)) := cell_of_row y5 b1 3 _ 27 (0, 0) ah
  have a4 : y5.cell? ⟨b1, 4, none⟩ = some (.int .u64 (u1 3)) := cell_of_row y5 b1 4 _ 27 (0, 0) ah
  have a5 : y5.cell? ⟨b1, 5, none⟩ = some (.slice p1 n1 c1) := cell_of_row y5 b1 5 _ 27 (0, 0) ah
  have HM := Lib.hid (marked_any (D := fun b => w.heap.size ≤ b ∧ b < b1) 1000 _ y5 (av.dp 1000 t HDP.out HWD.out) R3.out.2.2.2.2.2.1)
  unfold nodeC at HM
  clear ah av
  go_wp2_with fail
  refine HM.out.mono ?_
  rintro _ y6 ⟨rfl, hk⟩
  have X2 : BX b2 (fun b => b1 < b ∧ b < b2) t y6 := R3.out.2.1.keep (hk.block b2 R3.out.2.2.2.2.1 (fun h => by omega)) (fun x hx => hk.block x (R3.out.2.2.2.2.2.2 x hx) (fun h => by omega))
  have B6 : Below w.heap.size w y6 := R3.out.2.2.1.trans (hk.to_below R3.out.2.2.1.size (fun b h => h.1))
  have hz6 : b2 < y6.heap.size := Nat.lt_of_lt_of_le R3.out.2.2.2.2.1 hk.size
  have X2 := Lib.hid X2
  have B6 := Lib.hid B6
  clear hk HM R3 a0 a1 a2 a3 a4 a5
  go_wp2_with fail
  refine (P1.out _).mono ?_
  rintro _ w3 ⟨⟨v, rfl, hv⟩, hb⟩
  obtain ⟨k, u, p, n, c, rfl⟩ := hv.form2
  unfold ret3
  have hs3 := hb.size
  have S3 : Below w.heap.size w (w3.alloc (.cells #[.int .i64 k, .int .u64 (u 0), .int .u64 (u 1), .int .u64 (u 2), .int .u64 (u 3), .slice p n c] 27)) := (B6.out.trans (hb.mono B6.out.size)).alloc (Nat.le_trans B6.out.size hb.size) (.cells #[.int .i64 k, .int .u64 (u 0), .int .u64 (u 1), .int .u64 (u 2), .int .u64 (u 3), .slice p n c] 27)
  have hV : RV (fun b => b2 < b ∧ b < w3.heap.size) (w3.alloc (.cells #[.int .i64 k, .int .u64 (u 0), .int .u64 (u 1), .int .u64 (u 2), .int .u64 (u 3), .slice p n c] 27)) t (.agg #[.int .i64 k, .int .u64 (u 0), .int .u64 (u 1), .int .u64 (u 2), .int .u64 (u 3), .slice p n c]) := RV.mono (fun b h => ⟨by have := h.1; omega, h.2⟩) (fun b h hlt => ((Below.refl w3.heap.size w3).alloc (Nat.le_refl _) _).block b hlt) hv
  have hz2 : (w3.alloc (.cells #[.int .i64 k, .int .u64 (u 0), .int .u64 (u 1), .int .u64 (u 2), .int .u64 (u 3), .slice p n c] 27)).heap.size = w3.heap.size + 1 := by simp
  have X3 : BX b2 (fun b => b1 < b ∧ b < b2) t (w3.alloc (.cells #[.int .i64 k, .int .u64 (u 0), .int .u64 (u 1), .int .u64 (u 2), .int .u64 (u 3), .slice p n c] 27)) := X2.out.keep ((heap_alloc_old w3 _ (show b2 < w3.heap.size by omega)).trans (hb.block b2 (by omega))) (fun x hx => (heap_alloc_old w3 _ (show x < w3.heap.size by omega)).trans (hb.block x (by omega)))
  have R := Lib.hid (show R2 w (fun b => b2 < b ∧ b < w3.heap.size) (fun b => b1 < b ∧ b < b2) w3.heap.size b2 t (w3.alloc (.cells #[.int .i64 k, .int .u64 (u 0), .int .u64 (u 1), .int .u64 (u 2), .int .u64 (u 3), .slice p n c] 27)) from ⟨⟨k, u, p, n, c, heap_alloc_last w3 _, hV⟩, X3, S3, by omega, by omega, fun b h => by omega, fun b h => by omega⟩)
  clear hb hv hV S3 X3 X2 B6 hz2 hs3 hz6
  go_upto_region 7 with fail
  obtain ⟨b3, hb3⟩ : ∃ b3, w3.heap.size = b3 := ⟨_, rfl⟩
  simp only [hb3] at R ⊢
  refine at_world (fun y => R2 w (fun b => b2 < b ∧ b < b3) (fun b => b1 < b ∧ b < b2) b3 b2 t y) R.out fun y7 hy => ?_
  have R4 := Lib.hid hy
  clear hy R hb3
  obtain ⟨k1, u1, p1, n1, c1, ah, av⟩ := R4.out.1
  have a0 : y7.cell? ⟨b3, 0, none⟩ = some (.int .i64 k1) := cell_of_row y7 b3 0 _ 27 (0, 0) ah
  have a1 : y7.cell? ⟨b3, 1, none⟩ = some (.int .u64 (u1 0)) := cell_of_row y7 b3 1 _ 27 (0, 0) ah
  have a2 : y7.cell? ⟨b3, 2, none⟩ = some (.int .u64 (u1 1)) := cell_of_row y7 b3 2 _ 27 (0, 0) ah
  have a3 : y7.cell? ⟨b3, 3, none⟩ = some (.int .u64 (u1 2)) := cell_of_row y7 b3 3 _ 27 (0, 0) ah
  have a4 : y7.cell? ⟨b3, 4, none⟩ = some (.int .u64 (u1 3)) := cell_of_row y7 b3 4 _ 27 (0, 0) ah
  have a5 : y7.cell? ⟨b3, 5, none⟩ = some (.slice p1 n1 c1) := cell_of_row y7 b3 5 _ 27 (0, 0) ah
  have HM := big_hid 2000 HSZ.out (by omega) R4.out.2.2.2.2.2.1 av
  unfold nodeC at HM
  clear ah av
  go_wp2_with fail
  refine HM.out.mono ?_
  rintro _ y8 ⟨rfl, hb⟩
  have R5 := Lib.hid (R4.out.up hb)
  clear R4 HM hb a0 a1 a2 a3 a4 a5
  obtain ⟨k1, u1, p1, n1, c1, ah, av⟩ := R5.out.1
  have a0 : y8.cell? ⟨b3, 0, none⟩ = some (.int .i64 k1) := cell_of_row y8 b3 0 _ 27 (0, 0) ah
  have a1 : y8.cell? ⟨b3, 1, none⟩ = some (.int .u64 (u1 0)) := cell_of_row y8 b3 1 _ 27 (0, 0) ah
  have a2 : y8.cell? ⟨b3, 2, none⟩ = some (.int .u64 (u1 1)) := cell_of_row y8 b3 2 _ 27 (0, 0) ah
  have a3 : y8.cell? ⟨b3, 3, none⟩ = some (.int .u64 (u1 2)) := cell_of_row y8 b3 3 _ 27 (0, 0) ah
  have a4 : y8.cell? ⟨b3, 4, none⟩ = some (.int .u64 (u1 3)) := cell_of_row y8 b3 4 _ 27 (0, 0) ah
  have a5 : y8.cell? ⟨b3, 5, none⟩ = some (.slice p1 n1 c1) := cell_of_row y8 b3 5 _ 27 (0, 0) ah
  obtain ⟨k2, u2, p2, n2, c2, dh, dv⟩ := R5.out.2.1
  have d0 : y8.cell? ⟨b2, 0, none⟩ = some (.int .i64 k2) := cell_of_row y8 b2 0 _ 27 (0, 0) dh
  have d1 : y8.cell? ⟨b2, 1, none⟩ = some (.int .u64 (u2 0)) := cell_of_row y8 b2 1 _ 27 (0, 0) dh
  have d2 : y8.cell? ⟨b2, 2, none⟩ = some (.int .u64 (u2 1)) := cell_of_row y8 b2 2 _ 27 (0, 0) dh
  have d3 : y8.cell? ⟨b2, 3, none⟩ = some (.int .u64 (u2 2)) := cell_of_row y8 b2 3 _ 27 (0, 0) dh
  have d4 : y8.cell? ⟨b2, 4, none⟩ = some (.int .u64 (u2 3)) := cell_of_row y8 b2 4 _ 27 (0, 0) dh
  have d5 : y8.cell? ⟨b2, 5, none⟩ = some (.slice p2 n2 c2) := cell_of_row y8 b2 5 _ 27 (0, 0) dh
  have HM := same_hid HWD.out R5.out.2.2.2.2.2.1 R5.out.2.2.2.2.2.2 av dv
  unfold nodeC at HM
  clear ah av dh dv
  go_wp2_with fail
  refine HM.out.mono ?_
  rintro _ y9 ⟨rfl, hb⟩
  have R6 := Lib.hid (R5.out.up hb)
  clear R5 HM hb a0 a1 a2 a3 a4 a5 d0 d1 d2 d3 d4 d5
  have HA := Lib.hid (alive_any y9 (by have := R6.out.2.2.1.size; have := HW0.out; omega) (HT.out.mono (R6.out.2.2.1.block 0 HW0.out)))
  go_wp2_with fail
  refine HA.out.mono ?_
  rintro _ y10 ⟨rfl, hb⟩
  have R7 := Lib.hid (R6.out.up hb)
  clear R6 HA hb
  go_wp2
  go_ret
  exact ⟨rfl, R7.out.2.2.1⟩
end Go.Proofs.YtmjojahkbjlcdaaDoor
end
section
namespace Go.Proofs.YtmjojahkbjlcdaaDoor
set_option linter.unusedSimpArgs false
set_option linter.unusedVariables false
set_option maxRecDepth 100000
open Go.RowKit

/- The document's choice and Parse, of any text. -/
theorem chcd_any {s : ByteArray} (hs : s.size ≤ 1000) : ∀ (k : Nat) (q : List UInt8) (w : World), q.length < k → Suf s q → Calls Tryd.prog 38 #[.string s, .int .i64 ((s.size - q.length : Nat) : Int)] w (RdP s w (chc k q))
  | 0, q, w, hk, h => by omega
  | k + 1, q, w, hk, h => by
    have hch : ∀ q', q'.length < k → Suf s q' → CHD s q' (chc k q') := fun q' hl h' => Lib.hid fun w' => chcd_any hs k q' w' hl h'
    refine choiced_walk (chc k) hs q h (chc_on k) (Lib.hid fun q1 w1 hl1 h1 => ?_)
    refine rowd_walk (chc k) hs q1 h1 (chc_on k) (Lib.hid fun q2 w2 hne hl2 h2 => ?_)
    exact atomd_any (chc k) h2 hne hs (chc_stop k) (fun q' hl hsuf => hch q' (by omega) hsuf) w2
theorem prsd_any (s : ByteArray) (hs : s.size ≤ 9223372036854775807) (w : World) : Calls Tryd.prog 22 #[.string s] w (PP (prsR s.data.toList).1 (prsR s.data.toList).2.1 (prsR s.data.toList).2.2 w) := by
  have hl : s.data.toList.length = s.size := by simp
  unfold prsR
  rw [hl]
  by_cases h : 256 < s.size
  · rw [if_pos h]; exact (pd_long h hs w).mono fun e w' k => PP.err k
  · rw [if_neg h]
    have hC := fun w => chcd_any (s := s) (by omega) (s.data.toList.length + 1) s.data.toList w (by omega) ⟨[], rfl⟩
    have h0 : s.size - s.data.toList.length = 0 := by omega
    rw [h0] at hC
    have hC : ∀ w, Calls Tryd.prog 38 #[.string s, .int .i64 0] w (RdP s w (chc (s.data.toList.length + 1) s.data.toList)) := hC
    cases hc : wholeF s.data.toList with
    | error q =>
      unfold wholeF at hc
      cases hd : chc (s.data.toList.length + 1) s.data.toList with
      | error q' =>
        rw [hd] at hC hc
        cases hc
        exact (pd_bad (m := s.size - q.length) (by omega) w (Lib.hid fun w => (hC w).mono fun e w' k => ⟨k.2.2, k.1⟩)).mono fun e w' k => PP.err k
      | ok v =>
        obtain ⟨t, r⟩ := v
        have hle := chc_on _ _ _ _ hd
        rw [hd] at hC hc
        cases r with
        | nil => cases hc
        | cons c r =>
          cases hc
          have hle' : r.length + 1 ≤ s.size := by rw [hl] at hle; simpa using hle
          refine (pd_more (m := s.size - (c :: r).length) (by omega) (by simp only [List.length_cons]; omega) w (Lib.hid fun w => (hC w).mono fun e w' k => ?_)).mono fun e w' k => PP.err k
          obtain ⟨k1, k2, k3, k4, k5, k6, k7, k8, k9⟩ := k
          exact ⟨⟨k3, k4, k5, k6, k7, k8⟩, k1⟩
    | ok t =>
      have hsz := wholeF_sz hc
      have h2 := dep_sz t
      have h3 := wid_sz t
      unfold wholeF at hc
      cases hd : chc (s.data.toList.length + 1) s.data.toList with
      | error q' => rw [hd] at hc; cases hc
      | ok v =>
        obtain ⟨t', r⟩ := v
        rw [hd] at hC hc
        cases r with
        | cons c r => cases hc
        | nil =>
          cases hc
          have hC' : Hid (∀ w, Calls Tryd.prog 38 #[.string s, .int .i64 0] w fun e w' => (∃ (k1 : Int) (u1 : Nat → Int) (p1 : Option Addr) (n1 c1 : Nat), e = .returned (.agg (readC k1 u1 (.slice p1 n1 c1) (s.size : Nat) false)) ∧ RV (fun b => w.heap.size ≤ b ∧ b < w'.heap.size) w' t (.agg (nodeC k1 u1 (.slice p1 n1 c1)))) ∧ Below w.heap.size w w') := Lib.hid fun w => (hC w).mono fun e w' k => by
            obtain ⟨k1, k2, k3, k4, k5, k6, k7, k8, k9⟩ := k
            exact ⟨⟨k3, k4, k5, k6, k7, k8, k9⟩, k1⟩
          by_cases hdp : 16 < dep t
          · simp only [if_pos hdp]
            exact (pd_deep (by omega) w hdp (by omega) (by omega) hC').mono fun e w' k => PP.err k
          · simp only [if_neg hdp]
            exact pd_ok (by omega) w hdp (by omega) (by omega) hC'
theorem parses_any {s : ByteArray} (hs : s.size ≤ 9223372036854775807) {w : World} (hw0 : 0 < w.heap.size) (hT : Tb w) : Calls Tryd.prog 4 #[.string s] w fun e w' => e = .returned (.bool true) ∧ Below w.heap.size w w' := by
  obtain ⟨⟨t, m, E⟩, hp⟩ : ∃ x, prsR s.data.toList = x := ⟨_, rfl⟩
  have h1 := prs_any s hs
  have h2 := prsd_any s hs
  rw [hp] at h1 h2
  have hsz : sz t ≤ 600 := by
    unfold prsR at hp
    by_cases hl : 256 < s.data.toList.length
    · rw [if_pos hl] at hp; cases hp; decide
    · rw [if_neg hl] at hp
      cases hc : wholeF s.data.toList with
      | error q => rw [hc] at hp; cases hp; decide
      | ok t' =>
        rw [hc] at hp
        simp only at hp
        have := wholeF_sz hc
        by_cases hd : 16 < dep t'
        · rw [if_pos hd] at hp; cases hp; decide
        · rw [if_neg hd] at hp; cases hp; omega
  have h3 := dep_sz t
  have h4 := wid_sz t
  exact parses_walk (t := t) (m := m) (E := E) hw0 hT (Lib.hid h1) (Lib.hid h2) (by omega) (by omega) (by omega)
end Go.Proofs.YtmjojahkbjlcdaaDoor
end
section
/- What the library's listed table gives the walks, and a world in which it lies. -/
namespace Go.Proofs.YtmjojahkbjlcdaaDoor
open Go.ChangeShapes Go.WideShapes Go.ChangeAt Go.RowKit
set_option linter.unusedVariables false
abbrev lst : List (String × DataW Unit) := [("math/bits.deBruijn64tab", Rows.laid_math_bits_deBruijn64tab)]
theorem gTab : Tryd.prog.globalNamed "math/bits.deBruijn64tab" = some 0 := by kernel_rfl
theorem gTabT : (Tryd.prog.globals[0]?).map (·.type) = some 119 := by kernel_rfl
theorem cells5t : Tryd.prog.cellsOf 5 = 1 := by kernel_rfl
theorem cells119 : Tryd.prog.cellsOf 119 = 64 := by kernel_rfl
theorem tab_met (os : Os) (args : Array Value) : laidMetH Tryd.prog lst ((World.doorLaid Tryd.prog 14 os).forCall (fun _ _ => 0) ⟨#[], args, []⟩).memory :=
  laidMetH_of_parts3 (fuel := 8) (laidMet_of_run' 8 (by kernel_rfl) (by kernel_rfl)) (by kernel_rfl) (by kernel_rfl)
theorem tab_of {W : World} (h : laidMetH Tryd.prog lst W) : Tb W ∧ 0 < W.heap.size := by
  rw [MakeChecks.laidMetH_plain _ _ _ (by kernel_rfl)] at h
  have hL : laidMet Tryd.prog (("math/bits.deBruijn64tab", Lib.tabData .u8 (Lib.deBruijn64tab.map fun n : Nat => (n : Int))) :: []) W := h
  have hT := Lib.tabIs_of_head gTab gTabT Tryd.underlying119 Tryd.underlying5 cells5t cells119 hL
  have key : Tb W := fun j hj => by
    rw [hT.cell gTab j (by simpa using hj)]
    congr 2
    simp [List.getD, List.getElem?_map, List.getElem?_eq_getElem hj]
  refine ⟨key, ?_⟩
  have h0 := key 0 (by decide)
  exact World.block_lt_of_cell? W ⟨0, 0, none⟩ h0
end Go.Proofs.YtmjojahkbjlcdaaDoor
end
