/- Package nfa. -/
import Derived.Test.YthglciccejholaaDoorProg
import Derived.Test.YthglciccejholaaDoorY33
import Derived.WalkKit
import Derived.WalkLawsBesides
import Derived.WalkSpells
import Derived.Outline
import Derived.Lib.Walk
import Derived.Lib.Hide
import Derived.Lib.Slices
import Derived.Lib.Strings
import Derived.RegionTactic
import Derived.LoopTactic
import Derived.Below
import Derived.IntWalk
import Derived.Deep.QuietTactic
import Derived.BigQuiet
import Derived.Deep.MidRow
import Derived.Maps.AppendAt
import Derived.Laws.Rows
import Derived.Laws.Tables
import Derived.Deep.WholeRow
import Derived.Deep.Cut
import Derived.Deep.CutRange
import Derived.Lib.SliceRun
import Derived.Laws.MakeOwn
import Derived.Deep.RegionLaw
import Derived.Deep.RegionLawGrows
namespace Go.Proofs.YthglciccejholaaDoor
set_option linter.unusedSimpArgs false
set_option linter.unusedVariables false
set_option maxRecDepth 100000
open Go.RowKit
/- alive: the walk. -/
theorem bzero56 : Tryd.prog.built 27 [] = some (nodeC 0 uZ (.slice none 0 0)) := by kernel_rfl
theorem wpList_bzero56 {ops : Array Oper} {rest : List Oper} {o : Oper} {a : Act} {w : World} {Q : Exit → Act → World → Prop} (hg : o.guard = none) (ho : o.op = .build 27 #[])
    (h : wpList Tryd.prog ops Q rest (a.put o.dst (.agg (nodeC 0 uZ (.slice none 0 0)))) w) : wpList Tryd.prog ops Q (o :: rest) a w := by
  refine wpList_build hg 27 _ ho ?_ ?_
  · simp [bzero56]
  · simp [bzero56]; exact h
theorem ruv_A {y : World} {g6 g14 : Nat} (h6 : y.heap[g6]? = some (.cells (nodeC 2 uA (.slice none 0 0)) 27)) (h14 : y.heap[g14]? = some (.cells #[.int .i64 0, .int .i64 2, .int .u64 (uA 0), .int .u64 (uA 1), .int .u64 (uA 2), .int .u64 (uA 3), .slice none 0 0, .int .i64 0, .int .i64 5, .int .u64 (uZ 0), .int .u64 (uZ 1), .int .u64 (uZ 2), .int .u64 (uZ 3), .slice (some ⟨g6, 0, none⟩) 1 1] 29)) :
    RuV (fun b => b < y.heap.size) y tsA (.slice (some ⟨g14, 0, none⟩) 2 2) := by
  have l6 := (Array.getElem?_eq_some_iff.1 h6).1
  have l14 := (Array.getElem?_eq_some_iff.1 h14).1
  refine ⟨_, 2, rfl, fun _ => ⟨g14, 0, rfl, l14, fun i hi => ?_⟩⟩
  have hi2 : i = 0 ∨ i = 1 := by simp [tsA] at hi; omega
  rcases hi2 with rfl | rfl
  · refine ⟨0, 2, uA, none, 0, 0, .leaf 2 uA none 0, fun j v hv => ?_⟩
    have hj : j < 7 := (Array.getElem?_eq_some_iff.1 hv).1
    rw [cell_of_row y g14 _ _ 29 (0, 0) h14, ← hv]
    rcases (by omega : j = 0 ∨ j = 1 ∨ j = 2 ∨ j = 3 ∨ j = 4 ∨ j = 5 ∨ j = 6) with rfl | rfl | rfl | rfl | rfl | rfl | rfl <;> rfl
  · refine ⟨0, 5, uZ, some ⟨g6, 0, none⟩, 1, 1, .node 5 uZ [.mk 2 uA []] g6 0 1 (fun _ => nodeC 2 uA (.slice none 0 0)) l6 (by simp) (fun i hi => ?_) (fun i hi j hj => ?_), fun j v hv => ?_⟩
    · have h0 : i = 0 := by simp at hi; omega
      subst h0
      exact .leaf 2 uA none 0
    · have h0 : i = 0 := by simp at hi; omega
      subst h0
      refine ⟨(nodeC 2 uA (.slice none 0 0))[j]'hj, Array.getElem?_eq_getElem (show j < (nodeC 2 uA (.slice none 0 0)).size from hj), ?_⟩
      have e : 0 + (6 * 0 + j) = j := by omega
      rw [e, cell_of_row y g6 j _ 27 (0, 0) h6]
      exact Array.getElem?_eq_getElem (show j < (nodeC 2 uA (.slice none 0 0)).size from hj)
    · have hj : j < 7 := (Array.getElem?_eq_some_iff.1 hv).1
      rw [cell_of_row y g14 _ _ 29 (0, 0) h14, ← hv]
      rcases (by omega : j = 0 ∨ j = 1 ∨ j = 2 ∨ j = 3 ∨ j = 4 ∨ j = 5 ∨ j = 6) with rfl | rfl | rfl | rfl | rfl | rfl | rfl <;> rfl
theorem ruv_Z {y : World} {g7 : Nat} (h7 : y.heap[g7]? = some (.cells #[.int .i64 0, .int .i64 0, .int .u64 (uZ 0), .int .u64 (uZ 1), .int .u64 (uZ 2), .int .u64 (uZ 3), .slice none 0 0] 29)) :
    RuV (fun b => b < y.heap.size) y [.mk 0 uZ []] (.slice (some ⟨g7, 0, none⟩) 1 1) := by
  have l7 := (Array.getElem?_eq_some_iff.1 h7).1
  refine ⟨_, 1, rfl, fun _ => ⟨g7, 0, rfl, l7, fun i hi => ?_⟩⟩
  have h0 : i = 0 := by simp at hi; omega
  subst h0
  refine ⟨0, 0, uZ, none, 0, 0, .leaf 0 uZ none 0, fun j v hv => ?_⟩
  have hj : j < 7 := (Array.getElem?_eq_some_iff.1 hv).1
  rw [cell_of_row y g7 _ _ 29 (0, 0) h7, ← hv]
  rcases (by omega : j = 0 ∨ j = 1 ∨ j = 2 ∨ j = 3 ∨ j = 4 ∨ j = 5 ∨ j = 6) with rfl | rfl | rfl | rfl | rfl | rfl | rfl <;> rfl
def ALV (w y : World) (b2 : Nat) (sq : Option Addr) (c : Nat) : Prop := Below w.heap.size w y ∧ y.heap[b2]? = some (.cells #[.int .i64 5, .slice sq 6 c] 33) ∧ SV (fun b => b < y.heap.size) y ex6 (.slice sq 6 c)
theorem ALV.up {w y z : World} {b2 : Nat} {sq : Option Addr} {c : Nat} (h : ALV w y b2 sq c) (hb : Below y.heap.size y z) : ALV w z b2 sq c :=
  ⟨h.1.trans (hb.mono h.1.size), (hb.block b2 (Array.getElem?_eq_some_iff.1 h.2.1).1).trans h.2.1, h.2.2.mono (fun b h => Nat.lt_of_lt_of_le h hb.size) (fun b h _ => hb.block b h)⟩
theorem IV.upy {y z : World} {l : List Int} {v : Value} (h : IV (fun b => b < y.heap.size) y l v) (hb : Below y.heap.size y z) : IV (fun b => b < z.heap.size) z l v := h.mono (fun b h => Nat.lt_of_lt_of_le h hb.size) (fun b h _ => hb.block b h)
theorem iv_lit2 {z : World} (a b : Int) : IV (fun x => x < (z.alloc (.cells #[.int .i64 a, .int .i64 b] 3)).heap.size) (z.alloc (.cells #[.int .i64 a, .int .i64 b] 3)) [a, b] (.slice (some ⟨z.heap.size, 0, none⟩) 2 2) :=
  ⟨_, 2, rfl, fun _ => ⟨z.heap.size, 0, rfl, by simp, fun i hi => by
    rw [cell_of_row _ z.heap.size _ _ 3 (0, 0) (heap_alloc_last z _)]
    have : i = 0 ∨ i = 1 := by simp at hi; omega
    rcases this with rfl | rfl <;> rfl⟩⟩
theorem iv_lit1 {z : World} (a : Int) : IV (fun x => x < (z.alloc (.cells #[.int .i64 a] 3)).heap.size) (z.alloc (.cells #[.int .i64 a] 3)) [a] (.slice (some ⟨z.heap.size, 0, none⟩) 1 1) :=
  ⟨_, 1, rfl, fun _ => ⟨z.heap.size, 0, rfl, by simp, fun i hi => by
    rw [cell_of_row _ z.heap.size _ _ 3 (0, 0) (heap_alloc_last z _)]
    have : i = 0 := by simp at hi; omega
    subst this; rfl⟩⟩
set_option maxHeartbeats 8000000 in
theorem alive_any (w : World) : Calls Tryd.prog 14 #[] w fun e w' => e = .returned (.bool true) ∧ Below w.heap.size w w' := by
  have HB := Lib.hid byteOf_a
  have hz := zero27r
  have hz2 := zero24
  unfold nodeC at hz
  go_enter Tryd.func14, Tryd.ntmps14
  go_wp2_with fail
  refine (HB.out w).mono ?_
  rintro _ w1 ⟨rfl, hb1⟩
  have S1 := Lib.hid hb1
  go_upto_region 2 with (refine wpList_bnode (u := uA) rfl rfl rfl rfl ?_; unfold nodeC)
  have hY : Below w.heap.size w (w1.alloc (.cells (nodeC 2 uA (.slice none 0 0)) 27)) ∧ (w1.alloc (.cells (nodeC 2 uA (.slice none 0 0)) 27)).heap[w1.heap.size]? = some (.cells (nodeC 2 uA (.slice none 0 0)) 27) := ⟨S1.out.alloc hb1.size _, heap_alloc_last w1 _⟩
  refine at_world (fun y => Below w.heap.size w y ∧ y.heap[w1.heap.size]? = some (.cells (nodeC 2 uA (.slice none 0 0)) 27)) hY fun y hy => ?_
  have Y1 := Lib.hid hy
  have c0 : y.cell? ⟨w1.heap.size, 0, none⟩ = some (.int .i64 2) := cell_of_row y w1.heap.size 0 _ 27 (0, 0) hy.2
  have c1 : y.cell? ⟨w1.heap.size, 1, none⟩ = some (.int .u64 (uA 0)) := cell_of_row y w1.heap.size 1 _ 27 (0, 0) hy.2
  have c2 : y.cell? ⟨w1.heap.size, 2, none⟩ = some (.int .u64 (uA 1)) := cell_of_row y w1.heap.size 2 _ 27 (0, 0) hy.2
  have c3 : y.cell? ⟨w1.heap.size, 3, none⟩ = some (.int .u64 (uA 2)) := cell_of_row y w1.heap.size 3 _ 27 (0, 0) hy.2
  have c4 : y.cell? ⟨w1.heap.size, 4, none⟩ = some (.int .u64 (uA 3)) := cell_of_row y w1.heap.size 4 _ 27 (0, 0) hy.2
  have c5 : y.cell? ⟨w1.heap.size, 5, none⟩ = some (.slice none 0 0) := cell_of_row y w1.heap.size 5 _ 27 (0, 0) hy.2
  clear hy hY hb1 S1
  go_wp2_with (first | (refine wpList_brule (k := 2) (u := uA) (p := none) (n := 0) (c := 0) rfl rfl rfl ?_; unfold ruleC) | (refine wpList_bstar (p := some ⟨y.heap.size, 0, none⟩) (n := 1) (c := 1) rfl rfl rfl rfl ?_; unfold nodeC) | (refine wpList_brule (k := 5) (u := uZ) (p := some ⟨y.heap.size, 0, none⟩) (n := 1) (c := 1) rfl rfl rfl ?_; unfold ruleC))
  have hs1 : (y.alloc (.cells #[.int .i64 2, .int .u64 (uA 0), .int .u64 (uA 1), .int .u64 (uA 2), .int .u64 (uA 3), .slice none 0 0] 27)).heap.size = y.heap.size + 1 := by simp
  have h14 : ((y.alloc (.cells #[.int .i64 2, .int .u64 (uA 0), .int .u64 (uA 1), .int .u64 (uA 2), .int .u64 (uA 3), .slice none 0 0] 27)).alloc (.cells #[.int .i64 0, .int .i64 2, .int .u64 (uA 0), .int .u64 (uA 1), .int .u64 (uA 2), .int .u64 (uA 3), .slice none 0 0, .int .i64 0, .int .i64 5, .int .u64 (uZ 0), .int .u64 (uZ 1), .int .u64 (uZ 2), .int .u64 (uZ 3), .slice (some ⟨y.heap.size, 0, none⟩) 1 1] 29)).heap[y.heap.size + 1]? = some (.cells #[.int .i64 0, .int .i64 2, .int .u64 (uA 0), .int .u64 (uA 1), .int .u64 (uA 2), .int .u64 (uA 3), .slice none 0 0, .int .i64 0, .int .i64 5, .int .u64 (uZ 0), .int .u64 (uZ 1), .int .u64 (uZ 2), .int .u64 (uZ 3), .slice (some ⟨y.heap.size, 0, none⟩) 1 1] 29) := by
    have := heap_alloc_last (y.alloc (.cells #[.int .i64 2, .int .u64 (uA 0), .int .u64 (uA 1), .int .u64 (uA 2), .int .u64 (uA 3), .slice none 0 0] 27)) (.cells #[.int .i64 0, .int .i64 2, .int .u64 (uA 0), .int .u64 (uA 1), .int .u64 (uA 2), .int .u64 (uA 3), .slice none 0 0, .int .i64 0, .int .i64 5, .int .u64 (uZ 0), .int .u64 (uZ 1), .int .u64 (uZ 2), .int .u64 (uZ 3), .slice (some ⟨y.heap.size, 0, none⟩) 1 1] 29)
    rwa [hs1] at this
  have h6 : ((y.alloc (.cells #[.int .i64 2, .int .u64 (uA 0), .int .u64 (uA 1), .int .u64 (uA 2), .int .u64 (uA 3), .slice none 0 0] 27)).alloc (.cells #[.int .i64 0, .int .i64 2, .int .u64 (uA 0), .int .u64 (uA 1), .int .u64 (uA 2), .int .u64 (uA 3), .slice none 0 0, .int .i64 0, .int .i64 5, .int .u64 (uZ 0), .int .u64 (uZ 1), .int .u64 (uZ 2), .int .u64 (uZ 3), .slice (some ⟨y.heap.size, 0, none⟩) 1 1] 29)).heap[y.heap.size]? = some (.cells #[.int .i64 2, .int .u64 (uA 0), .int .u64 (uA 1), .int .u64 (uA 2), .int .u64 (uA 3), .slice none 0 0] 27) := (heap_alloc_old _ _ (by simp)).trans (heap_alloc_last y _)
  have hbe : Below w.heap.size w ((y.alloc (.cells #[.int .i64 2, .int .u64 (uA 0), .int .u64 (uA 1), .int .u64 (uA 2), .int .u64 (uA 3), .slice none 0 0] 27)).alloc (.cells #[.int .i64 0, .int .i64 2, .int .u64 (uA 0), .int .u64 (uA 1), .int .u64 (uA 2), .int .u64 (uA 3), .slice none 0 0, .int .i64 0, .int .i64 5, .int .u64 (uZ 0), .int .u64 (uZ 1), .int .u64 (uZ 2), .int .u64 (uZ 3), .slice (some ⟨y.heap.size, 0, none⟩) 1 1] 29)) := (Y1.out.1.alloc Y1.out.1.size _).alloc (by have := Y1.out.1.size; simp; omega) _
  have HOF := Lib.hid (of_ex (fun b h => h) (ruv_A h6 h14))
  have HBE := Lib.hid hbe
  clear h6 h14 hs1 hbe c0 c1 c2 c3 c4 c5 Y1
  refine HOF.out.mono ?_
  rintro _ w3 ⟨⟨sq, c, rfl, hsv⟩, hb3⟩
  have hbe3 : Below w.heap.size w w3 := HBE.out.trans (hb3.mono HBE.out.size)
  have hA3 : ALV w (w3.alloc (.cells #[.int .i64 5, .slice sq 6 c] 33)) w3.heap.size sq c := ⟨hbe3.alloc hbe3.size _, heap_alloc_last w3 _, hsv.mono (fun b h => by have := h.2; simp; omega) (fun b h _ => heap_alloc_old w3 _ h.2)⟩
  have HA3 := Lib.hid hA3
  clear hsv hb3 hbe3 hA3 HOF HBE
  go_upto_region 3 with fail
  refine at_world (fun z => ALV w z w3.heap.size sq c) HA3.out fun y3 hy => ?_
  have A3 := Lib.hid hy
  have c0 : y3.cell? ⟨w3.heap.size, 0, none⟩ = some (.int .i64 5) := cell_of_row y3 w3.heap.size 0 _ 33 (0, 0) hy.2.1
  have c1 : y3.cell? ⟨w3.heap.size, 1, none⟩ = some (.slice sq 6 c) := cell_of_row y3 w3.heap.size 1 _ 33 (0, 0) hy.2.1
  have HC := Lib.hid (acc_ex (s := ⟨#[97]⟩) (l := [0, 1]) (fun b h => h) hy.2.2 (by decide) ex6_a)
  clear hy HA3
  go_wp2_with fail
  refine HC.out.mono ?_
  rintro _ w4 ⟨⟨v, rfl, hiv⟩, hb4⟩
  obtain ⟨p1, c1', rfl, -⟩ : ∃ p c, v = .slice p 2 c ∧ True := by obtain ⟨p, c, h, _⟩ := hiv; exact ⟨p, c, h, trivial⟩
  have A4 := Lib.hid (A3.out.up hb4)
  have I4 : Hid (IV (fun b => b < w4.heap.size) w4 [0, 1] (.slice p1 2 c1')) := Lib.hid (hiv.mono (fun b h => h.2) (fun b _ _ => rfl))
  clear hiv hb4 HC A3 c0 c1
  have c0 : w4.cell? ⟨w3.heap.size, 0, none⟩ = some (.int .i64 5) := cell_of_row w4 w3.heap.size 0 _ 33 (0, 0) A4.out.2.1
  have c1 : w4.cell? ⟨w3.heap.size, 1, none⟩ = some (.slice sq 6 c) := cell_of_row w4 w3.heap.size 1 _ 33 (0, 0) A4.out.2.1
  have HC := Lib.hid (acc_ex (s := ⟨#[97, 97]⟩) (l := [1]) (fun b h => h) A4.out.2.2 (by decide) ex6_aa)
  go_wp2_with fail
  refine HC.out.mono ?_
  rintro _ w5 ⟨⟨v, rfl, hiv⟩, hb5⟩
  obtain ⟨p2, c2', rfl, -⟩ : ∃ p c, v = .slice p 1 c ∧ True := by obtain ⟨p, c, h, _⟩ := hiv; exact ⟨p, c, h, trivial⟩
  have A5 := Lib.hid (A4.out.up hb5)
  have I5 := Lib.hid (I4.out.upy hb5)
  have J5 : Hid (IV (fun b => b < w5.heap.size) w5 [1] (.slice p2 1 c2')) := Lib.hid (hiv.mono (fun b h => h.2) (fun b _ _ => rfl))
  clear hiv hb5 HC A4 I4 c0 c1
  go_wp2_with (first | (refine wpList_bzero56 rfl rfl ?_; unfold nodeC) | (refine wpList_brule (k := 0) (u := uZ) (p := none) (n := 0) (c := 0) rfl rfl rfl ?_; unfold ruleC))
  have hb6 := (Below.refl w5.heap.size w5).alloc (Nat.le_refl _) (.cells #[.int .i64 0, .int .i64 0, .int .u64 (uZ 0), .int .u64 (uZ 1), .int .u64 (uZ 2), .int .u64 (uZ 3), .slice none 0 0] 29)
  have HNO := Lib.hid (of_no (u := uZ) (fun b h => h) (ruv_Z (heap_alloc_last w5 (.cells #[.int .i64 0, .int .i64 0, .int .u64 (uZ 0), .int .u64 (uZ 1), .int .u64 (uZ 2), .int .u64 (uZ 3), .slice none 0 0] 29))))
  have A6 := Lib.hid (A5.out.up hb6)
  have I6 := Lib.hid (I5.out.upy hb6)
  have J6 := Lib.hid (J5.out.upy hb6)
  clear hb6 A5 I5 J5
  refine HNO.out.mono ?_
  rintro _ w7 ⟨rfl, hb7⟩
  have hb8 := hb7.alloc hb7.size (.cells #[.int .i64 0, .slice none 0 0] 33)
  have A7 := Lib.hid (A6.out.up hb8)
  have I7 := Lib.hid (I6.out.upy hb8)
  have J7 := Lib.hid (J6.out.upy hb8)
  clear hb7 hb8 A6 I6 J6 HNO
  go_upto_region 6 with fail
  refine at_world (fun z => ALV w z w3.heap.size sq c ∧ IV (fun b => b < z.heap.size) z [0, 1] (.slice p1 2 c1') ∧ IV (fun b => b < z.heap.size) z [1] (.slice p2 1 c2')) ⟨A7.out, I7.out, J7.out⟩ fun y8 hy => ?_
  have hb9 := (Below.refl y8.heap.size y8).alloc (Nat.le_refl _) (.cells #[.int .i64 0, .int .i64 1] 3)
  have HS1 := Lib.hid (same_any (w := y8.alloc (.cells #[.int .i64 0, .int .i64 1] 3)) (a := [0, 1]) (b := [0, 1]) (pa := p1) (ca := c1') (pb := some ⟨y8.heap.size, 0, none⟩) (cb := 2) (by decide) (fun b h => h) (fun b h => h) (hy.2.1.upy hb9) (iv_lit2 0 1))
  have B8 := Lib.hid (hy.1.1.trans (hb9.mono hy.1.1.size))
  have J8 := Lib.hid (hy.2.2.upy hb9)
  clear hy hb9 A7 I7 J7
  rw [show decide (([0, 1] : List Int) = [0, 1]) = true from by decide] at HS1
  go_wp2_with fail
  refine HS1.out.mono ?_
  rintro _ w9 ⟨rfl, hb9⟩
  have B9 := Lib.hid (B8.out.trans (hb9.mono B8.out.size))
  have J9 := Lib.hid (J8.out.upy hb9)
  have hb10 := (Below.refl w9.heap.size w9).alloc (Nat.le_refl _) (.cells #[.int .i64 1] 3)
  have HS2 := Lib.hid (same_any (w := w9.alloc (.cells #[.int .i64 1] 3)) (a := [1]) (b := [1]) (pa := p2) (ca := c2') (pb := some ⟨w9.heap.size, 0, none⟩) (cb := 1) (by decide) (fun b h => h) (fun b h => h) (J9.out.upy hb10) (iv_lit1 1))
  rw [show decide (([1] : List Int) = [1]) = true from by decide] at HS2
  have B10 := Lib.hid (B9.out.trans (hb10.mono B9.out.size))
  clear hb9 hb10 HS1 B8 J8 J9 B9
  go_wp2_with fail
  refine HS2.out.mono ?_
  rintro _ w11 ⟨rfl, hb11⟩
  have B11 := Lib.hid (B10.out.trans (hb11.mono B10.out.size))
  have HCK := Lib.hid (check_any (D := fun b => False) (w := w11) (st := 0) (ss := []) (q := none) (c := 0) (fun b h => h.elim) ⟨none, 0, rfl, fun h => absurd rfl h⟩ (by simp) (by simp))
  rw [show chkN 0 [] = 2 from by decide] at HCK
  unfold nV at HCK
  clear hb11 HS2 B10
  go_wp2_with fail
  refine HCK.out.mono ?_
  rintro _ w12 ⟨rfl, hb12⟩
  have B12 := Lib.hid (B11.out.trans (hb12.mono B11.out.size))
  clear hb12 HCK B11
  go_wp2
  go_ret
  exact ⟨rfl, B12.out⟩
end Go.Proofs.YthglciccejholaaDoor
