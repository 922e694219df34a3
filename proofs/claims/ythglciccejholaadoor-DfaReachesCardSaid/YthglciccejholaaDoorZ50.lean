/- Texts of package regs, one behind the other. -/
import Derived.Test.YthglciccejholaaDoorProg
import Derived.Test.YthglciccejholaaDoorZ49
import Derived.Test.YthglciccejholaaDoorZ43
import Derived.Test.YthglciccejholaaDoorZ48
import Derived.Test.YthglciccejholaaDoorZ9
import Derived.RangeFuncNested
import Derived.RangeFuncBound
import Derived.RangeFuncCalls
import Derived.RangeFuncLeaves
import Derived.RangeFuncBox
import Derived.Shelf.Abstract
import Derived.Shelf.RegionOpen
import Derived.WalkKit
import Derived.OwnWalkIn
import Derived.TacticsInMore
import Derived.LoopNIn
import Derived.LoopIn
import Derived.Below
import Derived.Lib.Hide
import Derived.Lib.Walk
import Derived.Test.YthglciccejholaaDoorZ38
section
/- Package dfa. -/
namespace Go.Proofs.YthglciccejholaaDoor
set_option linter.unusedSimpArgs false
set_option linter.unusedVariables false
set_option maxRecDepth 100000
open Go.RowKit Go.Shelf
/- alive. -/
open Go.Maps
theorem zs_A {zs : List (List Int × Nat)} (h : zs.map (fun z => z.1) = rowsA) : ∃ r0 r1 r2 r3, zs = [([-1, 1, 1, 2], r0), ([-1, 1, 1, 1], r1), ([-1, 1, 3, 1], r2), ([-1, 1, 1, 1], r3)] := by
  match zs, h with
  | [(a, r0), (b, r1), (c, r2), (d, r3)], h =>
    unfold rowsA at h
    simp only [List.map_cons, List.map_nil, List.cons.injEq, and_true] at h
    obtain ⟨rfl, rfl, rfl, rfl⟩ := h
    exact ⟨r0, r1, r2, r3, rfl⟩
theorem iv_lit4 {z : World} (a b c d : Int) : IV (fun k => k < (z.alloc (.cells #[.int .i64 a, .int .i64 b, .int .i64 c, .int .i64 d] 3)).heap.size) (z.alloc (.cells #[.int .i64 a, .int .i64 b, .int .i64 c, .int .i64 d] 3)) [a, b, c, d] (.slice (some ⟨z.heap.size, 0, none⟩) 4 4) :=
  ⟨_, 4, rfl, fun _ => ⟨z.heap.size, 0, rfl, by simp, fun i hi => by
    rw [cell_of_row _ z.heap.size _ _ 3 (0, 0) (heap_alloc_last z _)]
    match i, hi with
    | 0, _ => rfl
    | 1, _ => rfl
    | 2, _ => rfl
    | 3, _ => rfl⟩⟩
theorem wpList_build48g {ops : Array Oper} {rest : List Oper} {o : Oper} {a : Act} {w : World} {Q : Exit → Act → World → Prop} (hw : Region.wanted o (yielded ops a.tmps) = true) (ho : o.op = .build 48 #[])
    (h : wpList Tryd.prog ops Q rest (a.put o.dst (.agg zero26)) w) : wpList Tryd.prog ops Q (o :: rest) a w := by
  have e : ((#[] : Array (Nat × Operand)).map fun (i, x) => (i, a.eval x)).toList = [] := by simp
  have e2 : Tryd.prog.built 48 [] = some zero26 := by rw [built48]; unfold Instr.fill; rfl
  refine BigFrame.wpList_want hw fun K hK => wp_build 48 _ ho ?_ (hK _ _ ?_)
  · rw [e, e2, Option.isSome_some]
  · rw [e, e2, Option.getD_some]; exact h
theorem okW_u (lo hi : Nat) : okW (uR lo hi) := fun i => by
  have := W_lt (fun b => decide (lo ≤ b) && decide (b ≤ hi) && decide (b < 256)) i
  unfold uR
  constructor <;> omega
theorem okW_A : ∀ s ∈ ssA, okW s.u := by
  intro s hs
  simp only [ssA, List.mem_cons, List.mem_nil_iff, or_false] at hs
  rcases hs with rfl | rfl | rfl | rfl | rfl | rfl
  · exact fun i => (by show (0 : Int) ≤ 0 ∧ (0 : Int) ≤ 18446744073709551615; decide)
  · exact okW_u _ _
  · exact okW_u _ _
  · exact fun i => (by show (0 : Int) ≤ 0 ∧ (0 : Int) ≤ 18446744073709551615; decide)
  · exact okW_u _ _
  · exact fun i => (by show (0 : Int) ≤ 0 ∧ (0 : Int) ≤ 18446744073709551615; decide)
theorem fr_A : ∀ s ∈ ssA, s.fr.length ≤ 9223372036854775806 := by
  intro s hs
  simp only [ssA, List.mem_cons, List.mem_nil_iff, or_false] at hs
  rcases hs with rfl | rfl | rfl | rfl | rfl | rfl <;> decide
set_option maxHeartbeats 32000000 in
theorem alive7_any {w : World} (h0 : 0 < w.heap.size) (hT : R5.Tb w) : Calls Tryd.prog 19 #[] w fun e w' => e = .returned (.bool true) ∧ Below w.heap.size w w' := by
  have hz := (zero_of_info info26r).1
  have HT0 := Lib.hid (And.intro h0 hT)
  obtain ⟨⟨d, e⟩, hR⟩ : ∃ R, ofD 0 ssA = R := ⟨_, rfl⟩
  have hA := ofD_A
  have hlen := ofD_len 0 ssA
  rw [hR] at hA hlen
  obtain ⟨he, hA⟩ := hA
  simp only at he hA
  subst he
  have HEX := Lib.hid (isA_ex hA)
  have HCK := Lib.hid (isA_chk hA)
  obtain ⟨st, cl, nx, rl⟩ := d
  obtain ⟨h1, h2, h3, h4⟩ := hA
  simp only at h1 h2 h3 h4
  subst h1 h2 h3
  have HCL := Lib.hid h4
  have hc2 : cl 102 = 2 := by rw [h4 102 (by decide)]; exact cqA_at.2.2.1
  have HC2 := Lib.hid hc2
  have HLN := Lib.hid hlen
  have HR := Lib.hid hR
  clear h4 hc2 hlen hR h0 hT
  go_enter Tryd.func19, Tryd.ntmps19
  go_wp2_with fail
  refine known_any.mono ?_
  rintro _ w1 ⟨⟨q, c, rfl, hsv⟩, hb⟩
  have HOF : Hid (Calls Tryd.prog 25 #[nV 0 q 6 c] w1 (OfP w1.heap.size w1 (⟨0, cl, rowsA, [-1, 1, 1, 0]⟩, 0) [])) := Lib.hid (by
    rw [← HR.out]
    exact dof_any (w := w1) (st := 0) (ss := ssA) (fun b h => h) hsv fr_A (by decide) okW_A (by have := hb.size; have := HT0.out.1; omega) (HT0.out.2.mono (hb.block 0 HT0.out.1)))
  have HB1 := Lib.hid hb
  clear hb hsv HR
  go_wp2_with fail
  refine HOF.out.mono ?_
  rintro _ w2 ⟨ds, p, c2, q2, f2, zs, rfl, hdc, hz7, hs⟩
  obtain ⟨r0, r1, r2, r3, rfl⟩ := zs_A hz7
  have HDC := Lib.hid hdc
  obtain ⟨b1, hb1⟩ : ∃ b, w2.heap.size = b := ⟨_, rfl⟩
  have S1 : Hid (Sep w1.heap.size w1 (w2.alloc (.cells zero26 48)) (.box b1 (.cells zero26 48) :: .row (.slice p 4 c2) 39 1 4 [zV ([-1, 1, 1, 2], r0), zV ([-1, 1, 1, 1], r1), zV ([-1, 1, 3, 1], r2), zV ([-1, 1, 1, 1], r3)] :: .row (.slice q2 4 f2) 3 1 4 (zi [-1, 1, 1, 0]) :: ([zI ([-1, 1, 1, 2], r0), zI ([-1, 1, 1, 1], r1), zI ([-1, 1, 3, 1], r2), zI ([-1, 1, 1, 1], r3)] ++ []))) := Lib.hid (hs.allocAt hb1 _)
  have HBX := Lib.hid S1.out.at.2
  clear hs hz7 hdc HOF
  go_upto_region 2 with (refine wpList_store_row rfl 48 (.tmp 1) (.tmp 12) rfl b1 ds rfl rfl 48 _ HBX.out (by rw [info26, HDC.out.sz]) (by rw [zero26_size, HDC.out.sz]) (by first | exact Array.all_eq_true_iff_forall_mem.2 HDC.out.one | exact Array.all_eq_true.2 (fun i hi => HDC.out.one _ (Array.getElem_mem hi))) ?_)
  refine at_world (fun v => Sep w1.heap.size w1 v (.box b1 (.cells ds 48) :: .row (.slice p 4 c2) 39 1 4 [zV ([-1, 1, 1, 2], r0), zV ([-1, 1, 1, 1], r1), zV ([-1, 1, 3, 1], r2), zV ([-1, 1, 1, 1], r3)] :: .row (.slice q2 4 f2) 3 1 4 (zi [-1, 1, 1, 0]) :: ([zI ([-1, 1, 1, 2], r0), zI ([-1, 1, 1, 1], r1), zI ([-1, 1, 3, 1], r2), zI ([-1, 1, 1, 1], r3)] ++ []))) (S1.out.putRow ds) fun y hy => ?_
  have S2 := Lib.hid hy
  clear S1 HBX hb1 hy
  have HDM : Hid (∀ z : World, Below y.heap.size y z → DM (fun b => b < z.heap.size) z ⟨0, cl, rowsA, [-1, 1, 1, 0]⟩ p q2 c2 f2) := Lib.hid (fun z hz => dm_of (zs := [([-1, 1, 1, 2], r0), ([-1, 1, 1, 1], r1), ([-1, 1, 3, 1], r2), ([-1, 1, 1, 1], r3)]) rfl (S2.out.up hz).tl (fun r hr => by have := HLN.out.1 r hr; omega) (by show 4 ≤ 9223372036854775806; decide) (by show 4 ≤ 9223372036854775806; decide))
  have HBY : Hid (∀ z : World, Below y.heap.size y z → z.heap[b1]? = some (.cells ds 48 (0, 0))) := Lib.hid fun z hz => (hz.block b1 (Array.getElem?_eq_some_iff.1 S2.out.at.2).1).trans S2.out.at.2
  have HYW := Lib.hid S2.out.bel
  have hrow : y.ownsRow w1.heap.size 39 1 (.slice p 4 c2) 4 [zV ([-1, 1, 1, 2], r0), zV ([-1, 1, 1, 1], r1), zV ([-1, 1, 3, 1], r2), zV ([-1, 1, 1, 1], r3)] := S2.out.tl.at
  have hp : ∃ g, p = some ⟨g, 0, none⟩ ∧ y.cell? ⟨g, 2, none⟩ = some (.slice (some ⟨r2, 0, none⟩) 4 4) := by
    rcases hrow.2 with ⟨hv, h0⟩ | ⟨g, cap, cur, hv, hb, hg, hc, hc2, hc3, hc4⟩
    · cases h0
    · injection hv with e1 e2 e3
      refine ⟨g, e1, ?_⟩
      rw [cell_of_row y g _ cur 39 (0, 0) hg]
      have h1 : ([zV ([-1, 1, 1, 2], r0), zV ([-1, 1, 1, 1], r1), zV ([-1, 1, 3, 1], r2), zV ([-1, 1, 1, 1], r3)] : List Value)[2]? = some (.slice (some ⟨r2, 0, none⟩) 4 4) := rfl
      rw [← hc4, List.getElem?_take_of_lt (by omega), Array.getElem?_toList] at h1
      exact h1
  obtain ⟨g, rfl, hg2⟩ := hp
  have HG2 := Lib.hid hg2
  have HIR : Hid (∀ z : World, Below y.heap.size y z → IV (fun b => b < z.heap.size) z [-1, 1, 1, 0] (.slice q2 4 f2)) := Lib.hid fun z hz => (HDM.out z hz).rl
  have HI2 : Hid (∀ z : World, Below y.heap.size y z → IV (fun b => b < z.heap.size) z [-1, 1, 3, 1] (.slice (some ⟨r2, 0, none⟩) 4 4)) := Lib.hid fun z hz => by
    have hbox := ((S2.out.up hz).li (zI ([-1, 1, 3, 1], r2)) (by simp)).2
    refine ⟨_, _, rfl, fun _ => ⟨r2, 0, rfl, (Array.getElem?_eq_some_iff.1 hbox).1, fun i hi => ?_⟩⟩
    rw [Nat.zero_add, cell_of_row z r2 i _ 3 (0, 0) hbox]
    match i, hi with
    | 0, _ => rfl
    | 1, _ => rfl
    | 2, _ => rfl
    | 3, _ => rfl
  have hnx : ds[257]? = some (.slice (some ⟨g, 0, none⟩) 4 c2) := HDC.out.nx
  have hrl : ds[258]? = some (.slice q2 4 f2) := HDC.out.rl
  have hcc : ds[103]? = some (.int .u8 2) := by
    have h := (HDC.out.cl 102 (by decide)).1
    simp only [HC2.out] at h
    exact h
  have k257 : ∀ z : World, z.heap[b1]? = some (.cells ds 48 (0, 0)) → z.cell? ⟨b1, 257, none⟩ = some (.slice (some ⟨g, 0, none⟩) 4 c2) := fun z hz => (cell_of_row z b1 257 _ 48 (0, 0) hz).trans hnx
  have k258 : ∀ z : World, z.heap[b1]? = some (.cells ds 48 (0, 0)) → z.cell? ⟨b1, 258, none⟩ = some (.slice q2 4 f2) := fun z hz => (cell_of_row z b1 258 _ 48 (0, 0) hz).trans hrl
  have k103 : ∀ z : World, z.heap[b1]? = some (.cells ds 48 (0, 0)) → z.cell? ⟨b1, 103, none⟩ = some (.int .u8 2) := fun z hz => (cell_of_row z b1 103 _ 48 (0, 0) hz).trans hcc
  have K257 := Lib.hid k257
  have K258 := Lib.hid k258
  have K103 := Lib.hid k103
  have HYY := Lib.hid (Below.refl y.heap.size y)
  clear hrow hg2 hnx hrl hcc k257 k258 k103 S2
  have c1 := K257.out y (HBY.out y HYY.out)
  have c2' := K258.out y (HBY.out y HYY.out)
  have HBA := Lib.hid ((Below.refl y.heap.size y).alloc (Nat.le_refl _) (.cells #[.int .i64 (-1), .int .i64 1, .int .i64 1, .int .i64 0] 3))
  have HS1 := Lib.hid (same_any (w := y.alloc (.cells #[.int .i64 (-1), .int .i64 1, .int .i64 1, .int .i64 0] 3)) (a := [-1, 1, 1, 0]) (b := [-1, 1, 1, 0]) (pa := q2) (ca := f2) (pb := some ⟨y.heap.size, 0, none⟩) (cb := 4) (by decide) (fun b h => h) (fun b h => h) (HIR.out _ HBA.out) (iv_lit4 _ _ _ _))
  rw [show decide (([-1, 1, 1, 0] : List Int) = [-1, 1, 1, 0]) = true from by decide] at HS1
  go_wp2_with fail
  refine HS1.out.mono ?_
  rintro _ w3 ⟨rfl, hb⟩
  have HB3 := Lib.hid (HBA.out.trans (hb.mono HBA.out.size))
  clear hb HS1 HBA c1 c2'
  have c1 := K257.out w3 (HBY.out w3 HB3.out)
  have c3 : w3.cell? ⟨g, 2, none⟩ = some (.slice (some ⟨r2, 0, none⟩) 4 4) := (cell_same (HB3.out.block g (blk_lt HG2.out)) _).trans HG2.out
  have HBA := Lib.hid (HB3.out.alloc HB3.out.size (.cells #[.int .i64 (-1), .int .i64 1, .int .i64 3, .int .i64 1] 3))
  have HS2 := Lib.hid (same_any (w := w3.alloc (.cells #[.int .i64 (-1), .int .i64 1, .int .i64 3, .int .i64 1] 3)) (a := [-1, 1, 3, 1]) (b := [-1, 1, 3, 1]) (pa := some ⟨r2, 0, none⟩) (ca := 4) (pb := some ⟨w3.heap.size, 0, none⟩) (cb := 4) (by decide) (fun b h => h) (fun b h => h) (HI2.out _ HBA.out) (iv_lit4 _ _ _ _))
  rw [show decide (([-1, 1, 3, 1] : List Int) = [-1, 1, 3, 1]) = true from by decide] at HS2
  go_wp2_with fail
  refine HS2.out.mono ?_
  rintro _ w4 ⟨rfl, hb⟩
  have HB4 := Lib.hid (HBA.out.trans (hb.mono HBA.out.size))
  clear hb HS2 HBA HB3 c1 c3
  have c4 := K103.out w4 (HBY.out w4 HB4.out)
  have HRU := Lib.hid (fun (z : World) (hz : Below y.heap.size y z) (t : ByteArray) (ht : t.size ≤ 9223372036854775806) => ruleR_any (w := z) t HDC.out (HDM.out z hz) ht)
  have HRN := Lib.hid (fun (z : World) (hz : Below y.heap.size y z) (t : ByteArray) (ht : t.size ≤ 9223372036854775806) => runR_any (w := z) 2 t HDC.out (HDM.out z hz) ht)
  have C1 := Lib.hid (fun (z : World) (hz : Below y.heap.size y z) => HRU.out z hz ⟨#[105, 102]⟩ (by decide))
  have C2 := Lib.hid (fun (z : World) (hz : Below y.heap.size y z) => HRU.out z hz ⟨#[55]⟩ (by decide))
  have C3 := Lib.hid (fun (z : World) (hz : Below y.heap.size y z) => HRN.out z hz ⟨#[102]⟩ (by decide))
  rw [show bl ⟨#[105, 102]⟩ = [105, 102] from rfl, HEX.out.1] at C1
  rw [show bl ⟨#[55]⟩ = [55] from rfl, HEX.out.2.1] at C2
  rw [show bl ⟨#[102]⟩ = [102] from rfl, HEX.out.2.2] at C3
  unfold tup at C1 C2 C3
  clear HRU HRN HEX
  have HX4 : Hid (BX w4 b1 ds) := Lib.hid (HBY.out w4 HB4.out)
  go_wp2_with (refine wpList_load_D rfl (.tmp 1) rfl b1 ds rfl HX4.out HDC.out.sz ?_)
  refine (C1.out w4 HB4.out).mono ?_
  rintro _ w5 ⟨rfl, hb⟩
  have HB5 := Lib.hid (HB4.out.trans (hb.mono HB4.out.size))
  have HX5 : Hid (BX w5 b1 ds) := Lib.hid (HBY.out w5 HB5.out)
  clear hb C1 HB4 HX4 c4
  go_wp2_with (refine wpList_load_D rfl (.tmp 1) rfl b1 ds rfl HX5.out HDC.out.sz ?_)
  refine (C2.out w5 HB5.out).mono ?_
  rintro _ w6 ⟨rfl, hb⟩
  have HB6 := Lib.hid (HB5.out.trans (hb.mono HB5.out.size))
  have HX6 : Hid (BX w6 b1 ds) := Lib.hid (HBY.out w6 HB6.out)
  clear hb C2 HB5 HX5
  go_wp2_with (refine wpList_load_D rfl (.tmp 1) rfl b1 ds rfl HX6.out HDC.out.sz ?_)
  refine (C3.out w6 HB6.out).mono ?_
  rintro _ w7 ⟨rfl, hb⟩
  have HB7 := Lib.hid (HB6.out.trans (hb.mono HB6.out.size))
  clear hb C3 HB6 HX6
  have HCZ := Lib.hid (d7_check_any (D := fun b => b < w7.heap.size) (w := w7) (d := dz) (ds := zero26) (p := none) (q := none) (c := 0) (f := 0) dz_dc ⟨⟨none, 0, rfl, fun h => absurd rfl h⟩, ⟨none, 0, rfl, fun h => absurd rfl h⟩, fun b h => h, by show 0 ≤ 9223372036854775806; decide, by show 0 ≤ 9223372036854775806; decide, fun r hr => by cases hr⟩)
  rw [show chkD dz = 2 from by decide] at HCZ
  go_wp2_with (refine wpList_build48g rfl rfl ?_)
  refine HCZ.out.mono ?_
  rintro _ w8 ⟨rfl, hb⟩
  have HB8 := Lib.hid (HB7.out.trans (hb.mono HB7.out.size))
  clear hb HCZ HB7
  go_wp2_with fail
  go_ret
  exact ⟨rfl, (HB1.out.trans (HYW.out.mono HB1.out.size)).trans (HB8.out.mono (HB1.out.trans (HYW.out.mono HB1.out.size)).size)⟩
end Go.Proofs.YthglciccejholaaDoor
end
section
/- Package dfa. -/
namespace Go.Proofs.YthglciccejholaaDoor
set_option linter.unusedSimpArgs false
set_option linter.unusedVariables false
set_option maxRecDepth 100000
open Go.RowKit Go.Shelf
/- DfaJoins. -/
open Go.Maps
theorem bl_app (a b : ByteArray) : bl (a ++ b) = bl a ++ bl b := by
  unfold bl
  rw [← List.map_append, ByteArray.data_append, Array.toList_append]
set_option maxHeartbeats 32000000 in
theorem joins_any {D : Nat → Prop} {w : World} {d : Df} {ds : Array Value} {p q : Option Addr} {c f : Nat} (a b : ByteArray) (ha : a.size ≤ 9223372036854775806) (hb : b.size ≤ 9223372036854775806) (hd : DC d ds p q c f) (hm : DM D w d p q c f) (h0 : 0 < w.heap.size) (hT : R5.Tb w) :
    Calls Tryd.prog 10 #[.agg ds, .string a, .string b] w fun e w' => e = .returned (.bool true) ∧ Below w.heap.size w w' := by
  have HM := Lib.hid (fun (z : World) (hz : Below w.heap.size w z) => hm.up hz)
  have HAL := Lib.hid (fun (z : World) (hz : Below w.heap.size w z) => alive7_any (w := z) (by have := hz.size; omega) (hT.mono (hz.block 0 h0)))
  have HD := Lib.hid hd
  have HSZ := Lib.hid hd.sz
  have HST := Lib.hid hd.st
  obtain ⟨b3, hb3⟩ : ∃ b, w.heap.size = b := ⟨_, rfl⟩
  have S0 := Lib.hid ((Sep.start w).allocAt hb3 (.cells ds 48))
  have HBIG := Lib.hid (fun (z : World) (hz : Below w.heap.size w z) => big_any (w := z) 20000 (by omega) hd (HM.out z hz))
  clear hd hm h0 hT
  go_enter Tryd.func10, Tryd.ntmps10
  go_upto_region 1 with fail
  refine at_world (fun v => Sep w.heap.size w v [.box b3 (.cells ds 48)]) S0.out fun y hy => ?_
  have S1 := Lib.hid hy
  have HB1 : Hid (BX y b3 ds) := Lib.hid hy.at.2
  clear S0 hy hb3
  by_cases h1 : 3000 < a.size
  · have h1I : (3000 : Int) < (a.size : Int) := by omega
    go_wp2_with fail
    go_ret
    exact ⟨rfl, S1.out.bel⟩
  have h1I : ¬ (3000 : Int) < (a.size : Int) := by omega
  by_cases h2 : 3000 < b.size
  · have h2I : (3000 : Int) < (b.size : Int) := by omega
    go_wp2_with fail
    go_ret
    exact ⟨rfl, S1.out.bel⟩
  have h2I : ¬ (3000 : Int) < (b.size : Int) := by omega
  go_wp2_with (refine wpList_load_Dg _ rfl b3 ds rfl HB1.out HSZ.out rfl ?_)
  refine (HBIG.out y S1.out.bel).mono ?_
  rintro _ w1 ⟨rfl, hbb⟩
  have S2 := Lib.hid (S1.out.up hbb)
  have HB2 : Hid (BX w1 b3 ds) := Lib.hid S2.out.at.2
  clear hbb S1 HB1 HBIG
  obtain ⟨bg, hbg⟩ : ∃ bg, bigD 20000 d = bg := ⟨_, rfl⟩
  rw [hbg]
  clear hbg
  cases bg with
  | true =>
    go_wp2_with fail
    go_ret
    exact ⟨rfl, S2.out.bel⟩
  | false =>
    have HRN := Lib.hid (fun (z : World) (hz : Below w.heap.size w z) (s0 : Int) (t : ByteArray) (ht : t.size ≤ 9223372036854775806) => runR_any (w := z) s0 t HD.out (HM.out z hz) ht)
    have hab : (a ++ b).size = a.size + b.size := by simp
    have C1 := Lib.hid (fun (z : World) (hz : Below w.heap.size w z) => HRN.out z hz d.st (a ++ b) (by omega))
    have C2 := Lib.hid (fun (z : World) (hz : Below w.heap.size w z) => HRN.out z hz d.st a ha)
    have C3 := Lib.hid (fun (t : Int) (z : World) (hz : Below w.heap.size w z) => HRN.out z hz t b hb)
    rw [bl_app] at C1
    clear HRN hab
    have hnn : ¬ 9223372036854775807 < a.size + b.size := by omega
    have hnn2 : ¬ 9223372036854775807 < a.size + b.size := hnn
    have k0 : ∀ z : World, BX z b3 ds → z.cell? ⟨b3, 0, none⟩ = some (.int .i64 d.st) := fun z hz => (hz.cell 0).trans HST.out
    have K0 := Lib.hid k0
    clear k0
    by_cases hck : chkD d ≠ 0
    · have e1 : runF d d.st (bl a ++ bl b) = (0, chkD d) := by unfold runF; rw [if_pos hck]
      have e2 : runF d d.st (bl a) = (0, chkD d) := by unfold runF; rw [if_pos hck]
      rw [e1] at C1
      rw [e2] at C2
      unfold tup at C1 C2
      obtain ⟨e, he⟩ : ∃ e, chkD d = e := ⟨_, rfl⟩
      rw [he] at C1 C2 hck
      have hne : (e != 0) = true := by simpa using hck
      have hee : (e == e) = true := by simp
      clear e1 e2 he hck C3
      have c0 := K0.out w1 HB2.out
      go_wp2_with (refine wpList_load_D rfl (.tmp 3) rfl b3 ds rfl HB2.out HSZ.out ?_)
      refine (C1.out w1 S2.out.bel).mono ?_
      rintro _ w2 ⟨rfl, hbb⟩
      have S3 := Lib.hid (S2.out.up hbb)
      have HB3 : Hid (BX w2 b3 ds) := Lib.hid S3.out.at.2
      clear hbb S2 HB2 C1 c0
      have c0 := K0.out w2 HB3.out
      go_wp2_with (refine wpList_load_D rfl (.tmp 3) rfl b3 ds rfl HB3.out HSZ.out ?_)
      refine (C2.out w2 S3.out.bel).mono ?_
      rintro _ w3 ⟨rfl, hbb⟩
      have S4 := Lib.hid (S3.out.up hbb)
      clear hbb S3 HB3 C2 c0
      go_wp2_with fail
      refine (HAL.out w3 S4.out.bel).mono ?_
      rintro _ w4 ⟨rfl, hbb⟩
      have S5 := Lib.hid (S4.out.up hbb)
      clear hbb S4
      go_wp2_with fail
      go_ret
      exact ⟨rfl, S5.out.bel⟩
    · have hck0 : chkD d = 0 := by omega
      have hmay := chk_may hck0
      have hst : 0 ≤ d.st ∧ d.st < (d.nx.length : Int) := ⟨hmay.s0, hmay.s1⟩
      have hw1 := walkD_lt hmay (bl a) d.st (by omega) (by omega)
      have e1 : runF d d.st (bl a ++ bl b) = (walkD d (walkD d d.st (bl a)) (bl b), 0) := by unfold runF; rw [if_neg hck, if_pos hst, walkD_app]
      have e2 : runF d d.st (bl a) = (walkD d d.st (bl a), 0) := by unfold runF; rw [if_neg hck, if_pos hst]
      rw [e1] at C1
      rw [e2] at C2
      obtain ⟨t, ht⟩ : ∃ t, walkD d d.st (bl a) = t := ⟨_, rfl⟩
      rw [ht] at C1 C2 hw1
      have HC := Lib.hid (And.intro hck hw1)
      obtain ⟨s, hs⟩ : ∃ s, walkD d t (bl b) = s := ⟨_, rfl⟩
      rw [hs] at C1
      have HS := Lib.hid hs
      unfold tup at C1 C2
      simp only at C1 C2
      clear e1 e2 ht hs hst hmay hck0 hck hw1
      have c0 := K0.out w1 HB2.out
      go_wp2_with (refine wpList_load_D rfl (.tmp 3) rfl b3 ds rfl HB2.out HSZ.out ?_)
      refine (C1.out w1 S2.out.bel).mono ?_
      rintro _ w2 ⟨rfl, hbb⟩
      have S3 := Lib.hid (S2.out.up hbb)
      have HB3 : Hid (BX w2 b3 ds) := Lib.hid S3.out.at.2
      clear hbb S2 HB2 C1 c0
      have c0 := K0.out w2 HB3.out
      go_wp2_with (refine wpList_load_D rfl (.tmp 3) rfl b3 ds rfl HB3.out HSZ.out ?_)
      refine (C2.out w2 S3.out.bel).mono ?_
      rintro _ w3 ⟨rfl, hbb⟩
      have S4 := Lib.hid (S3.out.up hbb)
      have HB4 : Hid (BX w3 b3 ds) := Lib.hid S4.out.at.2
      clear hbb S3 HB3 C2 c0
      by_cases htn : t < 0
      · obtain rfl : t = -1 := by have := HC.out.2.2; omega
        have hs1 : s = -1 := by rw [← HS.out]; exact walkD_neg d _
        subst hs1
        go_wp2_with fail
        refine (HAL.out w3 S4.out.bel).mono ?_
        rintro _ w4 ⟨rfl, hbb⟩
        have S5 := Lib.hid (S4.out.up hbb)
        clear hbb S4
        go_wp2_with fail
        go_ret
        exact ⟨rfl, S5.out.bel⟩
      · have e3 : runF d t (bl b) = (s, 0) := by unfold runF; rw [if_neg HC.out.1, if_pos ⟨by omega, HC.out.2.1⟩, HS.out]
        have C4 := Lib.hid (C3.out t)
        rw [e3] at C4
        unfold tup at C4
        simp only at C4
        have hss : (s == s) = true := by simp
        clear C3 e3
        go_wp2_with (refine wpList_load_D rfl (.tmp 3) rfl b3 ds rfl HB4.out HSZ.out ?_)
        refine (C4.out w3 S4.out.bel).mono ?_
        rintro _ w4 ⟨rfl, hbb⟩
        have S5 := Lib.hid (S4.out.up hbb)
        clear hbb S4 HB4 C4
        go_wp2_with fail
        refine (HAL.out w4 S5.out.bel).mono ?_
        rintro _ w5 ⟨rfl, hbb⟩
        have S6 := Lib.hid (S5.out.up hbb)
        clear hbb S5
        go_wp2_with fail
        go_ret
        exact ⟨rfl, S6.out.bel⟩
end Go.Proofs.YthglciccejholaaDoor
end
