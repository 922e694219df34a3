/- Texts of package regs, one behind the other. -/
import Derived.Test.YthglciccejholaaDoorProg
import Derived.Test.YthglciccejholaaDoorV38
import Derived.Test.YthglciccejholaaDoorV34
import Derived.Test.YthglciccejholaaDoorV5
import Derived.RangeFuncNested
import Derived.RangeFuncBound
import Derived.RangeFuncCalls
import Derived.RangeFuncLeaves
import Derived.RangeFuncBox
import Derived.Shelf.Abstract
import Derived.Shelf.RegionOpen
import Derived.WalkKit
import Derived.OwnWalkIn
import Derived.TacticsInMore
import Derived.LoopNIn
import Derived.LoopIn
import Derived.Below
import Derived.Lib.Hide
import Derived.Lib.Walk
import Derived.Test.YthglciccejholaaDoorV4
import Derived.Test.YthglciccejholaaDoorV1
import Derived.Test.YthglciccejholaaDoorV39
import Derived.Test.YthglciccejholaaDoorRG42
import Derived.WalkLawsBesides
import Derived.WalkSpells
import Derived.Outline
import Derived.RegionTactic
import Derived.LoopTactic
import Derived.IntWalk
import Derived.Deep.QuietTactic
import Derived.BigQuiet
section
/- Package dfa. -/
namespace Go.Proofs.YthglciccejholaaDoor
set_option linter.unusedSimpArgs false
set_option linter.unusedVariables false
set_option maxRecDepth 100000
open Go.RowKit Go.Shelf
/- alive. -/
open Go.Maps
theorem zs_A {zs : List (List Int × Nat)} (h : zs.map (fun z => z.1) = rowsA) : ∃ r0 r1 r2 r3, zs = [([-1, 1, 1, 2], r0), ([-1, 1, 1, 1], r1), ([-1, 1, 3, 1], r2), ([-1, 1, 1, 1], r3)] := by
  match zs, h with
  | [(a, r0), (b, r1), (c, r2), (d, r3)], h =>
    unfold rowsA at h
    simp only [List.map_cons, List.map_nil, List.cons.injEq, and_true] at h
    obtain ⟨rfl, rfl, rfl, rfl⟩ := h
    exact ⟨r0, r1, r2, r3, rfl⟩
theorem iv_lit4 {z : World} (a b c d : Int) : IV (fun k => k < (z.alloc (.cells #[.int .i64 a, .int .i64 b, .int .i64 c, .int .i64 d] 3)).heap.size) (z.alloc (.cells #[.int .i64 a, .int .i64 b, .int .i64 c, .int .i64 d] 3)) [a, b, c, d] (.slice (some ⟨z.heap.size, 0, none⟩) 4 4) :=
  ⟨_, 4, rfl, fun _ => ⟨z.heap.size, 0, rfl, by simp, fun i hi => by
    rw [cell_of_row _ z.heap.size _ _ 3 (0, 0) (heap_alloc_last z _)]
    match i, hi with
    | 0, _ => rfl
    | 1, _ => rfl
    | 2, _ => rfl
    | 3, _ => rfl⟩⟩
theorem wpList_build48g {ops : Array Oper} {rest : List Oper} {o : Oper} {a : Act} {w : World} {Q : Exit → Act → World → Prop} (hw : Region.wanted o (yielded ops a.tmps) = true) (ho : o.op = .build 48 #[])
    (h : wpList Tryd.prog ops Q rest (a.put o.dst (.agg zero26)) w) : wpList Tryd.prog ops Q (o :: rest) a w := by
  have e : ((#[] : Array (Nat × Operand)).map fun (i, x) => (i, a.eval x)).toList = [] := by simp
  have e2 : Tryd.prog.built 48 [] = some zero26 := by rw [built48]; unfold Instr.fill; rfl
  refine BigFrame.wpList_want hw fun K hK => wp_build 48 _ ho ?_ (hK _ _ ?_)
  · rw [e, e2, Option.isSome_some]
  · rw [e, e2, Option.getD_some]; exact h
theorem okW_u (lo hi : Nat) : okW (uR lo hi) := fun i => by
  have := W_lt (fun b => decide (lo ≤ b) && decide (b ≤ hi) && decide (b < 256)) i
  unfold uR
  constructor <;> omega
theorem okW_A : ∀ s ∈ ssA, okW s.u := by
  intro s hs
  simp only [ssA, List.mem_cons, List.mem_nil_iff, or_false] at hs
  rcases hs with rfl | rfl | rfl | rfl | rfl | rfl
  · exact fun i => (by show (0 : Int) ≤ 0 ∧ (0 : Int) ≤ 18446744073709551615; decide)
  · exact okW_u _ _
  · exact okW_u _ _
  · exact fun i => (by show (0 : Int) ≤ 0 ∧ (0 : Int) ≤ 18446744073709551615; decide)
  · exact okW_u _ _
  · exact fun i => (by show (0 : Int) ≤ 0 ∧ (0 : Int) ≤ 18446744073709551615; decide)
theorem fr_A : ∀ s ∈ ssA, s.fr.length ≤ 9223372036854775806 := by
  intro s hs
  simp only [ssA, List.mem_cons, List.mem_nil_iff, or_false] at hs
  rcases hs with rfl | rfl | rfl | rfl | rfl | rfl <;> decide
set_option maxHeartbeats 32000000 in
theorem alive7_any {w : World} (h0 : 0 < w.heap.size) (hT : R5.Tb w) : Calls Tryd.prog 19 #[] w fun e w' => e = .returned (.bool true) ∧ Below w.heap.size w w' := by
  have hz := (zero_of_info info26r).1
  have HT0 := Lib.hid (And.intro h0 hT)
  obtain ⟨⟨d, e⟩, hR⟩ : ∃ R, ofD 0 ssA = R := ⟨_, rfl⟩
  have hA := ofD_A
  have hlen := ofD_len 0 ssA
  rw [hR] at hA hlen
  obtain ⟨he, hA⟩ := hA
  simp only at he hA
  subst he
  have HEX := Lib.hid (isA_ex hA)
  have HCK := Lib.hid (isA_chk hA)
  obtain ⟨st, cl, nx, rl⟩ := d
  obtain ⟨h1, h2, h3, h4⟩ := hA
  simp only at h1 h2 h3 h4
  subst h1 h2 h3
  have HCL := Lib.hid h4
  have hc2 : cl 102 = 2 := by rw [h4 102 (by decide)]; exact cqA_at.2.2.1
  have HC2 := Lib.hid hc2
  have HLN := Lib.hid hlen
  have HR := Lib.hid hR
  clear h4 hc2 hlen hR h0 hT
  go_enter Tryd.func19, Tryd.ntmps19
  go_wp2_with fail
  refine known_any.mono ?_
  rintro _ w1 ⟨⟨q, c, rfl, hsv⟩, hb⟩
  have HOF : Hid (Calls Tryd.prog 25 #[nV 0 q 6 c] w1 (OfP w1.heap.size w1 (⟨0, cl, rowsA, [-1, 1, 1, 0]⟩, 0) [])) := Lib.hid (by
    rw [← HR.out]
    exact dof_any (w := w1) (st := 0) (ss := ssA) (fun b h => h) hsv fr_A (by decide) okW_A (by have := hb.size; have := HT0.out.1; omega) (HT0.out.2.mono (hb.block 0 HT0.out.1)))
  have HB1 := Lib.hid hb
  clear hb hsv HR
  go_wp2_with fail
  refine HOF.out.mono ?_
  rintro _ w2 ⟨ds, p, c2, q2, f2, zs, rfl, hdc, hz7, hs⟩
  obtain ⟨r0, r1, r2, r3, rfl⟩ := zs_A hz7
  have HDC := Lib.hid hdc
  obtain ⟨b1, hb1⟩ : ∃ b, w2.heap.size = b := ⟨_, rfl⟩
  have S1 : Hid (Sep w1.heap.size w1 (w2.alloc (.cells zero26 48)) (.box b1 (.cells zero26 48) :: .row (.slice p 4 c2) 39 1 4 [zV ([-1, 1, 1, 2], r0), zV ([-1, 1, 1, 1], r1), zV ([-1, 1, 3, 1], r2), zV ([-1, 1, 1, 1], r3)] :: .row (.slice q2 4 f2) 3 1 4 (zi [-1, 1, 1, 0]) :: ([zI ([-1, 1, 1, 2], r0), zI ([-1, 1, 1, 1], r1), zI ([-1, 1, 3, 1], r2), zI ([-1, 1, 1, 1], r3)] ++ []))) := Lib.hid (hs.allocAt hb1 _)
  have HBX := Lib.hid S1.out.at.2
  clear hs hz7 hdc HOF
  go_upto_region 2 with (refine wpList_store_row rfl 48 (.tmp 1) (.tmp 12) rfl b1 ds rfl rfl 48 _ HBX.out (by rw [info26, HDC.out.sz]) (by rw [zero26_size, HDC.out.sz]) (by first | exact Array.all_eq_true_iff_forall_mem.2 HDC.out.one | exact Array.all_eq_true.2 (fun i hi => HDC.out.one _ (Array.getElem_mem hi))) ?_)
  refine at_world (fun v => Sep w1.heap.size w1 v (.box b1 (.cells ds 48) :: .row (.slice p 4 c2) 39 1 4 [zV ([-1, 1, 1, 2], r0), zV ([-1, 1, 1, 1], r1), zV ([-1, 1, 3, 1], r2), zV ([-1, 1, 1, 1], r3)] :: .row (.slice q2 4 f2) 3 1 4 (zi [-1, 1, 1, 0]) :: ([zI ([-1, 1, 1, 2], r0), zI ([-1, 1, 1, 1], r1), zI ([-1, 1, 3, 1], r2), zI ([-1, 1, 1, 1], r3)] ++ []))) (S1.out.putRow ds) fun y hy => ?_
  have S2 := Lib.hid hy
  clear S1 HBX hb1 hy
  have HDM : Hid (∀ z : World, Below y.heap.size y z → DM (fun b => b < z.heap.size) z ⟨0, cl, rowsA, [-1, 1, 1, 0]⟩ p q2 c2 f2) := Lib.hid (fun z hz => dm_of (zs := [([-1, 1, 1, 2], r0), ([-1, 1, 1, 1], r1), ([-1, 1, 3, 1], r2), ([-1, 1, 1, 1], r3)]) rfl (S2.out.up hz).tl (fun r hr => by have := HLN.out.1 r hr; omega) (by show 4 ≤ 9223372036854775806; decide) (by show 4 ≤ 9223372036854775806; decide))
  have HBY : Hid (∀ z : World, Below y.heap.size y z → z.heap[b1]? = some (.cells ds 48 (0, 0))) := Lib.hid fun z hz => (hz.block b1 (Array.getElem?_eq_some_iff.1 S2.out.at.2).1).trans S2.out.at.2
  have HYW := Lib.hid S2.out.bel
  have hrow : y.ownsRow w1.heap.size 39 1 (.slice p 4 c2) 4 [zV ([-1, 1, 1, 2], r0), zV ([-1, 1, 1, 1], r1), zV ([-1, 1, 3, 1], r2), zV ([-1, 1, 1, 1], r3)] := S2.out.tl.at
  have hp : ∃ g, p = some ⟨g, 0, none⟩ ∧ y.cell? ⟨g, 2, none⟩ = some (.slice (some ⟨r2, 0, none⟩) 4 4) := by
    rcases hrow.2 with ⟨hv, h0⟩ | ⟨g, cap, cur, hv, hb, hg, hc, hc2, hc3, hc4⟩
    · cases h0
    · injection hv with e1 e2 e3
      refine ⟨g, e1, ?_⟩
      rw [cell_of_row y g _ cur 39 (0, 0) hg]
      have h1 : ([zV ([-1, 1, 1, 2], r0), zV ([-1, 1, 1, 1], r1), zV ([-1, 1, 3, 1], r2), zV ([-1, 1, 1, 1], r3)] : List Value)[2]? = some (.slice (some ⟨r2, 0, none⟩) 4 4) := rfl
      rw [← hc4, List.getElem?_take_of_lt (by omega), Array.getElem?_toList] at h1
      exact h1
  obtain ⟨g, rfl, hg2⟩ := hp
  have HG2 := Lib.hid hg2
  have HIR : Hid (∀ z : World, Below y.heap.size y z → IV (fun b => b < z.heap.size) z [-1, 1, 1, 0] (.slice q2 4 f2)) := Lib.hid fun z hz => (HDM.out z hz).rl
  have HI2 : Hid (∀ z : World, Below y.heap.size y z → IV (fun b => b < z.heap.size) z [-1, 1, 3, 1] (.slice (some ⟨r2, 0, none⟩) 4 4)) := Lib.hid fun z hz => by
    have hbox := ((S2.out.up hz).li (zI ([-1, 1, 3, 1], r2)) (by simp)).2
    refine ⟨_, _, rfl, fun _ => ⟨r2, 0, rfl, (Array.getElem?_eq_some_iff.1 hbox).1, fun i hi => ?_⟩⟩
    rw [Nat.zero_add, cell_of_row z r2 i _ 3 (0, 0) hbox]
    match i, hi with
    | 0, _ => rfl
    | 1, _ => rfl
    | 2, _ => rfl
    | 3, _ => rfl
  have hnx : ds[257]? = some (.slice (some ⟨g, 0, none⟩) 4 c2) := HDC.out.nx
  have hrl : ds[258]? = some (.slice q2 4 f2) := HDC.out.rl
  have hcc : ds[103]? = some (.int .u8 2) := by
    have h := (HDC.out.cl 102 (by decide)).1
    simp only [HC2.out] at h
    exact h
  have k257 : ∀ z : World, z.heap[b1]? = some (.cells ds 48 (0, 0)) → z.cell? ⟨b1, 257, none⟩ = some (.slice (some ⟨g, 0, none⟩) 4 c2) := fun z hz => (cell_of_row z b1 257 _ 48 (0, 0) hz).trans hnx
  have k258 : ∀ z : World, z.heap[b1]? = some (.cells ds 48 (0, 0)) → z.cell? ⟨b1, 258, none⟩ = some (.slice q2 4 f2) := fun z hz => (cell_of_row z b1 258 _ 48 (0, 0) hz).trans hrl
  have k103 : ∀ z : World, z.heap[b1]? = some (.cells ds 48 (0, 0)) → z.cell? ⟨b1, 103, none⟩ = some (.int .u8 2) := fun z hz => (cell_of_row z b1 103 _ 48 (0, 0) hz).trans hcc
  have K257 := Lib.hid k257
  have K258 := Lib.hid k258
  have K103 := Lib.hid k103
  have HYY := Lib.hid (Below.refl y.heap.size y)
  clear hrow hg2 hnx hrl hcc k257 k258 k103 S2
  have c1 := K257.out y (HBY.out y HYY.out)
  have c2' := K258.out y (HBY.out y HYY.out)
  have HBA := Lib.hid ((Below.refl y.heap.size y).alloc (Nat.le_refl _) (.cells #[.int .i64 (-1), .int .i64 1, .int .i64 1, .int .i64 0] 3))
  have HS1 := Lib.hid (same_any (w := y.alloc (.cells #[.int .i64 (-1), .int .i64 1, .int .i64 1, .int .i64 0] 3)) (a := [-1, 1, 1, 0]) (b := [-1, 1, 1, 0]) (pa := q2) (ca := f2) (pb := some ⟨y.heap.size, 0, none⟩) (cb := 4) (by decide) (fun b h => h) (fun b h => h) (HIR.out _ HBA.out) (iv_lit4 _ _ _ _))
  rw [show decide (([-1, 1, 1, 0] : List Int) = [-1, 1, 1, 0]) = true from by decide] at HS1
  go_wp2_with fail
  refine HS1.out.mono ?_
  rintro _ w3 ⟨rfl, hb⟩
  have HB3 := Lib.hid (HBA.out.trans (hb.mono HBA.out.size))
  clear hb HS1 HBA c1 c2'
  have c1 := K257.out w3 (HBY.out w3 HB3.out)
  have c3 : w3.cell? ⟨g, 2, none⟩ = some (.slice (some ⟨r2, 0, none⟩) 4 4) := (cell_same (HB3.out.block g (blk_lt HG2.out)) _).trans HG2.out
  have HBA := Lib.hid (HB3.out.alloc HB3.out.size (.cells #[.int .i64 (-1), .int .i64 1, .int .i64 3, .int .i64 1] 3))
  have HS2 := Lib.hid (same_any (w := w3.alloc (.cells #[.int .i64 (-1), .int .i64 1, .int .i64 3, .int .i64 1] 3)) (a := [-1, 1, 3, 1]) (b := [-1, 1, 3, 1]) (pa := some ⟨r2, 0, none⟩) (ca := 4) (pb := some ⟨w3.heap.size, 0, none⟩) (cb := 4) (by decide) (fun b h => h) (fun b h => h) (HI2.out _ HBA.out) (iv_lit4 _ _ _ _))
  rw [show decide (([-1, 1, 3, 1] : List Int) = [-1, 1, 3, 1]) = true from by decide] at HS2
  go_wp2_with fail
  refine HS2.out.mono ?_
  rintro _ w4 ⟨rfl, hb⟩
  have HB4 := Lib.hid (HBA.out.trans (hb.mono HBA.out.size))
  clear hb HS2 HBA HB3 c1 c3
  have c4 := K103.out w4 (HBY.out w4 HB4.out)
  have HRU := Lib.hid (fun (z : World) (hz : Below y.heap.size y z) (t : ByteArray) (ht : t.size ≤ 9223372036854775806) => ruleR_any (w := z) t HDC.out (HDM.out z hz) ht)
  have HRN := Lib.hid (fun (z : World) (hz : Below y.heap.size y z) (t : ByteArray) (ht : t.size ≤ 9223372036854775806) => runR_any (w := z) 2 t HDC.out (HDM.out z hz) ht)
  have C1 := Lib.hid (fun (z : World) (hz : Below y.heap.size y z) => HRU.out z hz ⟨#[105, 102]⟩ (by decide))
  have C2 := Lib.hid (fun (z : World) (hz : Below y.heap.size y z) => HRU.out z hz ⟨#[55]⟩ (by decide))
  have C3 := Lib.hid (fun (z : World) (hz : Below y.heap.size y z) => HRN.out z hz ⟨#[102]⟩ (by decide))
  rw [show bl ⟨#[105, 102]⟩ = [105, 102] from rfl, HEX.out.1] at C1
  rw [show bl ⟨#[55]⟩ = [55] from rfl, HEX.out.2.1] at C2
  rw [show bl ⟨#[102]⟩ = [102] from rfl, HEX.out.2.2] at C3
  unfold tup at C1 C2 C3
  clear HRU HRN HEX
  have HX4 : Hid (BX w4 b1 ds) := Lib.hid (HBY.out w4 HB4.out)
  go_wp2_with (refine wpList_load_D rfl (.tmp 1) rfl b1 ds rfl HX4.out HDC.out.sz ?_)
  refine (C1.out w4 HB4.out).mono ?_
  rintro _ w5 ⟨rfl, hb⟩
  have HB5 := Lib.hid (HB4.out.trans (hb.mono HB4.out.size))
  have HX5 : Hid (BX w5 b1 ds) := Lib.hid (HBY.out w5 HB5.out)
  clear hb C1 HB4 HX4 c4
  go_wp2_with (refine wpList_load_D rfl (.tmp 1) rfl b1 ds rfl HX5.out HDC.out.sz ?_)
  refine (C2.out w5 HB5.out).mono ?_
  rintro _ w6 ⟨rfl, hb⟩
  have HB6 := Lib.hid (HB5.out.trans (hb.mono HB5.out.size))
  have HX6 : Hid (BX w6 b1 ds) := Lib.hid (HBY.out w6 HB6.out)
  clear hb C2 HB5 HX5
  go_wp2_with (refine wpList_load_D rfl (.tmp 1) rfl b1 ds rfl HX6.out HDC.out.sz ?_)
  refine (C3.out w6 HB6.out).mono ?_
  rintro _ w7 ⟨rfl, hb⟩
  have HB7 := Lib.hid (HB6.out.trans (hb.mono HB6.out.size))
  clear hb C3 HB6 HX6
  have HCZ := Lib.hid (d7_check_any (D := fun b => b < w7.heap.size) (w := w7) (d := dz) (ds := zero26) (p := none) (q := none) (c := 0) (f := 0) dz_dc ⟨⟨none, 0, rfl, fun h => absurd rfl h⟩, ⟨none, 0, rfl, fun h => absurd rfl h⟩, fun b h => h, by show 0 ≤ 9223372036854775806; decide, by show 0 ≤ 9223372036854775806; decide, fun r hr => by cases hr⟩)
  rw [show chkD dz = 2 from by decide] at HCZ
  go_wp2_with (refine wpList_build48g rfl rfl ?_)
  refine HCZ.out.mono ?_
  rintro _ w8 ⟨rfl, hb⟩
  have HB8 := Lib.hid (HB7.out.trans (hb.mono HB7.out.size))
  clear hb HCZ HB7
  go_wp2_with fail
  go_ret
  exact ⟨rfl, (HB1.out.trans (HYW.out.mono HB1.out.size)).trans (HB8.out.mono (HB1.out.trans (HYW.out.mono HB1.out.size)).size)⟩
end Go.Proofs.YthglciccejholaaDoor
end
section
/- Package dfa. -/
namespace Go.Proofs.YthglciccejholaaDoor
set_option linter.unusedSimpArgs false
set_option linter.unusedVariables false
set_option maxRecDepth 100000
open Go.RowKit Go.Shelf
/- NfaBig. -/
end Go.Proofs.YthglciccejholaaDoor
end
section
/- Package dfa. -/
namespace Go.Proofs.YthglciccejholaaDoor
set_option linter.unusedSimpArgs false
set_option linter.unusedVariables false
set_option maxRecDepth 100000
open Go.RowKit Go.Shelf
/- DfaTells. -/
open Go.Maps
theorem ofD_ok {st : Int} {ss : List Nst} {d : Df} (h : ofD st ss = (d, 0)) : chkN st ss = 0 ∧ ∃ S N, ofF st ss = (true, S, N) ∧ d = autX (soF ss) ss S N := by
  unfold ofD at h
  by_cases h1 : chkN st ss ≠ 0
  · rw [if_pos h1] at h
    injection h with h2 h3
    exact absurd h3 h1
  · rw [if_neg h1] at h
    obtain ⟨⟨ok, S, N⟩, hF⟩ : ∃ F, ofF st ss = F := ⟨_, rfl⟩
    rw [hF] at h
    cases ok with
    | false =>
      rw [if_neg (by simp)] at h
      injection h with h2 h3
      cases h3
    | true =>
      rw [if_pos rfl] at h
      injection h with h2 h3
      exact ⟨by omega, S, N, hF, h2.symm⟩
theorem sem_ofD {st : Int} {ss : List Nst} {d : Df} (h : ofD st ss = (d, 0)) : chkN st ss = 0 ∧ ∃ s0 S N, st = ((s0 : Nat) : Int) ∧ chkN (s0 : Int) ss = 0 ∧ SemP s0 ss S N ∧ d = autX (soF ss) ss S N := by
  obtain ⟨hc, S, N, hF, hd⟩ := ofD_ok h
  obtain ⟨-, -, hst, -⟩ := chk_facts hc
  obtain ⟨s0, rfl⟩ : ∃ s0 : Nat, st = (s0 : Int) := ⟨st.toNat, by omega⟩
  exact ⟨hc, s0, S, N, rfl, hc, sem_of hc hF, hd⟩
end Go.Proofs.YthglciccejholaaDoor
end
section
/- Package regs: the reader's small steps: what comes next. -/
namespace Go.Proofs.YthglciccejholaaDoor.R5
set_option linter.unusedSimpArgs false
set_option linter.unusedVariables false
set_option maxRecDepth 100000
open Go.RowKit

def zero8 (u : Nat → Int) : Bool := u 0 == 0 && (u 1 == 0 && (u 2 == 0 && (u 3 == 0 && (u 4 == 0 && (u 5 == 0 && (u 6 == 0 && (u 7 == 0)))))))
set_option maxHeartbeats 8000000 in
theorem neq64g (u : Nat → Int) (w : World) : (binOp .neq 90 (.agg #[.int .u64 (u 0), .int .u64 (u 1), .int .u64 (u 2), .int .u64 (u 3), .int .u64 (u 4), .int .u64 (u 5), .int .u64 (u 6), .int .u64 (u 7)]) (.agg #[.int .u64 0, .int .u64 0, .int .u64 0, .int .u64 0, .int .u64 0, .int .u64 0, .int .u64 0, .int .u64 0])).run Tryd.prog w = .ok (.bool (!zero8 u)) w := by
  have h : ∀ (x : Int) w, (Op.equalIn 9999 22 (.int .u64 x) (.int .u64 0)).run Tryd.prog w = .ok (x == 0) w := fun x w => eq22g 9998 x 0 w
  have e : ∀ w, (Op.equalIn 10000 90 (.agg #[.int .u64 (u 0), .int .u64 (u 1), .int .u64 (u 2), .int .u64 (u 3), .int .u64 (u 4), .int .u64 (u 5), .int .u64 (u 6), .int .u64 (u 7)]) (.agg #[.int .u64 0, .int .u64 0, .int .u64 0, .int .u64 0, .int .u64 0, .int .u64 0, .int .u64 0, .int .u64 0])).run Tryd.prog w = .ok (zero8 u) w := fun w => by
    rw [show (10000 : Nat) = 9999 + 1 from rfl, Op.equalIn]
    unfold zero8
    by_cases a0 : u 0 = 0
    · by_cases a1 : u 1 = 0
      · by_cases a2 : u 2 = 0
        · by_cases a3 : u 3 = 0
          · by_cases a4 : u 4 = 0
            · by_cases a5 : u 5 = 0
              · by_cases a6 : u 6 = 0
                · by_cases a7 : u 7 = 0
                  · simp [run_underlying Tryd.underlying90, Tryd.sizeOf22, Std.Legacy.Range.forIn_eq_forIn_range', List.range', part, h, a0, a1, a2, a3, a4, a5, a6, a7]
                  · simp [run_underlying Tryd.underlying90, Tryd.sizeOf22, Std.Legacy.Range.forIn_eq_forIn_range', List.range', part, h, a0, a1, a2, a3, a4, a5, a6, a7]
                · simp [run_underlying Tryd.underlying90, Tryd.sizeOf22, Std.Legacy.Range.forIn_eq_forIn_range', List.range', part, h, a0, a1, a2, a3, a4, a5, a6]
              · simp [run_underlying Tryd.underlying90, Tryd.sizeOf22, Std.Legacy.Range.forIn_eq_forIn_range', List.range', part, h, a0, a1, a2, a3, a4, a5]
            · simp [run_underlying Tryd.underlying90, Tryd.sizeOf22, Std.Legacy.Range.forIn_eq_forIn_range', List.range', part, h, a0, a1, a2, a3, a4]
          · simp [run_underlying Tryd.underlying90, Tryd.sizeOf22, Std.Legacy.Range.forIn_eq_forIn_range', List.range', part, h, a0, a1, a2, a3]
        · simp [run_underlying Tryd.underlying90, Tryd.sizeOf22, Std.Legacy.Range.forIn_eq_forIn_range', List.range', part, h, a0, a1, a2]
      · simp [run_underlying Tryd.underlying90, Tryd.sizeOf22, Std.Legacy.Range.forIn_eq_forIn_range', List.range', part, h, a0, a1]
    · simp [run_underlying Tryd.underlying90, Tryd.sizeOf22, Std.Legacy.Range.forIn_eq_forIn_range', List.range', part, h, a0]
  simp only [binOp]
  simp [Op.equal, Op.maxDepth, e]
def nzS (S : Nat → Bool) : Bool := (List.range 512).any S
theorem W_zero (S : Nat → Bool) (i : Nat) : W S i = 0 ↔ ∀ k, k < 64 → S (64 * i + k) = false := by
  constructor
  · intro h k hk
    have := W_test S i k hk
    rw [h] at this; simpa using this.symm
  · intro h
    exact (W_eq S i 0 (by omega) fun k hk => by rw [h k hk]; simp).symm
theorem zero8_nz (S : Nat → Bool) : (!zero8 (wf S)) = nzS S := by
  have hz : zero8 (wf S) = true ↔ ∀ i, i < 8 → W S i = 0 := by
    have e : ∀ i, (wf S i == 0) = true ↔ W S i = 0 := fun i => by
      show (((W S i : Nat) : Int) == 0) = true ↔ _
      simp
    unfold zero8
    simp only [Bool.and_eq_true, e]
    constructor
    · rintro ⟨h0, h1, h2, h3, h4, h5, h6, h7⟩ i hi
      rcases lt8 hi with rfl | rfl | rfl | rfl | rfl | rfl | rfl | rfl
      · exact h0
      · exact h1
      · exact h2
      · exact h3
      · exact h4
      · exact h5
      · exact h6
      · exact h7
    · intro h
      exact ⟨h 0 (by omega), h 1 (by omega), h 2 (by omega), h 3 (by omega), h 4 (by omega), h 5 (by omega), h 6 (by omega), h 7 (by omega)⟩
  cases hn : nzS S with
  | false =>
    have : zero8 (wf S) = true := hz.2 fun i hi => (W_zero S i).2 fun k hk => by
      cases hs : S (64 * i + k) with
      | false => rfl
      | true =>
        exfalso
        have : nzS S = true := List.any_eq_true.2 ⟨64 * i + k, List.mem_range.2 (by omega), hs⟩
        rw [hn] at this; cases this
    rw [this]; rfl
  | true =>
    obtain ⟨i, hi, hs⟩ := List.any_eq_true.1 hn
    cases hz2 : zero8 (wf S) with
    | false => rfl
    | true =>
      exfalso
      have := (W_zero S (i / 64)).1 (hz.1 hz2 (i / 64) (by have := List.mem_range.1 hi; omega)) (i % 64) (Nat.mod_lt _ (by omega))
      rw [Nat.div_add_mod, hs] at this; cases this
theorem run_index_str (t : List UInt8) (i : Nat) (c : UInt8) (h : t[i]? = some c) (w : World) : (Instr.index 9 (.string (bs t)) (.int .i64 (i : Nat))).run Tryd.prog w = .ok (.int .u8 (c.toNat : Nat)) w := by
  obtain ⟨hi, he⟩ := List.getElem?_eq_some_iff.1 h
  have hs : (bs t).size = t.length := rfl
  simp [Instr.index, go_sem, bs, hi]
  rw [← he]
  rfl
/-- Where the bytes behind lead «to». -/
def runS (N : Net) : (Nat → Bool) → List UInt8 → Nat → Bool
  | S, [] => S
  | S, c :: cs => runS N (andS (nxS N S) (N.has c.toNat)) cs
theorem runS_take (N : Net) : ∀ (cs : List UInt8) (S : Nat → Bool) (i : Nat) (h : i < cs.length), runS N S (cs.take (i + 1)) = andS (nxS N (runS N S (cs.take i))) (N.has cs[i].toNat)
  | c :: cs, S, 0, h => by simp [runS]
  | c :: cs, S, i + 1, h => by
    simp only [List.take_succ_cons, runS, List.getElem_cons_succ]
    exact runS_take N cs _ i (by simpa using h)
theorem nx_none {N : Net} {S : Nat → Bool} (h : nzS S = false) : nxS N S = noS := by
  funext j
  unfold nxS noS
  rw [Bool.eq_false_iff]
  intro e
  obtain ⟨i, hi, hp⟩ := List.any_eq_true.1 e
  simp only [Bool.and_eq_true] at hp
  have : nzS S = true := List.any_eq_true.2 ⟨i, hi, hp.1⟩
  rw [h] at this; cases this
theorem nz_and {S T : Nat → Bool} (h : nzS S = false) : nzS (andS S T) = false := by
  rw [Bool.eq_false_iff]
  intro e
  obtain ⟨i, hi, hp⟩ := List.any_eq_true.1 e
  simp only [andS, Bool.and_eq_true] at hp
  have : nzS S = true := List.any_eq_true.2 ⟨i, hi, hp.1⟩
  rw [h] at this; cases this
theorem runS_none (N : Net) : ∀ (cs : List UInt8) (S : Nat → Bool), nzS S = false → nzS (runS N S cs) = false
  | [], S, h => h
  | c :: cs, S, h => runS_none N cs _ (nz_and (by rw [nx_none h]; decide))
theorem runS_app (N : Net) : ∀ (a b : List UInt8) (S : Nat → Bool), runS N S (a ++ b) = runS N (runS N S a) b
  | [], b, S => rfl
  | c :: a, b, S => runS_app N a b _
def zV : Value := .agg #[.int .u64 0, .int .u64 0, .int .u64 0, .int .u64 0, .int .u64 0, .int .u64 0, .int .u64 0, .int .u64 0]
theorem hq64 (S : Nat → Bool) (w : World) : (binOp .neq 90 (spV (wf S)) zV).run Tryd.prog w = .ok (.bool (nzS S)) w := by rw [← zero8_nz]; exact neq64g (wf S) w
theorem hg64 (x y : Operand) (S : Nat → Bool) (w : World) : (eqGuard .neq 90 x y (spV (wf S)) zV).run Tryd.prog w = .ok () w := by
    unfold eqGuard spV zV
    simp [run_underlying Tryd.underlying90]
theorem wp_neq_gen {P : Program} {o : Oper} {a : Act} {w : World} {K : Act → World → Prop} {Q : Exit → Act → World → Prop} (T : TypeId) (x y : Operand) (t : TypeId) (ho : o.op = .binOp .neq T x y t) (v z r : Value)
    (hx : a.eval x = v) (hy : a.eval y = z) (hq : (binOp .neq T v z).run P w = .ok r w) (hg : (eqGuard .neq T x y v z).run P w = .ok () w) (h : K (a.put o.dst r) w) : o.wp P a w K Q := by
  unfold Oper.wp execOp
  simp only [ho, hx, hy]
  simp only [Sem.run_bind, hg, Result.andThen_ok, hq]
  exact h
theorem wp_neq64 {o : Oper} {a : Act} {w : World} {K : Act → World → Prop} {Q : Exit → Act → World → Prop} (x y : Operand) (t : TypeId) (ho : o.op = .binOp .neq 90 x y t) (S : Nat → Bool)
    (hx : a.eval x = spV (wf S)) (hy : a.eval y = zV) (h : K (a.put o.dst (.bool (nzS S))) w) : o.wp Tryd.prog a w K Q :=
  wp_neq_gen 90 x y t ho _ _ _ hx hy (hq64 S w) (hg64 x y S w) h
end Go.Proofs.YthglciccejholaaDoor.R5
end
