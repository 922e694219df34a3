/- Package nfa. -/
import Derived.Test.YtnhfeakndofokaaProg
import Derived.Test.YtnhfeakndofokaaN33
import Derived.WalkKit
import Derived.WalkLawsBesides
import Derived.WalkSpells
import Derived.Outline
import Derived.Lib.Walk
import Derived.Lib.Hide
import Derived.Lib.Slices
import Derived.Lib.Strings
import Derived.RegionTactic
import Derived.LoopTactic
import Derived.Below
import Derived.IntWalk
import Derived.Deep.QuietTactic
import Derived.BigQuiet
import Derived.Deep.MidRow
import Derived.Maps.AppendAt
import Derived.Laws.Rows
import Derived.Laws.Tables
import Derived.Deep.WholeRow
import Derived.Deep.Cut
import Derived.Deep.CutRange
import Derived.Lib.SliceRun
import Derived.Laws.MakeOwn
import Derived.Deep.RegionLaw
import Derived.Deep.RegionLawGrows
namespace Go.Proofs.Ytnhfeakndofokaa
set_option linter.unusedSimpArgs false
set_option linter.unusedVariables false
set_option maxRecDepth 100000
open Go.RowKit
/- SameNfa of two that are the same. -/
theorem eq45g (n : Nat) (x y : Int) (w : World) : (Op.equalIn (n + 1) 45 (.int .u64 x) (.int .u64 y)).run Try.prog w = .ok (x == y) w := by
  rw [Op.equalIn]
  simp [run_underlying Try.underlying45]
theorem neq47s (u : Nat → Int) (w : World) : (binOp .neq 47 (.agg #[.int .u64 (u 0), .int .u64 (u 1), .int .u64 (u 2), .int .u64 (u 3)]) (.agg #[.int .u64 (u 0), .int .u64 (u 1), .int .u64 (u 2), .int .u64 (u 3)])).run Try.prog w = .ok (.bool false) w := by
  have h : ∀ (x y : Int) w, (Op.equalIn 9999 45 (.int .u64 x) (.int .u64 y)).run Try.prog w = .ok (x == y) w := fun x y w => eq45g 9998 x y w
  have e : ∀ w, (Op.equalIn 10000 47 (.agg #[.int .u64 (u 0), .int .u64 (u 1), .int .u64 (u 2), .int .u64 (u 3)]) (.agg #[.int .u64 (u 0), .int .u64 (u 1), .int .u64 (u 2), .int .u64 (u 3)])).run Try.prog w = .ok true w := fun w => by
    rw [show (10000 : Nat) = 9999 + 1 from rfl, Op.equalIn]
    simp [run_underlying Try.underlying47, Try.sizeOf45, Std.Legacy.Range.forIn_eq_forIn_range', List.range', part, h]
  simp only [binOp]
  simp [Op.equal, Op.maxDepth, e]
set_option maxHeartbeats 16000000 in
theorem samenfa_true {D E : Nat → Prop} {w : World} {st : Int} {ss : List Nst} {qa qb : Option Addr} {ca cb : Nat} (hD : ∀ b, D b → b < w.heap.size) (hE : ∀ b, E b → b < w.heap.size) (ha : SV D w ss (.slice qa ss.length ca)) (hb : SV E w ss (.slice qb ss.length cb)) (hfl : ∀ s ∈ ss, s.fr.length ≤ 1000000) (hln : ss.length ≤ 1000000) :
    Calls Try.prog 16 #[nV st qa ss.length ca, nV st qb ss.length cb] w fun e w' => e = .returned (.bool true) ∧ Below w.heap.size w w' := by
  have HA := Lib.hid ha
  have HB := Lib.hid hb
  have HFL := Lib.hid hfl
  have HD := Lib.hid hD
  have HE := Lib.hid hE
  have hz := zero49
  have hs0 := ((Sb.start w).alloc (.cells #[.int .i64 st, .slice qa ss.length ca] 24)).alloc (.cells #[.int .i64 st, .slice qb ss.length cb] 24)
  have hs1 : (w.alloc (.cells #[.int .i64 st, .slice qa ss.length ca] 24)).heap.size = w.heap.size + 1 := by simp
  rw [hs1] at hs0
  have S0 := Lib.hid hs0
  have hn1 : (st != st) = false := by simp
  have hn2 : ((ss.length : Int) != (ss.length : Int)) = false := by simp
  clear ha hb hfl hD hE hs0 hs1
  unfold nV
  go_enter Try.func16, Try.ntmps16
  go_wp2_with fail
  go_loopw [5] (fun i wr => ∃ j : Nat, i = .int .i64 (j : Nat) ∧ j ≤ ss.length ∧ Hid (Sb w wr [(w.heap.size + 1, (.cells #[.int .i64 st, .slice qb ss.length cb] 24)), (w.heap.size, (.cells #[.int .i64 st, .slice qa ss.length ca] 24))])) (fun i _ => ss.length - (intOf i).toNat)
  case atStart => exact ⟨0, rfl, by omega, S0⟩
  case round =>
  clear S0 hn1 hn2
  obtain ⟨j, rfl, hj, HS⟩ := hrel
  obtain ⟨wo, rfl⟩ : ∃ wo : World, wo = wr := ⟨_, rfl⟩
  by_cases hlt : j < ss.length
  · obtain ⟨q', c', he, hSV⟩ := HA.out
    cases he
    obtain ⟨ba, oa, rfl, hDa, hx⟩ := hSV (by intro e; subst e; simp at hlt)
    obtain ⟨qf, f, hiv, hcell⟩ := hx j hlt
    obtain ⟨q'', c'', he2, hSV2⟩ := HB.out
    cases he2
    obtain ⟨bb, ob, rfl, hEb, hx2⟩ := hSV2 (by intro e; subst e; simp at hlt)
    obtain ⟨qg, g, hiv2, hcell2⟩ := hx2 j hlt
    have halt := HD.out ba hDa
    have hblt := HE.out bb hEb
    have hfl := HFL.out ss[j] (List.getElem_mem hlt)
    generalize ss[j] = s at *
    obtain ⟨u, tg, fr, rl⟩ := s
    have HIV : Hid (IV D w fr (.slice qf fr.length f)) := Lib.hid hiv
    have HIV2 : Hid (IV E w fr (.slice qg fr.length g)) := Lib.hid hiv2
    have HFN : Hid (fr.length ≤ 1000000) := Lib.hid hfl
    have de : ∀ i y, (stC u tg (.slice qf fr.length f) rl)[i]? = some y → wo.cell? ⟨ba, oa + j * 7 + i, none⟩ = some y := fun i y hy => (cell_same (HS.out.1.block ba halt) _).trans (hcell i y hy)
    have ee : ∀ i y, (stC u tg (.slice qg fr.length g) rl)[i]? = some y → wo.cell? ⟨bb, ob + j * 7 + i, none⟩ = some y := fun i y hy => (cell_same (HS.out.1.block bb hblt) _).trans (hcell2 i y hy)
    have dlt : ba < wo.heap.size := Nat.lt_of_lt_of_le halt HS.out.1.size
    have elt : bb < wo.heap.size := Nat.lt_of_lt_of_le hblt HS.out.1.size
    have d0 : wo.cell? ⟨ba, oa + j * 7, none⟩ = some (.int .u64 (u 0)) := de 0 _ rfl
    have da0 : ∀ x, (wo.alloc x).cell? ⟨ba, oa + j * 7, none⟩ = some (.int .u64 (u 0)) := fun x => (cell_same (heap_alloc_old wo x dlt) _).trans d0
    have d1 : wo.cell? ⟨ba, oa + j * 7 + 1, none⟩ = some (.int .u64 (u 1)) := de 1 _ rfl
    have da1 : ∀ x, (wo.alloc x).cell? ⟨ba, oa + j * 7 + 1, none⟩ = some (.int .u64 (u 1)) := fun x => (cell_same (heap_alloc_old wo x dlt) _).trans d1
    have d2 : wo.cell? ⟨ba, oa + j * 7 + 2, none⟩ = some (.int .u64 (u 2)) := de 2 _ rfl
    have da2 : ∀ x, (wo.alloc x).cell? ⟨ba, oa + j * 7 + 2, none⟩ = some (.int .u64 (u 2)) := fun x => (cell_same (heap_alloc_old wo x dlt) _).trans d2
    have d3 : wo.cell? ⟨ba, oa + j * 7 + 3, none⟩ = some (.int .u64 (u 3)) := de 3 _ rfl
    have da3 : ∀ x, (wo.alloc x).cell? ⟨ba, oa + j * 7 + 3, none⟩ = some (.int .u64 (u 3)) := fun x => (cell_same (heap_alloc_old wo x dlt) _).trans d3
    have d4 : wo.cell? ⟨ba, oa + j * 7 + 4, none⟩ = some (.int .i64 tg) := de 4 _ rfl
    have da4 : ∀ x, (wo.alloc x).cell? ⟨ba, oa + j * 7 + 4, none⟩ = some (.int .i64 tg) := fun x => (cell_same (heap_alloc_old wo x dlt) _).trans d4
    have d5 : wo.cell? ⟨ba, oa + j * 7 + 5, none⟩ = some (.slice qf fr.length f) := de 5 _ rfl
    have da5 : ∀ x, (wo.alloc x).cell? ⟨ba, oa + j * 7 + 5, none⟩ = some (.slice qf fr.length f) := fun x => (cell_same (heap_alloc_old wo x dlt) _).trans d5
    have d6 : wo.cell? ⟨ba, oa + j * 7 + 6, none⟩ = some (.int .i64 rl) := de 6 _ rfl
    have da6 : ∀ x, (wo.alloc x).cell? ⟨ba, oa + j * 7 + 6, none⟩ = some (.int .i64 rl) := fun x => (cell_same (heap_alloc_old wo x dlt) _).trans d6
    have e0 : wo.cell? ⟨bb, ob + j * 7, none⟩ = some (.int .u64 (u 0)) := ee 0 _ rfl
    have ea0 : ∀ x, (wo.alloc x).cell? ⟨bb, ob + j * 7, none⟩ = some (.int .u64 (u 0)) := fun x => (cell_same (heap_alloc_old wo x elt) _).trans e0
    have e1 : wo.cell? ⟨bb, ob + j * 7 + 1, none⟩ = some (.int .u64 (u 1)) := ee 1 _ rfl
    have ea1 : ∀ x, (wo.alloc x).cell? ⟨bb, ob + j * 7 + 1, none⟩ = some (.int .u64 (u 1)) := fun x => (cell_same (heap_alloc_old wo x elt) _).trans e1
    have e2 : wo.cell? ⟨bb, ob + j * 7 + 2, none⟩ = some (.int .u64 (u 2)) := ee 2 _ rfl
    have ea2 : ∀ x, (wo.alloc x).cell? ⟨bb, ob + j * 7 + 2, none⟩ = some (.int .u64 (u 2)) := fun x => (cell_same (heap_alloc_old wo x elt) _).trans e2
    have e3 : wo.cell? ⟨bb, ob + j * 7 + 3, none⟩ = some (.int .u64 (u 3)) := ee 3 _ rfl
    have ea3 : ∀ x, (wo.alloc x).cell? ⟨bb, ob + j * 7 + 3, none⟩ = some (.int .u64 (u 3)) := fun x => (cell_same (heap_alloc_old wo x elt) _).trans e3
    have e4 : wo.cell? ⟨bb, ob + j * 7 + 4, none⟩ = some (.int .i64 tg) := ee 4 _ rfl
    have ea4 : ∀ x, (wo.alloc x).cell? ⟨bb, ob + j * 7 + 4, none⟩ = some (.int .i64 tg) := fun x => (cell_same (heap_alloc_old wo x elt) _).trans e4
    have e5 : wo.cell? ⟨bb, ob + j * 7 + 5, none⟩ = some (.slice qg fr.length g) := ee 5 _ rfl
    have ea5 : ∀ x, (wo.alloc x).cell? ⟨bb, ob + j * 7 + 5, none⟩ = some (.slice qg fr.length g) := fun x => (cell_same (heap_alloc_old wo x elt) _).trans e5
    have e6 : wo.cell? ⟨bb, ob + j * 7 + 6, none⟩ = some (.int .i64 rl) := ee 6 _ rfl
    have ea6 : ∀ x, (wo.alloc x).cell? ⟨bb, ob + j * 7 + 6, none⟩ = some (.int .i64 rl) := fun x => (cell_same (heap_alloc_old wo x elt) _).trans e6
    have k0 := HS.out.lt
    have k1 := HS.out.tl.lt
    have ka : wo.cell? ⟨w.heap.size, 1, none⟩ = some (.slice (some ⟨ba, oa, none⟩) ss.length ca) := HS.out.tl.cell 1
    have kb : wo.cell? ⟨w.heap.size + 1, 1, none⟩ = some (.slice (some ⟨bb, ob, none⟩) ss.length cb) := HS.out.cell 1
    have kaa : ∀ x, (wo.alloc x).cell? ⟨w.heap.size, 1, none⟩ = some (.slice (some ⟨ba, oa, none⟩) ss.length ca) := fun x => (cell_same (heap_alloc_old wo x k1) _).trans ka
    have kba : ∀ x, (wo.alloc x).cell? ⟨w.heap.size + 1, 1, none⟩ = some (.slice (some ⟨bb, ob, none⟩) ss.length cb) := fun x => (cell_same (heap_alloc_old wo x k0) _).trans kb
    have hltI : (j : Int) < (ss.length : Int) := by omega
    have hjI : ¬ (j : Int) < 0 := by omega
    clear hx hSV hcell hiv hx2 hSV2 hcell2 hiv2 de ee hfl halt hblt hDa hEb
    have HW1 : Hid (Sb w (((wo.alloc (.cells #[.int .u64 (u 0), .int .u64 (u 1), .int .u64 (u 2), .int .u64 (u 3), .int .i64 tg, .slice qf fr.length f, .int .i64 rl] 49)).alloc (.cells #[.int .u64 (u 0), .int .u64 (u 1), .int .u64 (u 2), .int .u64 (u 3), .int .i64 tg, .slice qg fr.length g, .int .i64 rl] 49)).drew) [(wo.heap.size + 1, (.cells #[.int .u64 (u 0), .int .u64 (u 1), .int .u64 (u 2), .int .u64 (u 3), .int .i64 tg, .slice qg fr.length g, .int .i64 rl] 49)), (wo.heap.size, (.cells #[.int .u64 (u 0), .int .u64 (u 1), .int .u64 (u 2), .int .u64 (u 3), .int .i64 tg, .slice qf fr.length f, .int .i64 rl] 49)), (w.heap.size + 1, (.cells #[.int .i64 st, .slice (some ⟨bb, ob, none⟩) ss.length cb] 24)), (w.heap.size, (.cells #[.int .i64 st, .slice (some ⟨ba, oa, none⟩) ss.length ca] 24))]) := Lib.hid (by
      have h := ((HS.out.alloc (.cells #[.int .u64 (u 0), .int .u64 (u 1), .int .u64 (u 2), .int .u64 (u 3), .int .i64 tg, .slice qf fr.length f, .int .i64 rl] 49)).alloc (.cells #[.int .u64 (u 0), .int .u64 (u 1), .int .u64 (u 2), .int .u64 (u 3), .int .i64 tg, .slice qg fr.length g, .int .i64 rl] 49)).drew
      rw [show (wo.alloc (.cells #[.int .u64 (u 0), .int .u64 (u 1), .int .u64 (u 2), .int .u64 (u 3), .int .i64 tg, .slice qf fr.length f, .int .i64 rl] 49)).heap.size = wo.heap.size + 1 by simp] at h
      exact h)
    have HW2 : Hid (Sb w (((wo.alloc (.cells #[.int .u64 (u 0), .int .u64 (u 1), .int .u64 (u 2), .int .u64 (u 3), .int .i64 tg, .slice qg fr.length g, .int .i64 rl] 49)).alloc (.cells #[.int .u64 (u 0), .int .u64 (u 1), .int .u64 (u 2), .int .u64 (u 3), .int .i64 tg, .slice qf fr.length f, .int .i64 rl] 49)).drew) [(wo.heap.size + 1, (.cells #[.int .u64 (u 0), .int .u64 (u 1), .int .u64 (u 2), .int .u64 (u 3), .int .i64 tg, .slice qf fr.length f, .int .i64 rl] 49)), (wo.heap.size, (.cells #[.int .u64 (u 0), .int .u64 (u 1), .int .u64 (u 2), .int .u64 (u 3), .int .i64 tg, .slice qg fr.length g, .int .i64 rl] 49)), (w.heap.size + 1, (.cells #[.int .i64 st, .slice (some ⟨bb, ob, none⟩) ss.length cb] 24)), (w.heap.size, (.cells #[.int .i64 st, .slice (some ⟨ba, oa, none⟩) ss.length ca] 24))]) := Lib.hid (by
      have h := ((HS.out.alloc (.cells #[.int .u64 (u 0), .int .u64 (u 1), .int .u64 (u 2), .int .u64 (u 3), .int .i64 tg, .slice qg fr.length g, .int .i64 rl] 49)).alloc (.cells #[.int .u64 (u 0), .int .u64 (u 1), .int .u64 (u 2), .int .u64 (u 3), .int .i64 tg, .slice qf fr.length f, .int .i64 rl] 49)).drew
      rw [show (wo.alloc (.cells #[.int .u64 (u 0), .int .u64 (u 1), .int .u64 (u 2), .int .u64 (u 3), .int .i64 tg, .slice qg fr.length g, .int .i64 rl] 49)).heap.size = wo.heap.size + 1 by simp] at h
      exact h)
    go_upto_region 6 with fail
    go_region
    all_goals clear HS ka kb kaa kba k0 k1 dlt elt d0 d1 d2 d3 d4 d5 d6 da0 da1 da2 da3 da4 da5 da6 e0 e1 e2 e3 e4 e5 e6 ea0 ea1 ea2 ea3 ea4 ea5 ea6
    · refine at_worldQ (fun z => Sb w z [(wo.heap.size + 1, (.cells #[.int .u64 (u 0), .int .u64 (u 1), .int .u64 (u 2), .int .u64 (u 3), .int .i64 tg, .slice qg fr.length g, .int .i64 rl] 49)), (wo.heap.size, (.cells #[.int .u64 (u 0), .int .u64 (u 1), .int .u64 (u 2), .int .u64 (u 3), .int .i64 tg, .slice qf fr.length f, .int .i64 rl] 49)), (w.heap.size + 1, (.cells #[.int .i64 st, .slice (some ⟨bb, ob, none⟩) ss.length cb] 24)), (w.heap.size, (.cells #[.int .i64 st, .slice (some ⟨ba, oa, none⟩) ss.length ca] 24))]) HW1.out fun z hz9 => ?_
      have HZ := Lib.hid hz9
      have hzs := hz9.1.size
      have HCC : Hid (Calls Try.prog 21 #[.slice qf fr.length f, .slice qg fr.length g] z fun e w' => e = .returned (.bool (decide (fr = fr))) ∧ Below z.heap.size z w') := Lib.hid (same_any (D := D) (E := E) (by have := HFN.out; omega) (fun b hb => Nat.lt_of_lt_of_le (HD.out b hb) hzs) (fun b hb => Nat.lt_of_lt_of_le (HE.out b hb) hzs) (HIV.out.mono (fun b h => h) (fun b hb _ => hz9.1.block b (HD.out b hb))) (HIV2.out.mono (fun b h => h) (fun b hb _ => hz9.1.block b (HE.out b hb))))
      have c0 : z.cell? ⟨wo.heap.size, 0, none⟩ = some (.int .u64 (u 0)) := hz9.tl.cell 0
      have c1 : z.cell? ⟨wo.heap.size, 1, none⟩ = some (.int .u64 (u 1)) := hz9.tl.cell 1
      have c2 : z.cell? ⟨wo.heap.size, 2, none⟩ = some (.int .u64 (u 2)) := hz9.tl.cell 2
      have c3 : z.cell? ⟨wo.heap.size, 3, none⟩ = some (.int .u64 (u 3)) := hz9.tl.cell 3
      have c4 : z.cell? ⟨wo.heap.size, 4, none⟩ = some (.int .i64 tg) := hz9.tl.cell 4
      have c5 : z.cell? ⟨wo.heap.size, 5, none⟩ = some (.slice qf fr.length f) := hz9.tl.cell 5
      have c6 : z.cell? ⟨wo.heap.size, 6, none⟩ = some (.int .i64 rl) := hz9.tl.cell 6
      have g0 : z.cell? ⟨wo.heap.size + 1, 0, none⟩ = some (.int .u64 (u 0)) := hz9.cell 0
      have g1 : z.cell? ⟨wo.heap.size + 1, 1, none⟩ = some (.int .u64 (u 1)) := hz9.cell 1
      have g2 : z.cell? ⟨wo.heap.size + 1, 2, none⟩ = some (.int .u64 (u 2)) := hz9.cell 2
      have g3 : z.cell? ⟨wo.heap.size + 1, 3, none⟩ = some (.int .u64 (u 3)) := hz9.cell 3
      have g4 : z.cell? ⟨wo.heap.size + 1, 4, none⟩ = some (.int .i64 tg) := hz9.cell 4
      have g5 : z.cell? ⟨wo.heap.size + 1, 5, none⟩ = some (.slice qg fr.length g) := hz9.cell 5
      have g6 : z.cell? ⟨wo.heap.size + 1, 6, none⟩ = some (.int .i64 rl) := hz9.cell 6
      have hns := neq47s u
      have hn1 : (tg != tg) = false := by simp
      have hn2 : (rl != rl) = false := by simp
      clear hz9 hzs
      go_wp2_with fail
      refine HCC.out.mono ?_
      rintro _ w7 ⟨rfl, hb7⟩
      rw [decide_true]
      have HSA := Lib.hid ((HZ.out.up hb7).tl.tl)
      clear hb7 HCC HZ c0 c1 c2 c3 c4 c5 c6 g0 g1 g2 g3 g4 g5 g6 hns hn1 hn2
      go_wp2_with fail
      go_roundw
      case rel => exact ⟨j + 1, by go_num, by omega, HSA⟩
      case measure => simp [intOf]; omega
    · refine at_worldQ (fun z => Sb w z [(wo.heap.size + 1, (.cells #[.int .u64 (u 0), .int .u64 (u 1), .int .u64 (u 2), .int .u64 (u 3), .int .i64 tg, .slice qf fr.length f, .int .i64 rl] 49)), (wo.heap.size, (.cells #[.int .u64 (u 0), .int .u64 (u 1), .int .u64 (u 2), .int .u64 (u 3), .int .i64 tg, .slice qg fr.length g, .int .i64 rl] 49)), (w.heap.size + 1, (.cells #[.int .i64 st, .slice (some ⟨bb, ob, none⟩) ss.length cb] 24)), (w.heap.size, (.cells #[.int .i64 st, .slice (some ⟨ba, oa, none⟩) ss.length ca] 24))]) HW2.out fun z hz9 => ?_
      have HZ := Lib.hid hz9
      have hzs := hz9.1.size
      have HCC : Hid (Calls Try.prog 21 #[.slice qf fr.length f, .slice qg fr.length g] z fun e w' => e = .returned (.bool (decide (fr = fr))) ∧ Below z.heap.size z w') := Lib.hid (same_any (D := D) (E := E) (by have := HFN.out; omega) (fun b hb => Nat.lt_of_lt_of_le (HD.out b hb) hzs) (fun b hb => Nat.lt_of_lt_of_le (HE.out b hb) hzs) (HIV.out.mono (fun b h => h) (fun b hb _ => hz9.1.block b (HD.out b hb))) (HIV2.out.mono (fun b h => h) (fun b hb _ => hz9.1.block b (HE.out b hb))))
      have c0 : z.cell? ⟨wo.heap.size + 1, 0, none⟩ = some (.int .u64 (u 0)) := hz9.cell 0
      have c1 : z.cell? ⟨wo.heap.size + 1, 1, none⟩ = some (.int .u64 (u 1)) := hz9.cell 1
      have c2 : z.cell? ⟨wo.heap.size + 1, 2, none⟩ = some (.int .u64 (u 2)) := hz9.cell 2
      have c3 : z.cell? ⟨wo.heap.size + 1, 3, none⟩ = some (.int .u64 (u 3)) := hz9.cell 3
      have c4 : z.cell? ⟨wo.heap.size + 1, 4, none⟩ = some (.int .i64 tg) := hz9.cell 4
      have c5 : z.cell? ⟨wo.heap.size + 1, 5, none⟩ = some (.slice qf fr.length f) := hz9.cell 5
      have c6 : z.cell? ⟨wo.heap.size + 1, 6, none⟩ = some (.int .i64 rl) := hz9.cell 6
      have g0 : z.cell? ⟨wo.heap.size, 0, none⟩ = some (.int .u64 (u 0)) := hz9.tl.cell 0
      have g1 : z.cell? ⟨wo.heap.size, 1, none⟩ = some (.int .u64 (u 1)) := hz9.tl.cell 1
      have g2 : z.cell? ⟨wo.heap.size, 2, none⟩ = some (.int .u64 (u 2)) := hz9.tl.cell 2
      have g3 : z.cell? ⟨wo.heap.size, 3, none⟩ = some (.int .u64 (u 3)) := hz9.tl.cell 3
      have g4 : z.cell? ⟨wo.heap.size, 4, none⟩ = some (.int .i64 tg) := hz9.tl.cell 4
      have g5 : z.cell? ⟨wo.heap.size, 5, none⟩ = some (.slice qg fr.length g) := hz9.tl.cell 5
      have g6 : z.cell? ⟨wo.heap.size, 6, none⟩ = some (.int .i64 rl) := hz9.tl.cell 6
      have hns := neq47s u
      have hn1 : (tg != tg) = false := by simp
      have hn2 : (rl != rl) = false := by simp
      clear hz9 hzs
      go_wp2_with fail
      refine HCC.out.mono ?_
      rintro _ w7 ⟨rfl, hb7⟩
      rw [decide_true]
      have HSA := Lib.hid ((HZ.out.up hb7).tl.tl)
      clear hb7 HCC HZ c0 c1 c2 c3 c4 c5 c6 g0 g1 g2 g3 g4 g5 g6 hns hn1 hn2
      go_wp2_with fail
      go_roundw
      case rel => exact ⟨j + 1, by go_num, by omega, HSA⟩
      case measure => simp [intOf]; omega
  · obtain rfl : j = ss.length := by omega
    have ka : wo.cell? ⟨w.heap.size, 1, none⟩ = some (.slice qa ss.length ca) := HS.out.tl.cell 1
    have hltI : ¬ (ss.length : Int) < (ss.length : Int) := by omega
    go_wp2_with fail
    go_ret
    exact ⟨rfl, HS.out.1⟩
end Go.Proofs.Ytnhfeakndofokaa
