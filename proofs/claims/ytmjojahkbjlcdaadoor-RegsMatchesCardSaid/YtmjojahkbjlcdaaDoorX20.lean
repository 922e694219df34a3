/- Texts of package regs, one behind the other. -/
import Derived.Lib.BufferKept
import Derived.Test.YtmjojahkbjlcdaaDoorProg
import Derived.Test.YtmjojahkbjlcdaaDoorX3
import Derived.Test.YtmjojahkbjlcdaaDoorX4
import Derived.WalkKit
import Derived.WalkLawsBesides
import Derived.WalkSpells
import Derived.Outline
import Derived.Lib.Walk
import Derived.Lib.Hide
import Derived.RegionTactic
import Derived.LoopTactic
import Derived.Below
import Derived.IntWalk
import Derived.Deep.QuietTactic
import Derived.BigQuiet
import Derived.Test.YtmjojahkbjlcdaaDoorX19
import Derived.Test.YtmjojahkbjlcdaaDoorX10
import Derived.Test.YtmjojahkbjlcdaaDoorX18
import Derived.Test.YtmjojahkbjlcdaaDoorX2
import Derived.Test.YtmjojahkbjlcdaaDoorGM
section
/- Package regs: the reader's small steps: what comes next. -/
namespace Go.Proofs.YtmjojahkbjlcdaaDoor
set_option linter.unusedSimpArgs false
set_option linter.unusedVariables false
set_option maxRecDepth 100000
open Go.RowKit

def sameU (u o : Nat → Int) : Bool := u 0 == o 0 && (u 1 == o 1 && (u 2 == o 2 && u 3 == o 3))
set_option maxHeartbeats 2000000 in
theorem eql24g (u o : Nat → Int) (w : World) : (binOp .eql 24 (.agg #[.int .u64 (u 0), .int .u64 (u 1), .int .u64 (u 2), .int .u64 (u 3)]) (.agg #[.int .u64 (o 0), .int .u64 (o 1), .int .u64 (o 2), .int .u64 (o 3)])).run Tryd.prog w = .ok (.bool (sameU u o)) w := by
  have h : ∀ (x y : Int) w, (Op.equalIn 9999 22 (.int .u64 x) (.int .u64 y)).run Tryd.prog w = .ok (x == y) w := fun x y w => eq22g 9998 x y w
  have e : ∀ w, (Op.equalIn 10000 24 (.agg #[.int .u64 (u 0), .int .u64 (u 1), .int .u64 (u 2), .int .u64 (u 3)]) (.agg #[.int .u64 (o 0), .int .u64 (o 1), .int .u64 (o 2), .int .u64 (o 3)])).run Tryd.prog w = .ok (sameU u o) w := fun w => by
    rw [show (10000 : Nat) = 9999 + 1 from rfl, Op.equalIn]
    unfold sameU
    by_cases a0 : u 0 = o 0
    · by_cases a1 : u 1 = o 1
      · by_cases a2 : u 2 = o 2
        · by_cases a3 : u 3 = o 3
          · simp [run_underlying Tryd.underlying24, Tryd.sizeOf22, Std.Legacy.Range.forIn_eq_forIn_range', List.range', part, h, a0, a1, a2, a3]
          · simp [run_underlying Tryd.underlying24, Tryd.sizeOf22, Std.Legacy.Range.forIn_eq_forIn_range', List.range', part, h, a0, a1, a2, a3]
        · simp [run_underlying Tryd.underlying24, Tryd.sizeOf22, Std.Legacy.Range.forIn_eq_forIn_range', List.range', part, h, a0, a1, a2]
      · simp [run_underlying Tryd.underlying24, Tryd.sizeOf22, Std.Legacy.Range.forIn_eq_forIn_range', List.range', part, h, a0, a1]
    · simp [run_underlying Tryd.underlying24, Tryd.sizeOf22, Std.Legacy.Range.forIn_eq_forIn_range', List.range', part, h, a0]
  simp only [binOp]
  simp [Op.equal, Op.maxDepth, e]
theorem wp_eql24g {o : Oper} {a : Act} {w : World} {K : Act → World → Prop} {Q : Exit → Act → World → Prop} (x y : Operand) (t : TypeId) (ho : o.op = .binOp .eql 24 x y t) (p q : Nat → Int)
    (hx : a.eval x = vv p) (hy : a.eval y = vv q) (h : K (a.put o.dst (.bool (sameU p q))) w) : o.wp Tryd.prog a w K Q := by
  unfold Oper.wp execOp
  simp only [ho, hx, hy]
  have hq : (binOp .eql 24 (vv p) (vv q)).run Tryd.prog w = .ok (.bool (sameU p q)) w := eql24g p q w
  have hg : (eqGuard .eql 24 x y (vv p) (vv q)).run Tryd.prog w = .ok () w := by
    unfold eqGuard vv
    simp [run_underlying Tryd.underlying24]
  generalize hv : vv p = v at hq hg ⊢
  simp only [Sem.run_bind, hg, Result.andThen_ok, hq]
  exact h
/-- A set as an atom. -/
def wset (f : Nat → Bool) : List UInt8 := if sameU (wf f) (wf inlF) = true then [46] else if cntF f 256 = 1 then wrb ((mem f 256).headD 0) else pr f
-- CUT
theorem Wk.up {B b : Nat} {l : List UInt8} {w0 w w' : World} (h : Wk B b l w0 w) (hBw : B ≤ w0.heap.size) (hb : Below w.heap.size w w') : Wk B b l w0 w' :=
  ⟨h.1.up hb, h.2.1.trans (hb.mono (Nat.le_trans hBw h.size)), Lib.OthersKept.below h.2.2 hb⟩
set_option maxHeartbeats 4000000 in
theorem wset_A {B b : Nat} {m : List UInt8} {w0 w : World} (u o : Nat → Int) (hin : Hid (∀ w, Calls Tryd.prog 70 #[] w fun e w' => e = .returned (vv o) ∧ Below w.heap.size w w')) (hs : sameU u o = true) (h : Wk B b m w0 w) (hlen : m.length < 400000) (hBw : B ≤ w0.heap.size) :
    Calls Tryd.prog 51 #[.pointer (some ⟨b, 0, none⟩), vv u] w fun e w' => e = .returned (.tuple #[]) ∧ Wk B b (m ++ [46]) w0 w' := by
  have S0 := Lib.hid ((Sb.start w).alloc (.cells (vc u) 24))
  have HW := Lib.hid h
  have HH := Lib.hid hs
  clear h hs
  go_enter Tryd.func51, Tryd.ntmps51
  go_wp2_with fail
  refine wp_region_owed (fun l act w1 => ∃ X : Nat → Value, act = ⟨(List.toArray (.pointer (some ⟨b, 0, none⟩) :: vv u :: undef :: .pointer (some ⟨w.heap.size, 0, none⟩) :: undef :: undef :: undef :: undef :: X 3 :: X 0 :: X 1 :: X 2 :: undef :: undef :: undef :: undef :: undef :: undef :: undef :: undef :: undef :: undef :: undef :: [])), []⟩ ∧ (∀ i, l i = true → ([0, 1, 2, 3] : List Nat).contains i = true → X i = (fun i => ([vv u, vv o, .bool (sameU u o), .bool (sameU u o)] : List Value).getD i undef) i) ∧ Sb w w1 [(w.heap.size, .cells (vc u) 24)]) (by kernel_rfl) (by kernel_rfl) ⟨(fun i => ([undef, undef, undef, undef] : List Value).getD i undef), rfl, (fun i h => by cases h), S0.out.drew⟩ ?sta ?fina
  case sta =>
    go_light
    refine Owed.next (n := 0) (o := ?oa0) ?hoa0 ?ha0 ?hsa0
    case hoa0 => rfl
    case ha0 =>
      intro l act w1 hw hl hI K hK
      obtain ⟨X, rfl, hX, hT⟩ := hI
      have HX := Lib.hid (packsM 0 hX [] (fun _ h => nomatch h))
      clear hX
      have v0 := hT.vw 0 (by omega)
      have v1 := hT.vw 1 (by omega)
      have v2 := hT.vw 2 (by omega)
      have v3 := hT.vw 3 (by omega)
      rw [if_pos (by rfl)]
      go_wp2_with fail
      exact hK.out _ _ ⟨fun j => bif (0 :: []).contains j then (fun i => ([vv u, vv o, .bool (sameU u o), .bool (sameU u o)] : List Value).getD i undef) j else X j, rfl, HX.out, hT⟩
    refine Owed.next (n := 1) (o := ?oa1) ?hoa1 ?ha1 ?hsa1
    case hoa1 => rfl
    case ha1 =>
      intro l act w1 hw hl hI K hK
      obtain ⟨X, rfl, hX, hT⟩ := hI
      have HX := Lib.hid (packsM 1 hX [] (fun _ h => nomatch h))
      clear hX
      rw [if_pos (by rfl)]
      go_wp2_with fail
      refine (hin.out _).mono ?_
      rintro _ w2 ⟨rfl, hb⟩
      exact hK.out _ _ ⟨fun j => bif (1 :: []).contains j then (fun i => ([vv u, vv o, .bool (sameU u o), .bool (sameU u o)] : List Value).getD i undef) j else X j, rfl, HX.out, hT.up hb⟩
    refine Owed.next (n := 2) (o := ?oa2) ?hoa2 ?ha2 ?hsa2
    case hoa2 => rfl
    case ha2 =>
      intro l act w1 hw hl hI K hK
      obtain ⟨X, rfl, hX, hT⟩ := hI
      have h0 : X 0 = vv u := hX 0 (hw 0 (by kernel_rfl)) (by kernel_rfl)
      have h1 : X 1 = vv o := hX 1 (hw 1 (by kernel_rfl)) (by kernel_rfl)
      have HX := Lib.hid (packsM 2 hX [0, 1] (List.forall_mem_cons.2 ⟨hw 0 (by kernel_rfl), (List.forall_mem_cons.2 ⟨hw 1 (by kernel_rfl), (fun _ h => nomatch h)⟩)⟩))
      clear hX
      rw [h0, h1]
      clear h0 h1
      rw [if_pos (by rfl)]
      refine wp_eql24g (.tmp 9) (.tmp 10) _ rfl u o rfl rfl ?_
      exact hK.out _ _ ⟨fun j => bif (2 :: [0, 1]).contains j then (fun i => ([vv u, vv o, .bool (sameU u o), .bool (sameU u o)] : List Value).getD i undef) j else X j, rfl, HX.out, hT⟩
    refine Owed.next (n := 3) (o := ?oa3) ?hoa3 ?ha3 ?hsa3
    case hoa3 => rfl
    case ha3 =>
      intro l act w1 hw hl hI K hK
      obtain ⟨X, rfl, hX, hT⟩ := hI
      have h2 : X 2 = .bool (sameU u o) := hX 2 (hw 2 (by kernel_rfl)) (by kernel_rfl)
      have h1 : X 1 = vv o := hX 1 (hw 1 (by kernel_rfl)) (by kernel_rfl)
      have HX := Lib.hid (packsM 3 hX [2, 1] (List.forall_mem_cons.2 ⟨hw 2 (by kernel_rfl), (List.forall_mem_cons.2 ⟨hw 1 (by kernel_rfl), (fun _ h => nomatch h)⟩)⟩))
      clear hX
      rw [h2, h1]
      clear h2 h1
      rw [if_pos (by rfl)]
      go_wp2_with fail
      exact hK.out _ _ ⟨fun j => bif (3 :: [2, 1]).contains j then (fun i => ([vv u, vv o, .bool (sameU u o), .bool (sameU u o)] : List Value).getD i undef) j else X j, rfl, HX.out, hT⟩
    exact Owed.last rfl
  case fina =>
    intro l act w1 hl hI
    obtain ⟨X, rfl, hX, hT⟩ := hI
    have h0 : X 0 = vv u := hX 0 (hl 0 (by kernel_rfl)) (by kernel_rfl)
    have h1 : X 1 = vv o := hX 1 (hl 1 (by kernel_rfl)) (by kernel_rfl)
    have h2 : X 2 = .bool (sameU u o) := hX 2 (hl 2 (by kernel_rfl)) (by kernel_rfl)
    have h3 : X 3 = .bool (sameU u o) := hX 3 (hl 3 (by kernel_rfl)) (by kernel_rfl)
    rw [h0, h1, h2, h3]
    clear h0 h1 h2 h3 hX
    have HT := Lib.hid hT
    clear hT hl X
    rw [HH.out]
    have HK := Lib.hid (HW.out.up hBw HT.out.1)
    have HWB := wb_hid B b m w0 46 (by omega) hBw
    go_wp2_with fail
    refine (HWB.out _ HK.out).mono ?_
    rintro _ w4 ⟨rfl, hk⟩
    have H4 := Lib.hid hk
    clear hk
    go_wp2
    go_end0
    exact ⟨rfl, H4.out⟩
set_option maxHeartbeats 4000000 in
theorem wset_B {B b : Nat} {m : List UInt8} {w0 w : World} (u o : Nat → Int) (hin : Hid (∀ w, Calls Tryd.prog 70 #[] w fun e w' => e = .returned (vv o) ∧ Below w.heap.size w w')) (hs : sameU u o = false) (c : UInt8) (hC : Hid (∀ w, Calls Tryd.prog 71 #[vv u] w fun e w' => e = .returned (.int .i64 1) ∧ Below w.heap.size w w')) (hM : Hid (∀ w, Calls Tryd.prog 73 #[vv u] w fun e w' => e = .returned (.string ⟨#[c]⟩) ∧ Below w.heap.size w w')) (h : Wk B b m w0 w) (hlen : m.length < 400000) (hBw : B ≤ w0.heap.size) :
    Calls Tryd.prog 51 #[.pointer (some ⟨b, 0, none⟩), vv u] w fun e w' => e = .returned (.tuple #[]) ∧ Wk B b (m ++ wrb c) w0 w' := by
  have S0 := Lib.hid ((Sb.start w).alloc (.cells (vc u) 24))
  have HW := Lib.hid h
  have HH := Lib.hid hs
  clear h hs
  go_enter Tryd.func51, Tryd.ntmps51
  go_wp2_with fail
  refine wp_region_owed (fun l act w1 => ∃ X : Nat → Value, act = ⟨(List.toArray (.pointer (some ⟨b, 0, none⟩) :: vv u :: undef :: .pointer (some ⟨w.heap.size, 0, none⟩) :: undef :: undef :: undef :: undef :: X 3 :: X 0 :: X 1 :: X 2 :: undef :: undef :: undef :: undef :: undef :: undef :: undef :: undef :: undef :: undef :: undef :: [])), []⟩ ∧ (∀ i, l i = true → ([0, 1, 2, 3] : List Nat).contains i = true → X i = (fun i => ([vv u, vv o, .bool (sameU u o), .bool (sameU u o)] : List Value).getD i undef) i) ∧ Sb w w1 [(w.heap.size, .cells (vc u) 24)]) (by kernel_rfl) (by kernel_rfl) ⟨(fun i => ([undef, undef, undef, undef] : List Value).getD i undef), rfl, (fun i h => by cases h), S0.out.drew⟩ ?sta ?fina
  case sta =>
    go_light
    refine Owed.next (n := 0) (o := ?oa0) ?hoa0 ?ha0 ?hsa0
    case hoa0 => rfl
    case ha0 =>
      intro l act w1 hw hl hI K hK
      obtain ⟨X, rfl, hX, hT⟩ := hI
      have HX := Lib.hid (packsM 0 hX [] (fun _ h => nomatch h))
      clear hX
      have v0 := hT.vw 0 (by omega)
      have v1 := hT.vw 1 (by omega)
      have v2 := hT.vw 2 (by omega)
      have v3 := hT.vw 3 (by omega)
      rw [if_pos (by rfl)]
      go_wp2_with fail
      exact hK.out _ _ ⟨fun j => bif (0 :: []).contains j then (fun i => ([vv u, vv o, .bool (sameU u o), .bool (sameU u o)] : List Value).getD i undef) j else X j, rfl, HX.out, hT⟩
    refine Owed.next (n := 1) (o := ?oa1) ?hoa1 ?ha1 ?hsa1
    case hoa1 => rfl
    case ha1 =>
      intro l act w1 hw hl hI K hK
      obtain ⟨X, rfl, hX, hT⟩ := hI
      have HX := Lib.hid (packsM 1 hX [] (fun _ h => nomatch h))
      clear hX
      rw [if_pos (by rfl)]
      go_wp2_with fail
      refine (hin.out _).mono ?_
      rintro _ w2 ⟨rfl, hb⟩
      exact hK.out _ _ ⟨fun j => bif (1 :: []).contains j then (fun i => ([vv u, vv o, .bool (sameU u o), .bool (sameU u o)] : List Value).getD i undef) j else X j, rfl, HX.out, hT.up hb⟩
    refine Owed.next (n := 2) (o := ?oa2) ?hoa2 ?ha2 ?hsa2
    case hoa2 => rfl
    case ha2 =>
      intro l act w1 hw hl hI K hK
      obtain ⟨X, rfl, hX, hT⟩ := hI
      have h0 : X 0 = vv u := hX 0 (hw 0 (by kernel_rfl)) (by kernel_rfl)
      have h1 : X 1 = vv o := hX 1 (hw 1 (by kernel_rfl)) (by kernel_rfl)
      have HX := Lib.hid (packsM 2 hX [0, 1] (List.forall_mem_cons.2 ⟨hw 0 (by kernel_rfl), (List.forall_mem_cons.2 ⟨hw 1 (by kernel_rfl), (fun _ h => nomatch h)⟩)⟩))
      clear hX
      rw [h0, h1]
      clear h0 h1
      rw [if_pos (by rfl)]
      refine wp_eql24g (.tmp 9) (.tmp 10) _ rfl u o rfl rfl ?_
      exact hK.out _ _ ⟨fun j => bif (2 :: [0, 1]).contains j then (fun i => ([vv u, vv o, .bool (sameU u o), .bool (sameU u o)] : List Value).getD i undef) j else X j, rfl, HX.out, hT⟩
    refine Owed.next (n := 3) (o := ?oa3) ?hoa3 ?ha3 ?hsa3
    case hoa3 => rfl
    case ha3 =>
      intro l act w1 hw hl hI K hK
      obtain ⟨X, rfl, hX, hT⟩ := hI
      have h2 : X 2 = .bool (sameU u o) := hX 2 (hw 2 (by kernel_rfl)) (by kernel_rfl)
      have h1 : X 1 = vv o := hX 1 (hw 1 (by kernel_rfl)) (by kernel_rfl)
      have HX := Lib.hid (packsM 3 hX [2, 1] (List.forall_mem_cons.2 ⟨hw 2 (by kernel_rfl), (List.forall_mem_cons.2 ⟨hw 1 (by kernel_rfl), (fun _ h => nomatch h)⟩)⟩))
      clear hX
      rw [h2, h1]
      clear h2 h1
      rw [if_pos (by rfl)]
      go_wp2_with fail
      exact hK.out _ _ ⟨fun j => bif (3 :: [2, 1]).contains j then (fun i => ([vv u, vv o, .bool (sameU u o), .bool (sameU u o)] : List Value).getD i undef) j else X j, rfl, HX.out, hT⟩
    exact Owed.last rfl
  case fina =>
    intro l act w1 hl hI
    obtain ⟨X, rfl, hX, hT⟩ := hI
    have h0 : X 0 = vv u := hX 0 (hl 0 (by kernel_rfl)) (by kernel_rfl)
    have h1 : X 1 = vv o := hX 1 (hl 1 (by kernel_rfl)) (by kernel_rfl)
    have h2 : X 2 = .bool (sameU u o) := hX 2 (hl 2 (by kernel_rfl)) (by kernel_rfl)
    have h3 : X 3 = .bool (sameU u o) := hX 3 (hl 3 (by kernel_rfl)) (by kernel_rfl)
    rw [h0, h1, h2, h3]
    clear h0 h1 h2 h3 hX
    have HT := Lib.hid hT
    clear hT hl X
    rw [HH.out]
    have HK := Lib.hid (HW.out.up hBw HT.out.1)
    have v0 := HT.out.vw 0 (by omega)
    have v1 := HT.out.vw 1 (by omega)
    have v2 := HT.out.vw 2 (by omega)
    have v3 := HT.out.vw 3 (by omega)
    go_wp2_with fail
    refine (hC.out _).mono ?_
    rintro _ w4 ⟨rfl, hb⟩
    have H4 := Lib.hid (HK.out.up hBw hb)
    have T4 := Lib.hid (HT.out.up hb)
    clear hb v0 v1 v2 v3
    have v0 := T4.out.vw 0 (by omega)
    have v1 := T4.out.vw 1 (by omega)
    have v2 := T4.out.vw 2 (by omega)
    have v3 := T4.out.vw 3 (by omega)
    have HB : Hid (∀ w, Wk B b m w0 w → Calls Tryd.prog 72 #[.pointer (some ⟨b, 0, none⟩), .int .u8 c.toNat] w fun e w' => e = .returned (.tuple #[]) ∧ Wk B b (m ++ wrb c) w0 w') := Lib.hid fun w h => wbyte_any c h (by omega) hBw
    go_wp2_with fail
    refine (hM.out _).mono ?_
    rintro _ w5 ⟨rfl, hb⟩
    have H5 := Lib.hid (H4.out.up hBw hb)
    clear hb v0 v1 v2 v3
    go_wp2_with fail
    refine (HB.out _ H5.out).mono ?_
    rintro _ w6 ⟨rfl, hk⟩
    have H6 := Lib.hid hk
    clear hk
    go_wp2
    go_end0
    exact ⟨rfl, H6.out⟩
set_option maxHeartbeats 4000000 in
theorem wset_C {B b : Nat} {m : List UInt8} {w0 w : World} (u o : Nat → Int) (hin : Hid (∀ w, Calls Tryd.prog 70 #[] w fun e w' => e = .returned (vv o) ∧ Below w.heap.size w w')) (hs : sameU u o = false) (n : Int) (hn : (n == 1) = false) (t : List UInt8) (ht : t.length < 400000) (hC : Hid (∀ w, Calls Tryd.prog 71 #[vv u] w fun e w' => e = .returned (.int .i64 n) ∧ Below w.heap.size w w')) (hP : Hid (∀ w, Calls Tryd.prog 74 #[vv u] w fun e w' => e = .returned (.string (bs t)) ∧ Below w.heap.size w w')) (h : Wk B b m w0 w) (hlen : m.length < 400000) (hBw : B ≤ w0.heap.size) :
    Calls Tryd.prog 51 #[.pointer (some ⟨b, 0, none⟩), vv u] w fun e w' => e = .returned (.tuple #[]) ∧ Wk B b (m ++ t) w0 w' := by
  have S0 := Lib.hid ((Sb.start w).alloc (.cells (vc u) 24))
  have HW := Lib.hid h
  have HH := Lib.hid hs
  clear h hs
  go_enter Tryd.func51, Tryd.ntmps51
  go_wp2_with fail
  refine wp_region_owed (fun l act w1 => ∃ X : Nat → Value, act = ⟨(List.toArray (.pointer (some ⟨b, 0, none⟩) :: vv u :: undef :: .pointer (some ⟨w.heap.size, 0, none⟩) :: undef :: undef :: undef :: undef :: X 3 :: X 0 :: X 1 :: X 2 :: undef :: undef :: undef :: undef :: undef :: undef :: undef :: undef :: undef :: undef :: undef :: [])), []⟩ ∧ (∀ i, l i = true → ([0, 1, 2, 3] : List Nat).contains i = true → X i = (fun i => ([vv u, vv o, .bool (sameU u o), .bool (sameU u o)] : List Value).getD i undef) i) ∧ Sb w w1 [(w.heap.size, .cells (vc u) 24)]) (by kernel_rfl) (by kernel_rfl) ⟨(fun i => ([undef, undef, undef, undef] : List Value).getD i undef), rfl, (fun i h => by cases h), S0.out.drew⟩ ?sta ?fina
  case sta =>
    go_light
    refine Owed.next (n := 0) (o := ?oa0) ?hoa0 ?ha0 ?hsa0
    case hoa0 => rfl
    case ha0 =>
      intro l act w1 hw hl hI K hK
      obtain ⟨X, rfl, hX, hT⟩ := hI
      have HX := Lib.hid (packsM 0 hX [] (fun _ h => nomatch h))
      clear hX
      have v0 := hT.vw 0 (by omega)
      have v1 := hT.vw 1 (by omega)
      have v2 := hT.vw 2 (by omega)
      have v3 := hT.vw 3 (by omega)
      rw [if_pos (by rfl)]
      go_wp2_with fail
      exact hK.out _ _ ⟨fun j => bif (0 :: []).contains j then (fun i => ([vv u, vv o, .bool (sameU u o), .bool (sameU u o)] : List Value).getD i undef) j else X j, rfl, HX.out, hT⟩
    refine Owed.next (n := 1) (o := ?oa1) ?hoa1 ?ha1 ?hsa1
    case hoa1 => rfl
    case ha1 =>
      intro l act w1 hw hl hI K hK
      obtain ⟨X, rfl, hX, hT⟩ := hI
      have HX := Lib.hid (packsM 1 hX [] (fun _ h => nomatch h))
      clear hX
      rw [if_pos (by rfl)]
      go_wp2_with fail
      refine (hin.out _).mono ?_
      rintro _ w2 ⟨rfl, hb⟩
      exact hK.out _ _ ⟨fun j => bif (1 :: []).contains j then (fun i => ([vv u, vv o, .bool (sameU u o), .bool (sameU u o)] : List Value).getD i undef) j else X j, rfl, HX.out, hT.up hb⟩
    refine Owed.next (n := 2) (o := ?oa2) ?hoa2 ?ha2 ?hsa2
    case hoa2 => rfl
    case ha2 =>
      intro l act w1 hw hl hI K hK
      obtain ⟨X, rfl, hX, hT⟩ := hI
      have h0 : X 0 = vv u := hX 0 (hw 0 (by kernel_rfl)) (by kernel_rfl)
      have h1 : X 1 = vv o := hX 1 (hw 1 (by kernel_rfl)) (by kernel_rfl)
      have HX := Lib.hid (packsM 2 hX [0, 1] (List.forall_mem_cons.2 ⟨hw 0 (by kernel_rfl), (List.forall_mem_cons.2 ⟨hw 1 (by kernel_rfl), (fun _ h => nomatch h)⟩)⟩))
      clear hX
      rw [h0, h1]
      clear h0 h1
      rw [if_pos (by rfl)]
      refine wp_eql24g (.tmp 9) (.tmp 10) _ rfl u o rfl rfl ?_
      exact hK.out _ _ ⟨fun j => bif (2 :: [0, 1]).contains j then (fun i => ([vv u, vv o, .bool (sameU u o), .bool (sameU u o)] : List Value).getD i undef) j else X j, rfl, HX.out, hT⟩
    refine Owed.next (n := 3) (o := ?oa3) ?hoa3 ?ha3 ?hsa3
    case hoa3 => rfl
    case ha3 =>
      intro l act w1 hw hl hI K hK
      obtain ⟨X, rfl, hX, hT⟩ := hI
      have h2 : X 2 = .bool (sameU u o) := hX 2 (hw 2 (by kernel_rfl)) (by kernel_rfl)
      have h1 : X 1 = vv o := hX 1 (hw 1 (by kernel_rfl)) (by kernel_rfl)
      have HX := Lib.hid (packsM 3 hX [2, 1] (List.forall_mem_cons.2 ⟨hw 2 (by kernel_rfl), (List.forall_mem_cons.2 ⟨hw 1 (by kernel_rfl), (fun _ h => nomatch h)⟩)⟩))
      clear hX
      rw [h2, h1]
      clear h2 h1
      rw [if_pos (by rfl)]
      go_wp2_with fail
      exact hK.out _ _ ⟨fun j => bif (3 :: [2, 1]).contains j then (fun i => ([vv u, vv o, .bool (sameU u o), .bool (sameU u o)] : List Value).getD i undef) j else X j, rfl, HX.out, hT⟩
    exact Owed.last rfl
  case fina =>
    intro l act w1 hl hI
    obtain ⟨X, rfl, hX, hT⟩ := hI
    have h0 : X 0 = vv u := hX 0 (hl 0 (by kernel_rfl)) (by kernel_rfl)
    have h1 : X 1 = vv o := hX 1 (hl 1 (by kernel_rfl)) (by kernel_rfl)
    have h2 : X 2 = .bool (sameU u o) := hX 2 (hl 2 (by kernel_rfl)) (by kernel_rfl)
    have h3 : X 3 = .bool (sameU u o) := hX 3 (hl 3 (by kernel_rfl)) (by kernel_rfl)
    rw [h0, h1, h2, h3]
    clear h0 h1 h2 h3 hX
    have HT := Lib.hid hT
    clear hT hl X
    rw [HH.out]
    have HK := Lib.hid (HW.out.up hBw HT.out.1)
    have v0 := HT.out.vw 0 (by omega)
    have v1 := HT.out.vw 1 (by omega)
    have v2 := HT.out.vw 2 (by omega)
    have v3 := HT.out.vw 3 (by omega)
    go_wp2_with fail
    refine (hC.out _).mono ?_
    rintro _ w4 ⟨rfl, hb⟩
    have H4 := Lib.hid (HK.out.up hBw hb)
    have T4 := Lib.hid (HT.out.up hb)
    clear hb v0 v1 v2 v3
    have v0 := T4.out.vw 0 (by omega)
    have v1 := T4.out.vw 1 (by omega)
    have v2 := T4.out.vw 2 (by omega)
    have v3 := T4.out.vw 3 (by omega)
    have HB : Hid (∀ w, Wk B b m w0 w → Calls Tryd.prog 50 #[.pointer (some ⟨b, 0, none⟩), .string (bs t)] w fun e w' => e = .returned (.tuple #[.int .i64 (bs t).size, .nilIface]) ∧ Wk B b (m ++ t) w0 w') := Lib.hid fun w h => Wk.str h t (by omega) (Nat.le_trans hBw h.size)
    go_wp2_with fail
    refine (hP.out _).mono ?_
    rintro _ w5 ⟨rfl, hb⟩
    have H5 := Lib.hid (H4.out.up hBw hb)
    clear hb v0 v1 v2 v3
    go_wp2_with fail
    refine (HB.out _ H5.out).mono ?_
    rintro _ w6 ⟨rfl, hk⟩
    have H6 := Lib.hid hk
    clear hk
    go_wp2
    go_end0
    exact ⟨rfl, H6.out⟩
theorem wset_any {B b : Nat} {m : List UInt8} {w0 w : World} (f : Nat → Bool) (h : Wk B b m w0 w) (hlen : m.length < 400000) (hBw : B ≤ w0.heap.size) :
    Calls Tryd.prog 51 #[.pointer (some ⟨b, 0, none⟩), vv (wf f)] w fun e w' => e = .returned (.tuple #[]) ∧ Wk B b (m ++ wset f) w0 w' := by
  have hin : Hid (∀ w, Calls Tryd.prog 70 #[] w fun e w' => e = .returned (vv (wf inlF)) ∧ Below w.heap.size w w') := Lib.hid fun w => inLine_any w
  have hCn := count_any f
  have hMn := members_any f
  have hPn := print_any f
  have hl := pr_len f
  have hm := mem_len f 256
  unfold wset
  generalize hs : sameU (wf f) (wf inlF) = x
  cases x with
  | true => exact wset_A (wf f) (wf inlF) hin hs h hlen hBw
  | false =>
    by_cases hc : cntF f 256 = 1
    · rw [hc] at hm hCn
      obtain ⟨c, hcm⟩ := List.length_eq_one_iff.1 hm
      rw [hcm] at hMn ⊢
      have := wset_B (wf f) (wf inlF) hin hs c (Lib.hid hCn) (Lib.hid hMn) h hlen hBw
      simpa [hc] using this
    · have hn : (((cntF f 256 : Nat) : Int) == 1) = false := by rw [beq_eq_false_iff_ne]; omega
      have := wset_C (wf f) (wf inlF) hin hs _ hn (pr f) (by omega) (Lib.hid hCn) (Lib.hid hPn) h hlen hBw
      simpa [hc] using this
end Go.Proofs.YtmjojahkbjlcdaaDoor
end
section
/- Package regs: the reader's small steps: what comes next. -/
namespace Go.Proofs.YtmjojahkbjlcdaaDoor
set_option linter.unusedSimpArgs false
set_option linter.unusedVariables false
set_option maxRecDepth 100000
open Go.RowKit

def kindT : RT → Int | .mk k _ _ => k
mutual
/-- A pattern's text. -/
def wrT : RT → List UInt8
  | .mk k u ps => if k = 0 then [91, 93] else if k = 1 then [] else if k = 2 then wset (fOf u) else if k = 3 then wrL 3 [] true ps else if k = 4 then wrL 4 [124] true ps else wrL k [] true ps ++ (if k = 5 then [42] else if k = 6 then [43] else [63])
def wrL (k : Int) (bt : List UInt8) : Bool → List RT → List UInt8
  | _, [] => []
  | fs, t :: ts => (bif fs then [] else bt) ++ ((bif encB k (kindT t) then [40] ++ wrT t ++ [41] else wrT t) ++ wrL k bt false ts)
end
theorem wrL_drop {k : Int} {bt : List UInt8} {fs : Bool} {ts : List RT} {j : Nat} (h : j < ts.length) : wrL k bt fs (ts.drop j) = (bif fs then [] else bt) ++ ((bif encB k (kindT ts[j]) then [40] ++ wrT ts[j] ++ [41] else wrT ts[j]) ++ wrL k bt false (ts.drop (j + 1))) := by
  rw [List.drop_eq_getElem_cons h, wrL]
/-- What write does with a part. -/
def WT (B b : Nat) (D : Nat → Prop) (t : RT) : Prop := Hid (∀ m v w, Bd B b m w → B ≤ w.heap.size → m.length + (wrT t).length < 300000 → RV D w t v → Calls Tryd.prog 39 #[.pointer (some ⟨b, 0, none⟩), v] w fun e w' => e = .returned (.tuple #[]) ∧ Wk B b (m ++ wrT t) w w')
/-- In a round of the loop: the builder, the two boxes, the part. -/
def PG (B b : Nat) (D : Nat → Prop) (w : World) (rb pb : Nat) (ro po : Array Value) (t : RT) (pv : Value) (l : List UInt8) (x : World) : Prop := Wk B b l w x ∧ x.heap[rb]? = some (.cells ro 27 (0, 0)) ∧ x.heap[pb]? = some (.cells po 27 (0, 0)) ∧ RV D x t pv
theorem PG.step {B b : Nat} {D : Nat → Prop} {w x y : World} {rb pb : Nat} {ro po : Array Value} {t : RT} {pv : Value} {l l' : List UInt8} (hDB : ∀ b, D b → b < B) (hrb : rb ≠ b) (hpb : pb ≠ b) (h : PG B b D w rb pb ro po t pv l x) (k : Wk B b l' x y) : PG B b D w rb pb ro po t pv l' y :=
  ⟨h.1.trans k, k.2.2 rb _ h.2.1 (by simp [hrb]) (by intro c fz e; cases e), k.2.2 pb _ h.2.2.1 (by simp [hpb]) (by intro c fz e; cases e), RV.mono (fun b h => h) (fun z hz hlt => k.2.1.block z (hDB z hz)) h.2.2.2⟩
theorem PG.r {B b : Nat} {D : Nat → Prop} {w x : World} {rb pb : Nat} {ro po : Array Value} {t : RT} {pv : Value} {l : List UInt8} (h : PG B b D w rb pb ro po t pv l x) (i : Nat) : x.cell? ⟨rb, i, none⟩ = ro[i]? := cell_of_row x rb i _ 27 (0, 0) h.2.1
theorem PG.p {B b : Nat} {D : Nat → Prop} {w x : World} {rb pb : Nat} {ro po : Array Value} {t : RT} {pv : Value} {l : List UInt8} (h : PG B b D w rb pb ro po t pv l x) (i : Nat) : x.cell? ⟨pb, i, none⟩ = po[i]? := cell_of_row x pb i _ 27 (0, 0) h.2.2.1
theorem PG.B {B b : Nat} {D : Nat → Prop} {w x : World} {rb pb : Nat} {ro po : Array Value} {t : RT} {pv : Value} {l : List UInt8} (h : PG B b D w rb pb ro po t pv l x) : B ≤ x.heap.size := h.1.B
theorem RV.kind {D : Nat → Prop} {w : World} {t : RT} {k : Int} {u : Nat → Int} {s : Value} (h : RV D w t (.agg #[.int .i64 k, .int .u64 (u 0), .int .u64 (u 1), .int .u64 (u 2), .int .u64 (u 3), s])) : kindT t = k := by
  cases t with
  | mk k0 u0 ps0 =>
    obtain ⟨p, c, e, _⟩ := h.parts
    simp at e
    exact e.1.symm
set_option maxHeartbeats 4000000 in
theorem wparts_walk {D : Nat → Prop} {B b : Nat} {m bt : List UInt8} {k : Int} {u : Nat → Int} {ps : List RT} {v : Value} {w : World} (hbd : Bd B b m w) (hDB : ∀ b, D b → b < B) (hB : B ≤ w.heap.size) (hlen : m.length + (wrL k bt true ps).length < 300000) (hl : ps.length ≤ 9223372036854775806) (h : RV D w (.mk k u ps) v)
    (hI : ∀ i (hi : i < ps.length), WT B b D ps[i]) :
    Calls Tryd.prog 52 #[.pointer (some ⟨b, 0, none⟩), v, .string (bs bt)] w fun e w' => e = .returned (.tuple #[]) ∧ Wk B b (m ++ wrL k bt true ps) w w' := by
  obtain ⟨p, c, rfl, hp⟩ := h.parts
  have HP := Lib.hid hp
  have hz := zero27l
  clear h hp
  have S0 := (Sb.start w).alloc (.cells #[.int .i64 k, .int .u64 (u 0), .int .u64 (u 1), .int .u64 (u 2), .int .u64 (u 3), .slice p ps.length c] 27)
  have HWk := Lib.hid ((Wk.refl hbd).up hB S0.1)
  have HR0 := Lib.hid S0.heap
  obtain ⟨R, hR⟩ : ∃ R, m ++ wrL k bt true ps = R := ⟨_, rfl⟩
  rw [hR]
  have HR := Lib.hid hR
  have hRl : R.length < 300000 := by rw [← hR]; simpa using hlen
  have hbw := hbd.lt
  have HI := Lib.hid hI
  clear hR hI hlen hbd S0
  go_enter Tryd.func52, Tryd.ntmps52
  go_wp2
  go_loopw [11] (fun i wr => ∃ (j : Nat) (l : List UInt8), j ≤ ps.length ∧ i = .int .i64 j ∧ Hid (l ++ wrL k bt (decide (j = 0)) (ps.drop j) = R) ∧ Hid (Wk B b l w wr) ∧ Hid (wr.heap[w.heap.size]? = some (.cells #[.int .i64 k, .int .u64 (u 0), .int .u64 (u 1), .int .u64 (u 2), .int .u64 (u 3), .slice p ps.length c] 27))) (fun i _ => ps.length - (intOf i).toNat)
  case atStart => exact ⟨0, m, by omega, rfl, HR, HWk, HR0⟩
  case round =>
    obtain ⟨j, l, hj, rfl, HC, HW, HX⟩ := hrel
    clear HWk HR0 HR
    by_cases hlt : j < ps.length
    · have hne : ps ≠ [] := by intro e; subst e; simp at hlt
      obtain ⟨b', o, rfl, hDb, hx⟩ := HP.out hne
      obtain ⟨k', u', p', n', c', hv, hcell⟩ := hx j hlt
      have hkk := hv.kind
      have hbB := hDB b' hDb
      have hbel := HW.out.2.1
      have hwz := HW.out.size
      have cc : ∀ i y, (nodeC k' u' (.slice p' n' c'))[i]? = some y → wr.cell? ⟨b', o + j * 6 + i, none⟩ = some y := fun i y hy => by
        rw [hbel.cell (p := ⟨b', o + j * 6 + i, none⟩) hbB, ← hcell i y hy, show o + j * 6 + i = o + (6 * j + i) by omega]
      have d0 : wr.cell? ⟨b', o + j * 6, none⟩ = some (.int .i64 k') := cc 0 _ rfl
      have d1 : wr.cell? ⟨b', o + j * 6 + 1, none⟩ = some (.int .u64 (u' 0)) := cc 1 _ rfl
      have d2 : wr.cell? ⟨b', o + j * 6 + 2, none⟩ = some (.int .u64 (u' 1)) := cc 2 _ rfl
      have d3 : wr.cell? ⟨b', o + j * 6 + 3, none⟩ = some (.int .u64 (u' 2)) := cc 3 _ rfl
      have d4 : wr.cell? ⟨b', o + j * 6 + 4, none⟩ = some (.int .u64 (u' 3)) := cc 4 _ rfl
      have d5 : wr.cell? ⟨b', o + j * 6 + 5, none⟩ = some (.slice p' n' c') := cc 5 _ rfl
      have r0 : wr.cell? ⟨w.heap.size, 0, none⟩ = some (.int .i64 k) := cell_of_row wr w.heap.size 0 _ 27 (0, 0) HX.out
      have hab : Below wr.heap.size wr (wr.alloc (.cells #[.int .i64 k', .int .u64 (u' 0), .int .u64 (u' 1), .int .u64 (u' 2), .int .u64 (u' 3), .slice p' n' c'] 27)) := (Below.refl _ _).alloc (Nat.le_refl _) (.cells #[.int .i64 k', .int .u64 (u' 0), .int .u64 (u' 1), .int .u64 (u' 2), .int .u64 (u' 3), .slice p' n' c'] 27)
      have HG : Hid (PG B b D w w.heap.size wr.heap.size #[.int .i64 k, .int .u64 (u 0), .int .u64 (u 1), .int .u64 (u 2), .int .u64 (u 3), .slice (some ⟨b', o, none⟩) ps.length c] #[.int .i64 k', .int .u64 (u' 0), .int .u64 (u' 1), .int .u64 (u' 2), .int .u64 (u' 3), .slice p' n' c'] ps[j] (.agg #[.int .i64 k', .int .u64 (u' 0), .int .u64 (u' 1), .int .u64 (u' 2), .int .u64 (u' 3), .slice p' n' c']) l (wr.alloc (.cells #[.int .i64 k', .int .u64 (u' 0), .int .u64 (u' 1), .int .u64 (u' 2), .int .u64 (u' 3), .slice p' n' c'] 27))) := Lib.hid ⟨HW.out.up hB hab, (hab.block _ (Array.getElem?_eq_some_iff.1 HX.out).1).trans HX.out, heap_alloc_last wr _, RV.mono (fun b h => h) (fun z hz hlt => (hab.block z (by have := hDB z hz; omega)).trans (hbel.block z (hDB z hz))) hv⟩
      have HS : Hid (∀ x y l l', PG B b D w w.heap.size wr.heap.size #[.int .i64 k, .int .u64 (u 0), .int .u64 (u 1), .int .u64 (u 2), .int .u64 (u 3), .slice (some ⟨b', o, none⟩) ps.length c] #[.int .i64 k', .int .u64 (u' 0), .int .u64 (u' 1), .int .u64 (u' 2), .int .u64 (u' 3), .slice p' n' c'] ps[j] (.agg #[.int .i64 k', .int .u64 (u' 0), .int .u64 (u' 1), .int .u64 (u' 2), .int .u64 (u' 3), .slice p' n' c']) l x → Wk B b l' x y → PG B b D w w.heap.size wr.heap.size #[.int .i64 k, .int .u64 (u 0), .int .u64 (u 1), .int .u64 (u 2), .int .u64 (u 3), .slice (some ⟨b', o, none⟩) ps.length c] #[.int .i64 k', .int .u64 (u' 0), .int .u64 (u' 1), .int .u64 (u' 2), .int .u64 (u' 3), .slice p' n' c'] ps[j] (.agg #[.int .i64 k', .int .u64 (u' 0), .int .u64 (u' 1), .int .u64 (u' 2), .int .u64 (u' 3), .slice p' n' c']) l' y) := Lib.hid fun x y l l' g q => PG.step hDB (by omega) (by omega) g q
      have hlt' : (j : Int) < (ps.length : Int) := by omega
      have HC2 := Lib.hid ((congrArg (l ++ ·) (wrL_drop (k := k) (bt := bt) (fs := decide (j = 0)) hlt)).symm.trans HC.out)
      have HIj := HI.out j hlt
      have henc := Lib.hid fun w => enclosed_any k k' w
      rw [hkk] at HC2
      clear hcell hv cc hx HC hab hbel hkk
      by_cases hj0 : j = 0
      · have hgt : ¬ (0 : Int) < (j : Int) := by omega
        rw [show decide (j = 0) = true from by simp [hj0]] at HC2
        clear hj0
        have HL0 := Lib.hid (show (l ++ (wrT ps[j] ++ [40, 41])).length < 300002 by have := congrArg List.length HC2.out; rcases hE : encB k k' with _ | _ <;> rw [hE] at this <;> simp at this ⊢ <;> omega)
        have g0 : (wr.alloc (.cells #[.int .i64 k', .int .u64 (u' 0), .int .u64 (u' 1), .int .u64 (u' 2), .int .u64 (u' 3), .slice p' n' c'] 27)).cell? ⟨w.heap.size, 0, none⟩ = some (.int .i64 k) := HG.out.r 0
        have p0 : (wr.alloc (.cells #[.int .i64 k', .int .u64 (u' 0), .int .u64 (u' 1), .int .u64 (u' 2), .int .u64 (u' 3), .slice p' n' c'] 27)).cell? ⟨wr.heap.size, 0, none⟩ = some (.int .i64 k') := HG.out.p 0
        have p1 : (wr.alloc (.cells #[.int .i64 k', .int .u64 (u' 0), .int .u64 (u' 1), .int .u64 (u' 2), .int .u64 (u' 3), .slice p' n' c'] 27)).cell? ⟨wr.heap.size, 1, none⟩ = some (.int .u64 (u' 0)) := HG.out.p 1
        have p2 : (wr.alloc (.cells #[.int .i64 k', .int .u64 (u' 0), .int .u64 (u' 1), .int .u64 (u' 2), .int .u64 (u' 3), .slice p' n' c'] 27)).cell? ⟨wr.heap.size, 2, none⟩ = some (.int .u64 (u' 1)) := HG.out.p 2
        have p3 : (wr.alloc (.cells #[.int .i64 k', .int .u64 (u' 0), .int .u64 (u' 1), .int .u64 (u' 2), .int .u64 (u' 3), .slice p' n' c'] 27)).cell? ⟨wr.heap.size, 3, none⟩ = some (.int .u64 (u' 2)) := HG.out.p 3
        have p4 : (wr.alloc (.cells #[.int .i64 k', .int .u64 (u' 0), .int .u64 (u' 1), .int .u64 (u' 2), .int .u64 (u' 3), .slice p' n' c'] 27)).cell? ⟨wr.heap.size, 4, none⟩ = some (.int .u64 (u' 3)) := HG.out.p 4
        have p5 : (wr.alloc (.cells #[.int .i64 k', .int .u64 (u' 0), .int .u64 (u' 1), .int .u64 (u' 2), .int .u64 (u' 3), .slice p' n' c'] 27)).cell? ⟨wr.heap.size, 5, none⟩ = some (.slice p' n' c') := HG.out.p 5
        go_wp2_with fail
        refine (henc.out _).mono ?_
        rintro _ _ ⟨rfl, rfl⟩
        cases hE : encB k k' with
        | false =>
          rw [hE] at HC2
          clear hE
          go_wp2_with fail
          refine (HIj.out (l) _ _ HG.out.1.1 HG.out.B (by have := congrArg List.length HC2.out; simp at this ⊢; omega) HG.out.2.2.2).mono ?_
          rintro _ x1 ⟨rfl, hk⟩
          have HG1 := Lib.hid (HS.out _ _ _ _ HG.out hk)
          clear hk
          clear g0 p0 p1 p2 p3 p4 p5
          go_wp2_with fail
          go_roundw
          case rel => exact ⟨j + 1, l ++ wrT ps[j], by omega, by go_num, Lib.hid (by have := HC2.out; simpa [List.append_assoc] using this), Lib.hid HG1.out.1, Lib.hid HG1.out.2.1⟩
          case measure => simp [intOf]; omega
        | true =>
          rw [hE] at HC2
          clear hE
          have HB := wb_hid B b (l) (wr.alloc (.cells #[.int .i64 k', .int .u64 (u' 0), .int .u64 (u' 1), .int .u64 (u' 2), .int .u64 (u' 3), .slice p' n' c'] 27)) 40 (by have := HL0.out; simp only [List.length_append] at this ⊢; omega) HG.out.B
          go_wp2_with fail
          refine (HB.out _ (Wk.refl HG.out.1.1)).mono ?_
          rintro _ x1 ⟨rfl, hk⟩
          have HG1 := Lib.hid (HS.out _ _ _ _ HG.out hk)
          clear hk HB
          clear g0 p0 p1 p2 p3 p4 p5
          have g0 : x1.cell? ⟨w.heap.size, 0, none⟩ = some (.int .i64 k) := HG1.out.r 0
          have p0 : x1.cell? ⟨wr.heap.size, 0, none⟩ = some (.int .i64 k') := HG1.out.p 0
          have p1 : x1.cell? ⟨wr.heap.size, 1, none⟩ = some (.int .u64 (u' 0)) := HG1.out.p 1
          have p2 : x1.cell? ⟨wr.heap.size, 2, none⟩ = some (.int .u64 (u' 1)) := HG1.out.p 2
          have p3 : x1.cell? ⟨wr.heap.size, 3, none⟩ = some (.int .u64 (u' 2)) := HG1.out.p 3
          have p4 : x1.cell? ⟨wr.heap.size, 4, none⟩ = some (.int .u64 (u' 3)) := HG1.out.p 4
          have p5 : x1.cell? ⟨wr.heap.size, 5, none⟩ = some (.slice p' n' c') := HG1.out.p 5
          go_wp2_with fail
          refine (HIj.out (l ++ [40]) _ _ HG1.out.1.1 HG1.out.B (by have := congrArg List.length HC2.out; simp at this ⊢; omega) HG1.out.2.2.2).mono ?_
          rintro _ x2 ⟨rfl, hk⟩
          have HG2 := Lib.hid (HS.out _ _ _ _ HG1.out hk)
          clear hk HG1
          clear g0 p0 p1 p2 p3 p4 p5
          have HB := wb_hid B b ((l ++ [40]) ++ wrT ps[j]) x2 41 (by have := HL0.out; simp only [List.length_append] at this ⊢; simp at this ⊢; omega) HG2.out.B
          go_wp2_with fail
          refine (HB.out _ (Wk.refl HG2.out.1.1)).mono ?_
          rintro _ x3 ⟨rfl, hk⟩
          have HG3 := Lib.hid (HS.out _ _ _ _ HG2.out hk)
          clear hk HB HG2
          go_wp2_with fail
          go_roundw
          case rel => exact ⟨j + 1, (((l ++ [40]) ++ wrT ps[j]) ++ [41]), by omega, by go_num, Lib.hid (by have := HC2.out; simpa [List.append_assoc] using this), Lib.hid HG3.out.1, Lib.hid HG3.out.2.1⟩
          case measure => simp [intOf]; omega
      · have hgt : (0 : Int) < (j : Int) := by omega
        rw [show decide (j = 0) = false from by simp [hj0]] at HC2
        clear hj0
        have HL1 := Lib.hid (show ((l ++ bt) ++ (wrT ps[j] ++ [40, 41])).length < 300002 by have := congrArg List.length HC2.out; rcases hE : encB k k' with _ | _ <;> rw [hE] at this <;> simp at this ⊢ <;> omega)
        have HB : Hid (∀ w, Bd B b l w → B ≤ w.heap.size → Calls Tryd.prog 50 #[.pointer (some ⟨b, 0, none⟩), .string (bs bt)] w fun e w' => e = .returned (.tuple #[.int .i64 (bs bt).size, .nilIface]) ∧ Wk B b (l ++ bt) w w') := Lib.hid fun w h h' => Wk.str (Wk.refl h) bt (by have := HL1.out; simp only [List.length_append] at this; omega) h'
        go_wp2_with fail
        refine (HB.out _ HG.out.1.1 HG.out.B).mono ?_
        rintro _ x0 ⟨rfl, hk⟩
        have HG0 := Lib.hid (HS.out _ _ _ _ HG.out hk)
        clear hk HB HG
        have g0 : x0.cell? ⟨w.heap.size, 0, none⟩ = some (.int .i64 k) := HG0.out.r 0
        have p0 : x0.cell? ⟨wr.heap.size, 0, none⟩ = some (.int .i64 k') := HG0.out.p 0
        have p1 : x0.cell? ⟨wr.heap.size, 1, none⟩ = some (.int .u64 (u' 0)) := HG0.out.p 1
        have p2 : x0.cell? ⟨wr.heap.size, 2, none⟩ = some (.int .u64 (u' 1)) := HG0.out.p 2
        have p3 : x0.cell? ⟨wr.heap.size, 3, none⟩ = some (.int .u64 (u' 2)) := HG0.out.p 3
        have p4 : x0.cell? ⟨wr.heap.size, 4, none⟩ = some (.int .u64 (u' 3)) := HG0.out.p 4
        have p5 : x0.cell? ⟨wr.heap.size, 5, none⟩ = some (.slice p' n' c') := HG0.out.p 5
        go_wp2_with fail
        refine (henc.out _).mono ?_
        rintro _ _ ⟨rfl, rfl⟩
        cases hE : encB k k' with
        | false =>
          rw [hE] at HC2
          clear hE
          go_wp2_with fail
          refine (HIj.out ((l ++ bt)) _ _ HG0.out.1.1 HG0.out.B (by have := congrArg List.length HC2.out; simp at this ⊢; omega) HG0.out.2.2.2).mono ?_
          rintro _ x1 ⟨rfl, hk⟩
          have HG1 := Lib.hid (HS.out _ _ _ _ HG0.out hk)
          clear hk
          clear g0 p0 p1 p2 p3 p4 p5
          go_wp2_with fail
          go_roundw
          case rel => exact ⟨j + 1, (l ++ bt) ++ wrT ps[j], by omega, by go_num, Lib.hid (by have := HC2.out; simpa [List.append_assoc] using this), Lib.hid HG1.out.1, Lib.hid HG1.out.2.1⟩
          case measure => simp [intOf]; omega
        | true =>
          rw [hE] at HC2
          clear hE
          have HB := wb_hid B b ((l ++ bt)) x0 40 (by have := HL1.out; simp only [List.length_append] at this ⊢; omega) HG0.out.B
          go_wp2_with fail
          refine (HB.out _ (Wk.refl HG0.out.1.1)).mono ?_
          rintro _ x1 ⟨rfl, hk⟩
          have HG1 := Lib.hid (HS.out _ _ _ _ HG0.out hk)
          clear hk HB
          clear g0 p0 p1 p2 p3 p4 p5
          have g0 : x1.cell? ⟨w.heap.size, 0, none⟩ = some (.int .i64 k) := HG1.out.r 0
          have p0 : x1.cell? ⟨wr.heap.size, 0, none⟩ = some (.int .i64 k') := HG1.out.p 0
          have p1 : x1.cell? ⟨wr.heap.size, 1, none⟩ = some (.int .u64 (u' 0)) := HG1.out.p 1
          have p2 : x1.cell? ⟨wr.heap.size, 2, none⟩ = some (.int .u64 (u' 1)) := HG1.out.p 2
          have p3 : x1.cell? ⟨wr.heap.size, 3, none⟩ = some (.int .u64 (u' 2)) := HG1.out.p 3
          have p4 : x1.cell? ⟨wr.heap.size, 4, none⟩ = some (.int .u64 (u' 3)) := HG1.out.p 4
          have p5 : x1.cell? ⟨wr.heap.size, 5, none⟩ = some (.slice p' n' c') := HG1.out.p 5
          go_wp2_with fail
          refine (HIj.out ((l ++ bt) ++ [40]) _ _ HG1.out.1.1 HG1.out.B (by have := congrArg List.length HC2.out; simp at this ⊢; omega) HG1.out.2.2.2).mono ?_
          rintro _ x2 ⟨rfl, hk⟩
          have HG2 := Lib.hid (HS.out _ _ _ _ HG1.out hk)
          clear hk HG1
          clear g0 p0 p1 p2 p3 p4 p5
          have HB := wb_hid B b (((l ++ bt) ++ [40]) ++ wrT ps[j]) x2 41 (by have := HL1.out; simp only [List.length_append] at this ⊢; simp at this ⊢; omega) HG2.out.B
          go_wp2_with fail
          refine (HB.out _ (Wk.refl HG2.out.1.1)).mono ?_
          rintro _ x3 ⟨rfl, hk⟩
          have HG3 := Lib.hid (HS.out _ _ _ _ HG2.out hk)
          clear hk HB HG2
          go_wp2_with fail
          go_roundw
          case rel => exact ⟨j + 1, ((((l ++ bt) ++ [40]) ++ wrT ps[j]) ++ [41]), by omega, by go_num, Lib.hid (by have := HC2.out; simpa [List.append_assoc] using this), Lib.hid HG3.out.1, Lib.hid HG3.out.2.1⟩
          case measure => simp [intOf]; omega
    · obtain rfl : j = ps.length := by omega
      have hlt' : ¬ ((ps.length : Int) < (ps.length : Int)) := by omega
      have hr : l = R := by rw [← HC.out, List.drop_length, wrL, List.append_nil]
      subst hr
      go_wp2
      go_end0
      exact ⟨rfl, HW.out⟩
end Go.Proofs.YtmjojahkbjlcdaaDoor
end
