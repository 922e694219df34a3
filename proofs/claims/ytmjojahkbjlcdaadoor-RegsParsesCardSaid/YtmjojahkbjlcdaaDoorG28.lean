/- Package regs: the reader's small steps: what comes next. -/
import Derived.Lib.BufferKept
import Derived.Test.YtmjojahkbjlcdaaDoorProg
import Derived.Test.YtmjojahkbjlcdaaDoorY3
import Derived.Test.YtmjojahkbjlcdaaDoorY4
import Derived.WalkKit
import Derived.WalkLawsBesides
import Derived.WalkSpells
import Derived.Outline
import Derived.Lib.Walk
import Derived.Lib.Hide
import Derived.RegionTactic
import Derived.LoopTactic
import Derived.Below
import Derived.IntWalk
import Derived.Deep.QuietTactic
import Derived.BigQuiet
import Derived.Test.YtmjojahkbjlcdaaDoorY23
import Derived.Test.YtmjojahkbjlcdaaDoorY14
import Derived.Test.YtmjojahkbjlcdaaDoorY24
import Derived.Test.YtmjojahkbjlcdaaDoorY13
import Derived.Test.YtmjojahkbjlcdaaDoorY2
namespace Go.Proofs.YtmjojahkbjlcdaaDoor
set_option linter.unusedSimpArgs false
set_option linter.unusedVariables false
set_option maxRecDepth 100000
open Go.RowKit

def sameU (u o : Nat → Int) : Bool := u 0 == o 0 && (u 1 == o 1 && (u 2 == o 2 && u 3 == o 3))
set_option maxHeartbeats 2000000 in
theorem eql24g (u o : Nat → Int) (w : World) : (binOp .eql 24 (.agg #[.int .u64 (u 0), .int .u64 (u 1), .int .u64 (u 2), .int .u64 (u 3)]) (.agg #[.int .u64 (o 0), .int .u64 (o 1), .int .u64 (o 2), .int .u64 (o 3)])).run Tryd.prog w = .ok (.bool (sameU u o)) w := by
  have h : ∀ (x y : Int) w, (Op.equalIn 9999 22 (.int .u64 x) (.int .u64 y)).run Tryd.prog w = .ok (x == y) w := fun x y w => eq22g 9998 x y w
  have e : ∀ w, (Op.equalIn 10000 24 (.agg #[.int .u64 (u 0), .int .u64 (u 1), .int .u64 (u 2), .int .u64 (u 3)]) (.agg #[.int .u64 (o 0), .int .u64 (o 1), .int .u64 (o 2), .int .u64 (o 3)])).run Tryd.prog w = .ok (sameU u o) w := fun w => by
    rw [show (10000 : Nat) = 9999 + 1 from rfl, Op.equalIn]
    unfold sameU
    by_cases a0 : u 0 = o 0
    · by_cases a1 : u 1 = o 1
      · by_cases a2 : u 2 = o 2
        · by_cases a3 : u 3 = o 3
          · simp [run_underlying Tryd.underlying24, Tryd.sizeOf22, Std.Legacy.Range.forIn_eq_forIn_range', List.range', part, h, a0, a1, a2, a3]
          · simp [run_underlying Tryd.underlying24, Tryd.sizeOf22, Std.Legacy.Range.forIn_eq_forIn_range', List.range', part, h, a0, a1, a2, a3]
        · simp [run_underlying Tryd.underlying24, Tryd.sizeOf22, Std.Legacy.Range.forIn_eq_forIn_range', List.range', part, h, a0, a1, a2]
      · simp [run_underlying Tryd.underlying24, Tryd.sizeOf22, Std.Legacy.Range.forIn_eq_forIn_range', List.range', part, h, a0, a1]
    · simp [run_underlying Tryd.underlying24, Tryd.sizeOf22, Std.Legacy.Range.forIn_eq_forIn_range', List.range', part, h, a0]
  simp only [binOp]
  simp [Op.equal, Op.maxDepth, e]
theorem wp_eql24g {o : Oper} {a : Act} {w : World} {K : Act → World → Prop} {Q : Exit → Act → World → Prop} (x y : Operand) (t : TypeId) (ho : o.op = .binOp .eql 24 x y t) (p q : Nat → Int)
    (hx : a.eval x = vv p) (hy : a.eval y = vv q) (h : K (a.put o.dst (.bool (sameU p q))) w) : o.wp Tryd.prog a w K Q := by
  unfold Oper.wp execOp
  simp only [ho, hx, hy]
  have hq : (binOp .eql 24 (vv p) (vv q)).run Tryd.prog w = .ok (.bool (sameU p q)) w := eql24g p q w
  have hg : (eqGuard .eql 24 x y (vv p) (vv q)).run Tryd.prog w = .ok () w := by
    unfold eqGuard vv
    simp [run_underlying Tryd.underlying24]
  generalize hv : vv p = v at hq hg ⊢
  simp only [Sem.run_bind, hg, Result.andThen_ok, hq]
  exact h
/-- A set as an atom. -/
def wset (f : Nat → Bool) : List UInt8 := if sameU (wf f) (wf inlF) = true then [46] else if cntF f 256 = 1 then wrb ((mem f 256).headD 0) else pr f
-- CUT
theorem Wk.up {B b : Nat} {l : List UInt8} {w0 w w' : World} (h : Wk B b l w0 w) (hBw : B ≤ w0.heap.size) (hb : Below w.heap.size w w') : Wk B b l w0 w' :=
  ⟨h.1.up hb, h.2.1.trans (hb.mono (Nat.le_trans hBw h.size)), Lib.OthersKept.below h.2.2 hb⟩
set_option maxHeartbeats 4000000 in
theorem wset_A {B b : Nat} {m : List UInt8} {w0 w : World} (u o : Nat → Int) (hin : Hid (∀ w, Calls Tryd.prog 70 #[] w fun e w' => e = .returned (vv o) ∧ Below w.heap.size w w')) (hs : sameU u o = true) (h : Wk B b m w0 w) (hlen : m.length < 400000) (hBw : B ≤ w0.heap.size) :
    Calls Tryd.prog 51 #[.pointer (some ⟨b, 0, none⟩), vv u] w fun e w' => e = .returned (.tuple #[]) ∧ Wk B b (m ++ [46]) w0 w' := by
  have S0 := Lib.hid ((Sb.start w).alloc (.cells (vc u) 24))
  have HW := Lib.hid h
  have HH := Lib.hid hs
  clear h hs
  go_enter Tryd.func51, Tryd.ntmps51
  go_wp2_with fail
  refine wp_region_owed (fun l act w1 => ∃ X : Nat → Value, act = ⟨(List.toArray (.pointer (some ⟨b, 0, none⟩) :: vv u :: undef :: .pointer (some ⟨w.heap.size, 0, none⟩) :: undef :: undef :: undef :: undef :: X 3 :: X 0 :: X 1 :: X 2 :: undef :: undef :: undef :: undef :: undef :: undef :: undef :: undef :: undef :: undef :: undef :: [])), []⟩ ∧ (∀ i, l i = true → ([0, 1, 2, 3] : List Nat).contains i = true → X i = (fun i => ([vv u, vv o, .bool (sameU u o), .bool (sameU u o)] : List Value).getD i undef) i) ∧ Sb w w1 [(w.heap.size, .cells (vc u) 24)]) (by kernel_rfl) (by kernel_rfl) ⟨(fun i => ([undef, undef, undef, undef] : List Value).getD i undef), rfl, (fun i h => by cases h), S0.out.drew⟩ ?sta ?fina
  case sta =>
    go_light
    refine Owed.next (n := 0) (o := ?oa0) ?hoa0 ?ha0 ?hsa0
    case hoa0 => rfl
    case ha0 =>
      intro l act w1 hw hl hI K hK
      obtain ⟨X, rfl, hX, hT⟩ := hI
      have HX := Lib.hid (packsM 0 hX [] (fun _ h => nomatch h))
      clear hX
      have v0 := hT.vw 0 (by omega)
      have v1 := hT.vw 1 (by omega)
      have v2 := hT.vw 2 (by omega)
      have v3 := hT.vw 3 (by omega)
      rw [if_pos (by rfl)]
      go_wp2_with fail
      exact hK.out _ _ ⟨fun j => bif (0 :: []).contains j then (fun i => ([vv u, vv o, .bool (sameU u o), .bool (sameU u o)] : List Value).getD i undef) j else X j, rfl, HX.out, hT⟩
    refine Owed.next (n := 1) (o := ?oa1) ?hoa1 ?ha1 ?hsa1
    case hoa1 => rfl
    case ha1 =>
      intro l act w1 hw hl hI K hK
      obtain ⟨X, rfl, hX, hT⟩ := hI
      have HX := Lib.hid (packsM 1 hX [] (fun _ h => nomatch h))
      clear hX
      rw [if_pos (by rfl)]
      go_wp2_with fail
      refine (hin.out _).mono ?_
      rintro _ w2 ⟨rfl, hb⟩
      exact hK.out _ _ ⟨fun j => bif (1 :: []).contains j then (fun i => ([vv u, vv o, .bool (sameU u o), .bool (sameU u o)] : List Value).getD i undef) j else X j, rfl, HX.out, hT.up hb⟩
    refine Owed.next (n := 2) (o := ?oa2) ?hoa2 ?ha2 ?hsa2
    case hoa2 => rfl
    case ha2 =>
      intro l act w1 hw hl hI K hK
      obtain ⟨X, rfl, hX, hT⟩ := hI
      have h0 : X 0 = vv u := hX 0 (hw 0 (by kernel_rfl)) (by kernel_rfl)
      have h1 : X 1 = vv o := hX 1 (hw 1 (by kernel_rfl)) (by kernel_rfl)
      have HX := Lib.hid (packsM 2 hX [0, 1] (List.forall_mem_cons.2 ⟨hw 0 (by kernel_rfl), (List.forall_mem_cons.2 ⟨hw 1 (by kernel_rfl), (fun _ h => nomatch h)⟩)⟩))
      clear hX
      rw [h0, h1]
      clear h0 h1
      rw [if_pos (by rfl)]
      refine wp_eql24g (.tmp 9) (.tmp 10) _ rfl u o rfl rfl ?_
      exact hK.out _ _ ⟨fun j => bif (2 :: [0, 1]).contains j then (fun i => ([vv u, vv o, .bool (sameU u o), .bool (sameU u o)] : List Value).getD i undef) j else X j, rfl, HX.out, hT⟩
    refine Owed.next (n := 3) (o := ?oa3) ?hoa3 ?ha3 ?hsa3
    case hoa3 => rfl
    case ha3 =>
      intro l act w1 hw hl hI K hK
      obtain ⟨X, rfl, hX, hT⟩ := hI
      have h2 : X 2 = .bool (sameU u o) := hX 2 (hw 2 (by kernel_rfl)) (by kernel_rfl)
      have h1 : X 1 = vv o := hX 1 (hw 1 (by kernel_rfl)) (by kernel_rfl)
      have HX := Lib.hid (packsM 3 hX [2, 1] (List.forall_mem_cons.2 ⟨hw 2 (by kernel_rfl), (List.forall_mem_cons.2 ⟨hw 1 (by kernel_rfl), (fun _ h => nomatch h)⟩)⟩))
      clear hX
      rw [h2, h1]
      clear h2 h1
      rw [if_pos (by rfl)]
      go_wp2_with fail
      exact hK.out _ _ ⟨fun j => bif (3 :: [2, 1]).contains j then (fun i => ([vv u, vv o, .bool (sameU u o), .bool (sameU u o)] : List Value).getD i undef) j else X j, rfl, HX.out, hT⟩
    exact Owed.last rfl
  case fina =>
    intro l act w1 hl hI
    obtain ⟨X, rfl, hX, hT⟩ := hI
    have h0 : X 0 = vv u := hX 0 (hl 0 (by kernel_rfl)) (by kernel_rfl)
    have h1 : X 1 = vv o := hX 1 (hl 1 (by kernel_rfl)) (by kernel_rfl)
    have h2 : X 2 = .bool (sameU u o) := hX 2 (hl 2 (by kernel_rfl)) (by kernel_rfl)
    have h3 : X 3 = .bool (sameU u o) := hX 3 (hl 3 (by kernel_rfl)) (by kernel_rfl)
    rw [h0, h1, h2, h3]
    clear h0 h1 h2 h3 hX
    have HT := Lib.hid hT
    clear hT hl X
    rw [HH.out]
    have HK := Lib.hid (HW.out.up hBw HT.out.1)
    have HWB := wb_hid B b m w0 46 (by omega) hBw
    go_wp2_with fail
    refine (HWB.out _ HK.out).mono ?_
    rintro _ w4 ⟨rfl, hk⟩
    have H4 := Lib.hid hk
    clear hk
    go_wp2
    go_end0
    exact ⟨rfl, H4.out⟩
set_option maxHeartbeats 4000000 in
theorem wset_B {B b : Nat} {m : List UInt8} {w0 w : World} (u o : Nat → Int) (hin : Hid (∀ w, Calls Tryd.prog 70 #[] w fun e w' => e = .returned (vv o) ∧ Below w.heap.size w w')) (hs : sameU u o = false) (c : UInt8) (hC : Hid (∀ w, Calls Tryd.prog 71 #[vv u] w fun e w' => e = .returned (.int .i64 1) ∧ Below w.heap.size w w')) (hM : Hid (∀ w, Calls Tryd.prog 73 #[vv u] w fun e w' => e = .returned (.string ⟨#[c]⟩) ∧ Below w.heap.size w w')) (h : Wk B b m w0 w) (hlen : m.length < 400000) (hBw : B ≤ w0.heap.size) :
    Calls Tryd.prog 51 #[.pointer (some ⟨b, 0, none⟩), vv u] w fun e w' => e = .returned (.tuple #[]) ∧ Wk B b (m ++ wrb c) w0 w' := by
  have S0 := Lib.hid ((Sb.start w).alloc (.cells (vc u) 24))
  have HW := Lib.hid h
  have HH := Lib.hid hs
  clear h hs
  go_enter Tryd.func51, Tryd.ntmps51
  go_wp2_with fail
  refine wp_region_owed (fun l act w1 => ∃ X : Nat → Value, act = ⟨(List.toArray (.pointer (some ⟨b, 0, none⟩) :: vv u :: undef :: .pointer (some ⟨w.heap.size, 0, none⟩) :: undef :: undef :: undef :: undef :: X 3 :: X 0 :: X 1 :: X 2 :: undef :: undef :: undef :: undef :: undef :: undef :: undef :: undef :: undef :: undef :: undef :: [])), []⟩ ∧ (∀ i, l i = true → ([0, 1, 2, 3] : List Nat).contains i = true → X i = (fun i => ([vv u, vv o, .bool (sameU u o), .bool (sameU u o)] : List Value).getD i undef) i) ∧ Sb w w1 [(w.heap.size, .cells (vc u) 24)]) (by kernel_rfl) (by kernel_rfl) ⟨(fun i => ([undef, undef, undef, undef] : List Value).getD i undef), rfl, (fun i h => by cases h), S0.out.drew⟩ ?sta ?fina
  case sta =>
    go_light
    refine Owed.next (n := 0) (o := ?oa0) ?hoa0 ?ha0 ?hsa0
    case hoa0 => rfl
    case ha0 =>
      intro l act w1 hw hl hI K hK
      obtain ⟨X, rfl, hX, hT⟩ := hI
      have HX := Lib.hid (packsM 0 hX [] (fun _ h => nomatch h))
      clear hX
      have v0 := hT.vw 0 (by omega)
      have v1 := hT.vw 1 (by omega)
      have v2 := hT.vw 2 (by omega)
      have v3 := hT.vw 3 (by omega)
      rw [if_pos (by rfl)]
      go_wp2_with fail
      exact hK.out _ _ ⟨fun j => bif (0 :: []).contains j then (fun i => ([vv u, vv o, .bool (sameU u o), .bool (sameU u o)] : List Value).getD i undef) j else X j, rfl, HX.out, hT⟩
    refine Owed.next (n := 1) (o := ?oa1) ?hoa1 ?ha1 ?hsa1
    case hoa1 => rfl
    case ha1 =>
      intro l act w1 hw hl hI K hK
      obtain ⟨X, rfl, hX, hT⟩ := hI
      have HX := Lib.hid (packsM 1 hX [] (fun _ h => nomatch h))
      clear hX
      rw [if_pos (by rfl)]
      go_wp2_with fail
      refine (hin.out _).mono ?_
      rintro _ w2 ⟨rfl, hb⟩
      exact hK.out _ _ ⟨fun j => bif (1 :: []).contains j then (fun i => ([vv u, vv o, .bool (sameU u o), .bool (sameU u o)] : List Value).getD i undef) j else X j, rfl, HX.out, hT.up hb⟩
    refine Owed.next (n := 2) (o := ?oa2) ?hoa2 ?ha2 ?hsa2
    case hoa2 => rfl
    case ha2 =>
      intro l act w1 hw hl hI K hK
      obtain ⟨X, rfl, hX, hT⟩ := hI
      have h0 : X 0 = vv u := hX 0 (hw 0 (by kernel_rfl)) (by kernel_rfl)
      have h1 : X 1 = vv o := hX 1 (hw 1 (by kernel_rfl)) (by kernel_rfl)
      have HX := Lib.hid (packsM 2 hX [0, 1] (List.forall_mem_cons.2 ⟨hw 0 (by kernel_rfl), (List.forall_mem_cons.2 ⟨hw 1 (by kernel_rfl), (fun _ h => nomatch h)⟩)⟩))
      clear hX
      rw [h0, h1]
      clear h0 h1
      rw [if_pos (by rfl)]
      refine wp_eql24g (.tmp 9) (.tmp 10) _ rfl u o rfl rfl ?_
      exact hK.out _ _ ⟨fun j => bif (2 :: [0, 1]).contains j then (fun i => ([vv u, vv o, .bool (sameU u o), .bool (sameU u o)] : List Value).getD i undef) j else X j, rfl, HX.out, hT⟩
    refine Owed.next (n := 3) (o := ?oa3) ?hoa3 ?ha3 ?hsa3
    case hoa3 => rfl
    case ha3 =>
      intro l act w1 hw hl hI K hK
      obtain ⟨X, rfl, hX, hT⟩ := hI
      have h2 : X 2 = .bool (sameU u o) := hX 2 (hw 2 (by kernel_rfl)) (by kernel_rfl)
      have h1 : X 1 = vv o := hX 1 (hw 1 (by kernel_rfl)) (by kernel_rfl)
      have HX := Lib.hid (packsM 3 hX [2, 1] (List.forall_mem_cons.2 ⟨hw 2 (by kernel_rfl), (List.forall_mem_cons.2 ⟨hw 1 (by kernel_rfl), (fun _ h => nomatch h)⟩)⟩))
      clear hX
      rw [h2, h1]
      clear h2 h1
      rw [if_pos (by rfl)]
      go_wp2_with fail
      exact hK.out _ _ ⟨fun j => bif (3 :: [2, 1]).contains j then (fun i => ([vv u, vv o, .bool (sameU u o), .bool (sameU u o)] : List Value).getD i undef) j else X j, rfl, HX.out, hT⟩
    exact Owed.last rfl
  case fina =>
    intro l act w1 hl hI
    obtain ⟨X, rfl, hX, hT⟩ := hI
    have h0 : X 0 = vv u := hX 0 (hl 0 (by kernel_rfl)) (by kernel_rfl)
    have h1 : X 1 = vv o := hX 1 (hl 1 (by kernel_rfl)) (by kernel_rfl)
    have h2 : X 2 = .bool (sameU u o) := hX 2 (hl 2 (by kernel_rfl)) (by kernel_rfl)
    have h3 : X 3 = .bool (sameU u o) := hX 3 (hl 3 (by kernel_rfl)) (by kernel_rfl)
    rw [h0, h1, h2, h3]
    clear h0 h1 h2 h3 hX
    have HT := Lib.hid hT
    clear hT hl X
    rw [HH.out]
    have HK := Lib.hid (HW.out.up hBw HT.out.1)
    have v0 := HT.out.vw 0 (by omega)
    have v1 := HT.out.vw 1 (by omega)
    have v2 := HT.out.vw 2 (by omega)
    have v3 := HT.out.vw 3 (by omega)
    go_wp2_with fail
    refine (hC.out _).mono ?_
    rintro _ w4 ⟨rfl, hb⟩
    have H4 := Lib.hid (HK.out.up hBw hb)
    have T4 := Lib.hid (HT.out.up hb)
    clear hb v0 v1 v2 v3
    have v0 := T4.out.vw 0 (by omega)
    have v1 := T4.out.vw 1 (by omega)
    have v2 := T4.out.vw 2 (by omega)
    have v3 := T4.out.vw 3 (by omega)
    have HB : Hid (∀ w, Wk B b m w0 w → Calls Tryd.prog 72 #[.pointer (some ⟨b, 0, none⟩), .int .u8 c.toNat] w fun e w' => e = .returned (.tuple #[]) ∧ Wk B b (m ++ wrb c) w0 w') := Lib.hid fun w h => wbyte_any c h (by omega) hBw
    go_wp2_with fail
    refine (hM.out _).mono ?_
    rintro _ w5 ⟨rfl, hb⟩
    have H5 := Lib.hid (H4.out.up hBw hb)
    clear hb v0 v1 v2 v3
    go_wp2_with fail
    refine (HB.out _ H5.out).mono ?_
    rintro _ w6 ⟨rfl, hk⟩
    have H6 := Lib.hid hk
    clear hk
    go_wp2
    go_end0
    exact ⟨rfl, H6.out⟩
set_option maxHeartbeats 4000000 in
theorem wset_C {B b : Nat} {m : List UInt8} {w0 w : World} (u o : Nat → Int) (hin : Hid (∀ w, Calls Tryd.prog 70 #[] w fun e w' => e = .returned (vv o) ∧ Below w.heap.size w w')) (hs : sameU u o = false) (n : Int) (hn : (n == 1) = false) (t : List UInt8) (ht : t.length < 400000) (hC : Hid (∀ w, Calls Tryd.prog 71 #[vv u] w fun e w' => e = .returned (.int .i64 n) ∧ Below w.heap.size w w')) (hP : Hid (∀ w, Calls Tryd.prog 74 #[vv u] w fun e w' => e = .returned (.string (bs t)) ∧ Below w.heap.size w w')) (h : Wk B b m w0 w) (hlen : m.length < 400000) (hBw : B ≤ w0.heap.size) :
    Calls Tryd.prog 51 #[.pointer (some ⟨b, 0, none⟩), vv u] w fun e w' => e = .returned (.tuple #[]) ∧ Wk B b (m ++ t) w0 w' := by
  have S0 := Lib.hid ((Sb.start w).alloc (.cells (vc u) 24))
  have HW := Lib.hid h
  have HH := Lib.hid hs
  clear h hs
  go_enter Tryd.func51, Tryd.ntmps51
  go_wp2_with fail
  refine wp_region_owed (fun l act w1 => ∃ X : Nat → Value, act = ⟨(List.toArray (.pointer (some ⟨b, 0, none⟩) :: vv u :: undef :: .pointer (some ⟨w.heap.size, 0, none⟩) :: undef :: undef :: undef :: undef :: X 3 :: X 0 :: X 1 :: X 2 :: undef :: undef :: undef :: undef :: undef :: undef :: undef :: undef :: undef :: undef :: undef :: [])), []⟩ ∧ (∀ i, l i = true → ([0, 1, 2, 3] : List Nat).contains i = true → X i = (fun i => ([vv u, vv o, .bool (sameU u o), .bool (sameU u o)] : List Value).getD i undef) i) ∧ Sb w w1 [(w.heap.size, .cells (vc u) 24)]) (by kernel_rfl) (by kernel_rfl) ⟨(fun i => ([undef, undef, undef, undef] : List Value).getD i undef), rfl, (fun i h => by cases h), S0.out.drew⟩ ?sta ?fina
  case sta =>
    go_light
    refine Owed.next (n := 0) (o := ?oa0) ?hoa0 ?ha0 ?hsa0
    case hoa0 => rfl
    case ha0 =>
      intro l act w1 hw hl hI K hK
      obtain ⟨X, rfl, hX, hT⟩ := hI
      have HX := Lib.hid (packsM 0 hX [] (fun _ h => nomatch h))
      clear hX
      have v0 := hT.vw 0 (by omega)
      have v1 := hT.vw 1 (by omega)
      have v2 := hT.vw 2 (by omega)
      have v3 := hT.vw 3 (by omega)
      rw [if_pos (by rfl)]
      go_wp2_with fail
      exact hK.out _ _ ⟨fun j => bif (0 :: []).contains j then (fun i => ([vv u, vv o, .bool (sameU u o), .bool (sameU u o)] : List Value).getD i undef) j else X j, rfl, HX.out, hT⟩
    refine Owed.next (n := 1) (o := ?oa1) ?hoa1 ?ha1 ?hsa1
    case hoa1 => rfl
    case ha1 =>
      intro l act w1 hw hl hI K hK
      obtain ⟨X, rfl, hX, hT⟩ := hI
      have HX := Lib.hid (packsM 1 hX [] (fun _ h => nomatch h))
      clear hX
      rw [if_pos (by rfl)]
      go_wp2_with fail
      refine (hin.out _).mono ?_
      rintro _ w2 ⟨rfl, hb⟩
      exact hK.out _ _ ⟨fun j => bif (1 :: []).contains j then (fun i => ([vv u, vv o, .bool (sameU u o), .bool (sameU u o)] : List Value).getD i undef) j else X j, rfl, HX.out, hT.up hb⟩
    refine Owed.next (n := 2) (o := ?oa2) ?hoa2 ?ha2 ?hsa2
    case hoa2 => rfl
    case ha2 =>
      intro l act w1 hw hl hI K hK
      obtain ⟨X, rfl, hX, hT⟩ := hI
      have h0 : X 0 = vv u := hX 0 (hw 0 (by kernel_rfl)) (by kernel_rfl)
      have h1 : X 1 = vv o := hX 1 (hw 1 (by kernel_rfl)) (by kernel_rfl)
      have HX := Lib.hid (packsM 2 hX [0, 1] (List.forall_mem_cons.2 ⟨hw 0 (by kernel_rfl), (List.forall_mem_cons.2 ⟨hw 1 (by kernel_rfl), (fun _ h => nomatch h)⟩)⟩))
      clear hX
      rw [h0, h1]
      clear h0 h1
      rw [if_pos (by rfl)]
      refine wp_eql24g (.tmp 9) (.tmp 10) _ rfl u o rfl rfl ?_
      exact hK.out _ _ ⟨fun j => bif (2 :: [0, 1]).contains j then (fun i => ([vv u, vv o, .bool (sameU u o), .bool (sameU u o)] : List Value).getD i undef) j else X j, rfl, HX.out, hT⟩
    refine Owed.next (n := 3) (o := ?oa3) ?hoa3 ?ha3 ?hsa3
    case hoa3 => rfl
    case ha3 =>
      intro l act w1 hw hl hI K hK
      obtain ⟨X, rfl, hX, hT⟩ := hI
      have h2 : X 2 = .bool (sameU u o) := hX 2 (hw 2 (by kernel_rfl)) (by kernel_rfl)
      have h1 : X 1 = vv o := hX 1 (hw 1 (by kernel_rfl)) (by kernel_rfl)
      have HX := Lib.hid (packsM 3 hX [2, 1] (List.forall_mem_cons.2 ⟨hw 2 (by kernel_rfl), (List.forall_mem_cons.2 ⟨hw 1 (by kernel_rfl), (fun _ h => nomatch h)⟩)⟩))
      clear hX
      rw [h2, h1]
      clear h2 h1
      rw [if_pos (by rfl)]
      go_wp2_with fail
      exact hK.out _ _ ⟨fun j => bif (3 :: [2, 1]).contains j then (fun i => ([vv u, vv o, .bool (sameU u o), .bool (sameU u o)] : List Value).getD i undef) j else X j, rfl, HX.out, hT⟩
    exact Owed.last rfl
  case fina =>
    intro l act w1 hl hI
    obtain ⟨X, rfl, hX, hT⟩ := hI
    have h0 : X 0 = vv u := hX 0 (hl 0 (by kernel_rfl)) (by kernel_rfl)
    have h1 : X 1 = vv o := hX 1 (hl 1 (by kernel_rfl)) (by kernel_rfl)
    have h2 : X 2 = .bool (sameU u o) := hX 2 (hl 2 (by kernel_rfl)) (by kernel_rfl)
    have h3 : X 3 = .bool (sameU u o) := hX 3 (hl 3 (by kernel_rfl)) (by kernel_rfl)
    rw [h0, h1, h2, h3]
    clear h0 h1 h2 h3 hX
    have HT := Lib.hid hT
    clear hT hl X
    rw [HH.out]
    have HK := Lib.hid (HW.out.up hBw HT.out.1)
    have v0 := HT.out.vw 0 (by omega)
    have v1 := HT.out.vw 1 (by omega)
    have v2 := HT.out.vw 2 (by omega)
    have v3 := HT.out.vw 3 (by omega)
    go_wp2_with fail
    refine (hC.out _).mono ?_
    rintro _ w4 ⟨rfl, hb⟩
    have H4 := Lib.hid (HK.out.up hBw hb)
    have T4 := Lib.hid (HT.out.up hb)
    clear hb v0 v1 v2 v3
    have v0 := T4.out.vw 0 (by omega)
    have v1 := T4.out.vw 1 (by omega)
    have v2 := T4.out.vw 2 (by omega)
    have v3 := T4.out.vw 3 (by omega)
    have HB : Hid (∀ w, Wk B b m w0 w → Calls Tryd.prog 50 #[.pointer (some ⟨b, 0, none⟩), .string (bs t)] w fun e w' => e = .returned (.tuple #[.int .i64 (bs t).size, .nilIface]) ∧ Wk B b (m ++ t) w0 w') := Lib.hid fun w h => Wk.str h t (by omega) (Nat.le_trans hBw h.size)
    go_wp2_with fail
    refine (hP.out _).mono ?_
    rintro _ w5 ⟨rfl, hb⟩
    have H5 := Lib.hid (H4.out.up hBw hb)
    clear hb v0 v1 v2 v3
    go_wp2_with fail
    refine (HB.out _ H5.out).mono ?_
    rintro _ w6 ⟨rfl, hk⟩
    have H6 := Lib.hid hk
    clear hk
    go_wp2
    go_end0
    exact ⟨rfl, H6.out⟩
theorem wset_any {B b : Nat} {m : List UInt8} {w0 w : World} (f : Nat → Bool) (h : Wk B b m w0 w) (hlen : m.length < 400000) (hBw : B ≤ w0.heap.size) :
    Calls Tryd.prog 51 #[.pointer (some ⟨b, 0, none⟩), vv (wf f)] w fun e w' => e = .returned (.tuple #[]) ∧ Wk B b (m ++ wset f) w0 w' := by
  have hin : Hid (∀ w, Calls Tryd.prog 70 #[] w fun e w' => e = .returned (vv (wf inlF)) ∧ Below w.heap.size w w') := Lib.hid fun w => inLine_any w
  have hCn := count_any f
  have hMn := members_any f
  have hPn := print_any f
  have hl := pr_len f
  have hm := mem_len f 256
  unfold wset
  generalize hs : sameU (wf f) (wf inlF) = x
  cases x with
  | true => exact wset_A (wf f) (wf inlF) hin hs h hlen hBw
  | false =>
    by_cases hc : cntF f 256 = 1
    · rw [hc] at hm hCn
      obtain ⟨c, hcm⟩ := List.length_eq_one_iff.1 hm
      rw [hcm] at hMn ⊢
      have := wset_B (wf f) (wf inlF) hin hs c (Lib.hid hCn) (Lib.hid hMn) h hlen hBw
      simpa [hc] using this
    · have hn : (((cntF f 256 : Nat) : Int) == 1) = false := by rw [beq_eq_false_iff_ne]; omega
      have := wset_C (wf f) (wf inlF) hin hs _ hn (pr f) (by omega) (Lib.hid hCn) (Lib.hid hPn) h hlen hBw
      simpa [hc] using this
end Go.Proofs.YtmjojahkbjlcdaaDoor
