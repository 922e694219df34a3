/- Package regs: the reader's small steps: what comes next. -/
import Derived.Test.YtmjojahkbjlcdaaDoorProg
import Derived.Test.YtmjojahkbjlcdaaDoorY3
import Derived.Test.YtmjojahkbjlcdaaDoorY4
import Derived.WalkKit
import Derived.WalkLawsBesides
import Derived.WalkSpells
import Derived.Outline
import Derived.Lib.Walk
import Derived.Lib.Hide
import Derived.RegionTactic
import Derived.LoopTactic
import Derived.Below
import Derived.IntWalk
import Derived.Deep.QuietTactic
import Derived.BigQuiet
import Derived.Deep.Cut
import Derived.Deep.CutRange
import Derived.Test.YtmjojahkbjlcdaaDoorG45
namespace Go.Proofs.YtmjojahkbjlcdaaDoor
set_option linter.unusedSimpArgs false
set_option linter.unusedVariables false
set_option maxRecDepth 100000
open Go.RowKit

theorem neq24s (u : Nat → Int) (w : World) : (binOp .neq 24 (.agg #[.int .u64 (u 0), .int .u64 (u 1), .int .u64 (u 2), .int .u64 (u 3)]) (.agg #[.int .u64 (u 0), .int .u64 (u 1), .int .u64 (u 2), .int .u64 (u 3)])).run Tryd.prog w = .ok (.bool false) w := by
  have h : ∀ (x y : Int) w, (Op.equalIn 9999 22 (.int .u64 x) (.int .u64 y)).run Tryd.prog w = .ok (x == y) w := fun x y w => eq22g 9998 x y w
  have e : ∀ w, (Op.equalIn 10000 24 (.agg #[.int .u64 (u 0), .int .u64 (u 1), .int .u64 (u 2), .int .u64 (u 3)]) (.agg #[.int .u64 (u 0), .int .u64 (u 1), .int .u64 (u 2), .int .u64 (u 3)])).run Tryd.prog w = .ok true w := fun w => by
    rw [show (10000 : Nat) = 9999 + 1 from rfl, Op.equalIn]
    simp [run_underlying Tryd.underlying24, Tryd.sizeOf22, Std.Legacy.Range.forIn_eq_forIn_range', List.range', part, h]
  simp only [binOp]
  simp [Op.equal, Op.maxDepth, e]
set_option maxHeartbeats 8000000 in
theorem same_walk {D E : Nat → Prop} {k : Int} {u : Nat → Int} {ps : List RT} {v v' : Value} {w : World} (hD : ∀ b, D b → b < w.heap.size) (hE : ∀ b, E b → b < w.heap.size) (hl : ps.length ≤ 9223372036854775806) (h : RV D w (.mk k u ps) v) (g : RV E w (.mk k u ps) v')
    (hI : Hid (∀ i (hi : i < ps.length) v v' w, RV D w ps[i] v → RV E w ps[i] v' → (∀ b, D b → b < w.heap.size) → (∀ b, E b → b < w.heap.size) → Calls Tryd.prog 23 #[v, v'] w fun e w' => e = .returned (.bool true) ∧ Below w.heap.size w w')) :
    Calls Tryd.prog 23 #[v, v'] w fun e w' => e = .returned (.bool true) ∧ Below w.heap.size w w' := by
  obtain ⟨p, c, rfl, hp⟩ := h.parts
  obtain ⟨p', c', rfl, hp'⟩ := g.parts
  have HP := Lib.hid hp
  have HP' := Lib.hid hp'
  clear h g hp hp'
  have S0 := Lib.hid (((Sb.start w).alloc (.cells #[.int .i64 k, .int .u64 (u 0), .int .u64 (u 1), .int .u64 (u 2), .int .u64 (u 3), .slice p ps.length c] 27)).alloc (.cells #[.int .i64 k, .int .u64 (u 0), .int .u64 (u 1), .int .u64 (u 2), .int .u64 (u 3), .slice p' ps.length c'] 27))
  rw [show (w.alloc (.cells #[.int .i64 k, .int .u64 (u 0), .int .u64 (u 1), .int .u64 (u 2), .int .u64 (u 3), .slice p ps.length c] 27)).heap.size = w.heap.size + 1 from by simp] at S0
  have hns := neq24s u
  go_enter Tryd.func23, Tryd.ntmps23
  go_wp2_with fail
  go_loopw [5] (fun i wr => ∃ j : Nat, j ≤ ps.length ∧ i = .int .i64 j ∧ Hid (Sb w wr [(w.heap.size + 1, .cells #[.int .i64 k, .int .u64 (u 0), .int .u64 (u 1), .int .u64 (u 2), .int .u64 (u 3), .slice p' ps.length c'] 27), (w.heap.size, .cells #[.int .i64 k, .int .u64 (u 0), .int .u64 (u 1), .int .u64 (u 2), .int .u64 (u 3), .slice p ps.length c] 27)])) (fun i _ => ps.length - (intOf i).toNat)
  case atStart => exact ⟨0, by omega, rfl, S0⟩
  case round =>
    obtain ⟨j, hj, rfl, HS⟩ := hrel
    clear S0 hns
    have q5 : wr.cell? ⟨w.heap.size, 5, none⟩ = some (.slice p ps.length c) := HS.out.tl.cell 5
    by_cases hlt : j < ps.length
    · have hne : ps ≠ [] := by intro e; subst e; simp at hlt
      obtain ⟨b, o, rfl, hDb, hx⟩ := HP.out hne
      obtain ⟨b', o', rfl, hEb, hx'⟩ := HP'.out hne
      obtain ⟨k1, u1, p1, n1, c1, hv, hcell⟩ := hx j hlt
      obtain ⟨k2, u2, p2, n2, c2, hv', hcell'⟩ := hx' j hlt
      have hbw := hD b hDb
      have hbw' := hE b' hEb
      have HV := Lib.hid hv
      have HV' := Lib.hid hv'
      have CC := Lib.hid hcell
      have CC' := Lib.hid hcell'
      have HIj := Lib.hid (hI.out j hlt)
      have hlt' : (j : Int) < (ps.length : Int) := by omega
      clear hcell hcell' hv hv' hx hx'
      go_wp2_with fail
      refine wp_region_owed (fun l act w1 => ∃ X : Nat → Value, act = ⟨(List.toArray ((Value.agg #[Value.int IntKind.i64 k, Value.int IntKind.u64 (u 0), Value.int IntKind.u64 (u 1), Value.int IntKind.u64 (u 2), Value.int IntKind.u64 (u 3), Value.slice (some { block := b, off := o }) ps.length c]) :: (Value.agg #[Value.int IntKind.i64 k, Value.int IntKind.u64 (u 0), Value.int IntKind.u64 (u 1), Value.int IntKind.u64 (u 2), Value.int IntKind.u64 (u 3), Value.slice (some { block := b', off := o' }) ps.length c']) :: (Value.pointer (some { block := w.heap.size, off := 0 })) :: (Value.pointer (some { block := w.heap.size + 1, off := 0 })) :: (u4) :: (Value.int IntKind.i64 ↑j) :: (Value.pointer (some { block := w.heap.size, off := 0 })) :: (Value.int IntKind.i64 k) :: (Value.pointer (some { block := w.heap.size + 1, off := 0 })) :: (Value.int IntKind.i64 k) :: (Value.bool false) :: (Value.bool false) :: (Value.pointer (some { block := w.heap.size, off := 1 })) :: (Value.agg #[Value.int IntKind.u64 (u 0), Value.int IntKind.u64 (u 1), Value.int IntKind.u64 (u 2), Value.int IntKind.u64 (u 3)]) :: (Value.pointer (some { block := w.heap.size + 1, off := 1 })) :: (Value.agg #[Value.int IntKind.u64 (u 0), Value.int IntKind.u64 (u 1), Value.int IntKind.u64 (u 2), Value.int IntKind.u64 (u 3)]) :: (Value.bool false) :: (Value.bool false) :: (Value.bool false) :: (Value.pointer (some { block := w.heap.size, off := 5 })) :: (Value.slice (some { block := b, off := o }) ps.length c) :: (Value.int IntKind.i64 ↑ps.length) :: (Value.pointer (some { block := w.heap.size + 1, off := 5 })) :: (Value.slice (some { block := b', off := o' }) ps.length c') :: (Value.int IntKind.i64 ↑ps.length) :: (Value.bool false) :: (Value.bool false) :: (Value.int IntKind.i64 ↑j) :: (Value.pointer (some { block := w.heap.size, off := 5 })) :: (Value.slice (some { block := b, off := o }) ps.length c) :: (Value.int IntKind.i64 ↑ps.length) :: (Value.bool true) :: (u32) :: (u33) :: X 0 :: X 1 :: X 2 :: X 3 :: X 4 :: X 5 :: X 6 :: X 7 :: X 8 :: X 9 :: X 10 :: X 11 :: [])), []⟩ ∧ (∀ i, l i = true → ([0, 1, 2, 3, 4, 5, 6, 7, 8, 9, 10, 11] : List Nat).contains i = true → X i = (fun z1 => ([.pointer (some ⟨w.heap.size, 5, none⟩), .slice (some ⟨b, o, none⟩) ps.length c, .int .i64 (j : Nat), .pointer (some ⟨b, o + j * 6, none⟩), .agg #[.int .i64 k1, .int .u64 (u1 0), .int .u64 (u1 1), .int .u64 (u1 2), .int .u64 (u1 3), .slice p1 n1 c1], .pointer (some ⟨w.heap.size + 1, 5, none⟩), .slice (some ⟨b', o', none⟩) ps.length c', .int .i64 (j : Nat), .pointer (some ⟨b', o' + j * 6, none⟩), .agg #[.int .i64 k2, .int .u64 (u2 0), .int .u64 (u2 1), .int .u64 (u2 2), .int .u64 (u2 3), .slice p2 n2 c2], .bool true, .bool false] : List Value).getD z1 undef) i) ∧ Sb w w1 [(w.heap.size + 1, .cells #[.int .i64 k, .int .u64 (u 0), .int .u64 (u 1), .int .u64 (u 2), .int .u64 (u 3), .slice (some ⟨b', o', none⟩) ps.length c'] 27), (w.heap.size, .cells #[.int .i64 k, .int .u64 (u 0), .int .u64 (u 1), .int .u64 (u 2), .int .u64 (u 3), .slice (some ⟨b, o, none⟩) ps.length c] 27)]) (by kernel_rfl) (by kernel_rfl) ⟨(fun i => ([(u34), (u35), (u36), (u37), (u38), (u39), (u40), (u41), (u42), (u43), (u44), (u45)] : List Value).getD i undef), rfl, (fun i h => by cases h), HS.out.drew⟩ ?st ?fin
      case st =>
        go_light
        refine Owed.next (n := 0) (o := ?o0) ?ho0 ?h0 ?hs0
        case ho0 => rfl
        case h0 =>
          intro l act w1 hw hl hI K hK
          obtain ⟨X, rfl, hX, hT⟩ := hI
          have HX := Lib.hid (packsM 0 hX [] (fun _ h => nomatch h))
          clear hX
          rw [if_pos (by rfl)]
          go_wp2_with fail
          exact hK.out _ _ ⟨fun z0 => bif (0 :: []).contains z0 then (fun z1 => ([.pointer (some ⟨w.heap.size, 5, none⟩), .slice (some ⟨b, o, none⟩) ps.length c, .int .i64 (j : Nat), .pointer (some ⟨b, o + j * 6, none⟩), .agg #[.int .i64 k1, .int .u64 (u1 0), .int .u64 (u1 1), .int .u64 (u1 2), .int .u64 (u1 3), .slice p1 n1 c1], .pointer (some ⟨w.heap.size + 1, 5, none⟩), .slice (some ⟨b', o', none⟩) ps.length c', .int .i64 (j : Nat), .pointer (some ⟨b', o' + j * 6, none⟩), .agg #[.int .i64 k2, .int .u64 (u2 0), .int .u64 (u2 1), .int .u64 (u2 2), .int .u64 (u2 3), .slice p2 n2 c2], .bool true, .bool false] : List Value).getD z1 undef) z0 else X z0, rfl, HX.out, hT⟩
        refine Owed.next (n := 1) (o := ?o1) ?ho1 ?h1 ?hs1
        case ho1 => rfl
        case h1 =>
          intro l act w1 hw hl hI K hK
          obtain ⟨X, rfl, hX, hT⟩ := hI
          have h0 : X 0 = .pointer (some ⟨w.heap.size, 5, none⟩) := hX 0 (hw 0 (by kernel_rfl)) (by kernel_rfl)
          have HX := Lib.hid (packsM 1 hX [0] (List.forall_mem_cons.2 ⟨hw 0 (by kernel_rfl), (fun _ h => nomatch h)⟩))
          clear hX
          have q5 : w1.cell? ⟨w.heap.size, 5, none⟩ = some (.slice (some ⟨b, o, none⟩) ps.length c) := hT.tl.cell 5
          rw [h0]
          clear h0
          rw [if_pos (by rfl)]
          go_wp2_with fail
          exact hK.out _ _ ⟨fun z0 => bif (1 :: [0]).contains z0 then (fun z1 => ([.pointer (some ⟨w.heap.size, 5, none⟩), .slice (some ⟨b, o, none⟩) ps.length c, .int .i64 (j : Nat), .pointer (some ⟨b, o + j * 6, none⟩), .agg #[.int .i64 k1, .int .u64 (u1 0), .int .u64 (u1 1), .int .u64 (u1 2), .int .u64 (u1 3), .slice p1 n1 c1], .pointer (some ⟨w.heap.size + 1, 5, none⟩), .slice (some ⟨b', o', none⟩) ps.length c', .int .i64 (j : Nat), .pointer (some ⟨b', o' + j * 6, none⟩), .agg #[.int .i64 k2, .int .u64 (u2 0), .int .u64 (u2 1), .int .u64 (u2 2), .int .u64 (u2 3), .slice p2 n2 c2], .bool true, .bool false] : List Value).getD z1 undef) z0 else X z0, rfl, HX.out, hT⟩
        refine Owed.next (n := 2) (o := ?o2) ?ho2 ?h2 ?hs2
        case ho2 => rfl
        case h2 =>
          intro l act w1 hw hl hI K hK
          obtain ⟨X, rfl, hX, hT⟩ := hI
          have HX := Lib.hid (packsM 2 hX [] (fun _ h => nomatch h))
          clear hX
          rw [if_pos (by rfl)]
          go_wp2_with fail
          exact hK.out _ _ ⟨fun z0 => bif (2 :: []).contains z0 then (fun z1 => ([.pointer (some ⟨w.heap.size, 5, none⟩), .slice (some ⟨b, o, none⟩) ps.length c, .int .i64 (j : Nat), .pointer (some ⟨b, o + j * 6, none⟩), .agg #[.int .i64 k1, .int .u64 (u1 0), .int .u64 (u1 1), .int .u64 (u1 2), .int .u64 (u1 3), .slice p1 n1 c1], .pointer (some ⟨w.heap.size + 1, 5, none⟩), .slice (some ⟨b', o', none⟩) ps.length c', .int .i64 (j : Nat), .pointer (some ⟨b', o' + j * 6, none⟩), .agg #[.int .i64 k2, .int .u64 (u2 0), .int .u64 (u2 1), .int .u64 (u2 2), .int .u64 (u2 3), .slice p2 n2 c2], .bool true, .bool false] : List Value).getD z1 undef) z0 else X z0, rfl, HX.out, hT⟩
        refine Owed.next (n := 3) (o := ?o3) ?ho3 ?h3 ?hs3
        case ho3 => rfl
        case h3 =>
          intro l act w1 hw hl hI K hK
          obtain ⟨X, rfl, hX, hT⟩ := hI
          have h1 : X 1 = .slice (some ⟨b, o, none⟩) ps.length c := hX 1 (hw 1 (by kernel_rfl)) (by kernel_rfl)
          have h2 : X 2 = .int .i64 (j : Nat) := hX 2 (hw 2 (by kernel_rfl)) (by kernel_rfl)
          have HX := Lib.hid (packsM 3 hX [1, 2] (List.forall_mem_cons.2 ⟨hw 1 (by kernel_rfl), (List.forall_mem_cons.2 ⟨hw 2 (by kernel_rfl), (fun _ h => nomatch h)⟩)⟩))
          clear hX
          rw [h1, h2]
          clear h1 h2
          rw [if_pos (by rfl)]
          go_wp2_with fail
          exact hK.out _ _ ⟨fun z0 => bif (3 :: [1, 2]).contains z0 then (fun z1 => ([.pointer (some ⟨w.heap.size, 5, none⟩), .slice (some ⟨b, o, none⟩) ps.length c, .int .i64 (j : Nat), .pointer (some ⟨b, o + j * 6, none⟩), .agg #[.int .i64 k1, .int .u64 (u1 0), .int .u64 (u1 1), .int .u64 (u1 2), .int .u64 (u1 3), .slice p1 n1 c1], .pointer (some ⟨w.heap.size + 1, 5, none⟩), .slice (some ⟨b', o', none⟩) ps.length c', .int .i64 (j : Nat), .pointer (some ⟨b', o' + j * 6, none⟩), .agg #[.int .i64 k2, .int .u64 (u2 0), .int .u64 (u2 1), .int .u64 (u2 2), .int .u64 (u2 3), .slice p2 n2 c2], .bool true, .bool false] : List Value).getD z1 undef) z0 else X z0, rfl, HX.out, hT⟩
        refine Owed.next (n := 4) (o := ?o4) ?ho4 ?h4 ?hs4
        case ho4 => rfl
        case h4 =>
          intro l act w1 hw hl hI K hK
          obtain ⟨X, rfl, hX, hT⟩ := hI
          have h3 : X 3 = .pointer (some ⟨b, o + j * 6, none⟩) := hX 3 (hw 3 (by kernel_rfl)) (by kernel_rfl)
          have HX := Lib.hid (packsM 4 hX [3] (List.forall_mem_cons.2 ⟨hw 3 (by kernel_rfl), (fun _ h => nomatch h)⟩))
          clear hX
          have cc : ∀ i y, (nodeC k1 u1 (.slice p1 n1 c1))[i]? = some y → w1.cell? ⟨b, o + j * 6 + i, none⟩ = some y := fun i y hy => by rw [hT.1.cell (p := ⟨b, o + j * 6 + i, none⟩) hbw, ← CC.out i y hy, show o + j * 6 + i = o + (6 * j + i) by omega]
          have d0 : w1.cell? ⟨b, o + j * 6, none⟩ = some (.int .i64 k1) := cc 0 _ rfl
          have d1 : w1.cell? ⟨b, o + j * 6 + 1, none⟩ = some (.int .u64 (u1 0)) := cc 1 _ rfl
          have d2 : w1.cell? ⟨b, o + j * 6 + 2, none⟩ = some (.int .u64 (u1 1)) := cc 2 _ rfl
          have d3 : w1.cell? ⟨b, o + j * 6 + 3, none⟩ = some (.int .u64 (u1 2)) := cc 3 _ rfl
          have d4 : w1.cell? ⟨b, o + j * 6 + 4, none⟩ = some (.int .u64 (u1 3)) := cc 4 _ rfl
          have d5 : w1.cell? ⟨b, o + j * 6 + 5, none⟩ = some (.slice p1 n1 c1) := cc 5 _ rfl
          rw [h3]
          clear h3
          rw [if_pos (by rfl)]
          go_wp2_with fail
          exact hK.out _ _ ⟨fun z0 => bif (4 :: [3]).contains z0 then (fun z1 => ([.pointer (some ⟨w.heap.size, 5, none⟩), .slice (some ⟨b, o, none⟩) ps.length c, .int .i64 (j : Nat), .pointer (some ⟨b, o + j * 6, none⟩), .agg #[.int .i64 k1, .int .u64 (u1 0), .int .u64 (u1 1), .int .u64 (u1 2), .int .u64 (u1 3), .slice p1 n1 c1], .pointer (some ⟨w.heap.size + 1, 5, none⟩), .slice (some ⟨b', o', none⟩) ps.length c', .int .i64 (j : Nat), .pointer (some ⟨b', o' + j * 6, none⟩), .agg #[.int .i64 k2, .int .u64 (u2 0), .int .u64 (u2 1), .int .u64 (u2 2), .int .u64 (u2 3), .slice p2 n2 c2], .bool true, .bool false] : List Value).getD z1 undef) z0 else X z0, rfl, HX.out, hT⟩
        refine Owed.next (n := 5) (o := ?o5) ?ho5 ?h5 ?hs5
        case ho5 => rfl
        case h5 =>
          intro l act w1 hw hl hI K hK
          obtain ⟨X, rfl, hX, hT⟩ := hI
          have HX := Lib.hid (packsM 5 hX [] (fun _ h => nomatch h))
          clear hX
          rw [if_pos (by rfl)]
          go_wp2_with fail
          exact hK.out _ _ ⟨fun z0 => bif (5 :: []).contains z0 then (fun z1 => ([.pointer (some ⟨w.heap.size, 5, none⟩), .slice (some ⟨b, o, none⟩) ps.length c, .int .i64 (j : Nat), .pointer (some ⟨b, o + j * 6, none⟩), .agg #[.int .i64 k1, .int .u64 (u1 0), .int .u64 (u1 1), .int .u64 (u1 2), .int .u64 (u1 3), .slice p1 n1 c1], .pointer (some ⟨w.heap.size + 1, 5, none⟩), .slice (some ⟨b', o', none⟩) ps.length c', .int .i64 (j : Nat), .pointer (some ⟨b', o' + j * 6, none⟩), .agg #[.int .i64 k2, .int .u64 (u2 0), .int .u64 (u2 1), .int .u64 (u2 2), .int .u64 (u2 3), .slice p2 n2 c2], .bool true, .bool false] : List Value).getD z1 undef) z0 else X z0, rfl, HX.out, hT⟩
        refine Owed.next (n := 6) (o := ?o6) ?ho6 ?h6 ?hs6
        case ho6 => rfl
        case h6 =>
          intro l act w1 hw hl hI K hK
          obtain ⟨X, rfl, hX, hT⟩ := hI
          have h5 : X 5 = .pointer (some ⟨w.heap.size + 1, 5, none⟩) := hX 5 (hw 5 (by kernel_rfl)) (by kernel_rfl)
          have HX := Lib.hid (packsM 6 hX [5] (List.forall_mem_cons.2 ⟨hw 5 (by kernel_rfl), (fun _ h => nomatch h)⟩))
          clear hX
          have q5 : w1.cell? ⟨w.heap.size + 1, 5, none⟩ = some (.slice (some ⟨b', o', none⟩) ps.length c') := hT.cell 5
          rw [h5]
          clear h5
          rw [if_pos (by rfl)]
          go_wp2_with fail
          exact hK.out _ _ ⟨fun z0 => bif (6 :: [5]).contains z0 then (fun z1 => ([.pointer (some ⟨w.heap.size, 5, none⟩), .slice (some ⟨b, o, none⟩) ps.length c, .int .i64 (j : Nat), .pointer (some ⟨b, o + j * 6, none⟩), .agg #[.int .i64 k1, .int .u64 (u1 0), .int .u64 (u1 1), .int .u64 (u1 2), .int .u64 (u1 3), .slice p1 n1 c1], .pointer (some ⟨w.heap.size + 1, 5, none⟩), .slice (some ⟨b', o', none⟩) ps.length c', .int .i64 (j : Nat), .pointer (some ⟨b', o' + j * 6, none⟩), .agg #[.int .i64 k2, .int .u64 (u2 0), .int .u64 (u2 1), .int .u64 (u2 2), .int .u64 (u2 3), .slice p2 n2 c2], .bool true, .bool false] : List Value).getD z1 undef) z0 else X z0, rfl, HX.out, hT⟩
        refine Owed.next (n := 7) (o := ?o7) ?ho7 ?h7 ?hs7
        case ho7 => rfl
        case h7 =>
          intro l act w1 hw hl hI K hK
          obtain ⟨X, rfl, hX, hT⟩ := hI
          have HX := Lib.hid (packsM 7 hX [] (fun _ h => nomatch h))
          clear hX
          rw [if_pos (by rfl)]
          go_wp2_with fail
          exact hK.out _ _ ⟨fun z0 => bif (7 :: []).contains z0 then (fun z1 => ([.pointer (some ⟨w.heap.size, 5, none⟩), .slice (some ⟨b, o, none⟩) ps.length c, .int .i64 (j : Nat), .pointer (some ⟨b, o + j * 6, none⟩), .agg #[.int .i64 k1, .int .u64 (u1 0), .int .u64 (u1 1), .int .u64 (u1 2), .int .u64 (u1 3), .slice p1 n1 c1], .pointer (some ⟨w.heap.size + 1, 5, none⟩), .slice (some ⟨b', o', none⟩) ps.length c', .int .i64 (j : Nat), .pointer (some ⟨b', o' + j * 6, none⟩), .agg #[.int .i64 k2, .int .u64 (u2 0), .int .u64 (u2 1), .int .u64 (u2 2), .int .u64 (u2 3), .slice p2 n2 c2], .bool true, .bool false] : List Value).getD z1 undef) z0 else X z0, rfl, HX.out, hT⟩
        refine Owed.next (n := 8) (o := ?o8) ?ho8 ?h8 ?hs8
        case ho8 => rfl
        case h8 =>
          intro l act w1 hw hl hI K hK
          obtain ⟨X, rfl, hX, hT⟩ := hI
          have h6 : X 6 = .slice (some ⟨b', o', none⟩) ps.length c' := hX 6 (hw 6 (by kernel_rfl)) (by kernel_rfl)
          have h7 : X 7 = .int .i64 (j : Nat) := hX 7 (hw 7 (by kernel_rfl)) (by kernel_rfl)
          have HX := Lib.hid (packsM 8 hX [6, 7] (List.forall_mem_cons.2 ⟨hw 6 (by kernel_rfl), (List.forall_mem_cons.2 ⟨hw 7 (by kernel_rfl), (fun _ h => nomatch h)⟩)⟩))
          clear hX
          rw [h6, h7]
          clear h6 h7
          rw [if_pos (by rfl)]
          go_wp2_with fail
          exact hK.out _ _ ⟨fun z0 => bif (8 :: [6, 7]).contains z0 then (fun z1 => ([.pointer (some ⟨w.heap.size, 5, none⟩), .slice (some ⟨b, o, none⟩) ps.length c, .int .i64 (j : Nat), .pointer (some ⟨b, o + j * 6, none⟩), .agg #[.int .i64 k1, .int .u64 (u1 0), .int .u64 (u1 1), .int .u64 (u1 2), .int .u64 (u1 3), .slice p1 n1 c1], .pointer (some ⟨w.heap.size + 1, 5, none⟩), .slice (some ⟨b', o', none⟩) ps.length c', .int .i64 (j : Nat), .pointer (some ⟨b', o' + j * 6, none⟩), .agg #[.int .i64 k2, .int .u64 (u2 0), .int .u64 (u2 1), .int .u64 (u2 2), .int .u64 (u2 3), .slice p2 n2 c2], .bool true, .bool false] : List Value).getD z1 undef) z0 else X z0, rfl, HX.out, hT⟩
        refine Owed.next (n := 9) (o := ?o9) ?ho9 ?h9 ?hs9
        case ho9 => rfl
        case h9 =>
          intro l act w1 hw hl hI K hK
          obtain ⟨X, rfl, hX, hT⟩ := hI
          have h8 : X 8 = .pointer (some ⟨b', o' + j * 6, none⟩) := hX 8 (hw 8 (by kernel_rfl)) (by kernel_rfl)
          have HX := Lib.hid (packsM 9 hX [8] (List.forall_mem_cons.2 ⟨hw 8 (by kernel_rfl), (fun _ h => nomatch h)⟩))
          clear hX
          have cc : ∀ i y, (nodeC k2 u2 (.slice p2 n2 c2))[i]? = some y → w1.cell? ⟨b', o' + j * 6 + i, none⟩ = some y := fun i y hy => by rw [hT.1.cell (p := ⟨b', o' + j * 6 + i, none⟩) hbw', ← CC'.out i y hy, show o' + j * 6 + i = o' + (6 * j + i) by omega]
          have d0 : w1.cell? ⟨b', o' + j * 6, none⟩ = some (.int .i64 k2) := cc 0 _ rfl
          have d1 : w1.cell? ⟨b', o' + j * 6 + 1, none⟩ = some (.int .u64 (u2 0)) := cc 1 _ rfl
          have d2 : w1.cell? ⟨b', o' + j * 6 + 2, none⟩ = some (.int .u64 (u2 1)) := cc 2 _ rfl
          have d3 : w1.cell? ⟨b', o' + j * 6 + 3, none⟩ = some (.int .u64 (u2 2)) := cc 3 _ rfl
          have d4 : w1.cell? ⟨b', o' + j * 6 + 4, none⟩ = some (.int .u64 (u2 3)) := cc 4 _ rfl
          have d5 : w1.cell? ⟨b', o' + j * 6 + 5, none⟩ = some (.slice p2 n2 c2) := cc 5 _ rfl
          rw [h8]
          clear h8
          rw [if_pos (by rfl)]
          go_wp2_with fail
          exact hK.out _ _ ⟨fun z0 => bif (9 :: [8]).contains z0 then (fun z1 => ([.pointer (some ⟨w.heap.size, 5, none⟩), .slice (some ⟨b, o, none⟩) ps.length c, .int .i64 (j : Nat), .pointer (some ⟨b, o + j * 6, none⟩), .agg #[.int .i64 k1, .int .u64 (u1 0), .int .u64 (u1 1), .int .u64 (u1 2), .int .u64 (u1 3), .slice p1 n1 c1], .pointer (some ⟨w.heap.size + 1, 5, none⟩), .slice (some ⟨b', o', none⟩) ps.length c', .int .i64 (j : Nat), .pointer (some ⟨b', o' + j * 6, none⟩), .agg #[.int .i64 k2, .int .u64 (u2 0), .int .u64 (u2 1), .int .u64 (u2 2), .int .u64 (u2 3), .slice p2 n2 c2], .bool true, .bool false] : List Value).getD z1 undef) z0 else X z0, rfl, HX.out, hT⟩
        refine Owed.next (n := 10) (o := ?o10) ?ho10 ?h10 ?hs10
        case ho10 => rfl
        case h10 =>
          intro l act w1 hw hl hI K hK
          obtain ⟨X, rfl, hX, hT⟩ := hI
          have h4 : X 4 = .agg #[.int .i64 k1, .int .u64 (u1 0), .int .u64 (u1 1), .int .u64 (u1 2), .int .u64 (u1 3), .slice p1 n1 c1] := hX 4 (hw 4 (by kernel_rfl)) (by kernel_rfl)
          have h9 : X 9 = .agg #[.int .i64 k2, .int .u64 (u2 0), .int .u64 (u2 1), .int .u64 (u2 2), .int .u64 (u2 3), .slice p2 n2 c2] := hX 9 (hw 9 (by kernel_rfl)) (by kernel_rfl)
          have HX := Lib.hid (packsM 10 hX [4, 9] (List.forall_mem_cons.2 ⟨hw 4 (by kernel_rfl), (List.forall_mem_cons.2 ⟨hw 9 (by kernel_rfl), (fun _ h => nomatch h)⟩)⟩))
          clear hX
          rw [h4, h9]
          clear h4 h9
          rw [if_pos (by rfl)]
          go_wp2_with fail
          refine (HIj.out _ _ _ (RV.mono (fun b h => h) (fun z hz _ => hT.1.block z (hD z hz)) HV.out) (RV.mono (fun b h => h) (fun z hz _ => hT.1.block z (hE z hz)) HV'.out) (fun z hz => Nat.lt_of_lt_of_le (hD z hz) hT.1.size) (fun z hz => Nat.lt_of_lt_of_le (hE z hz) hT.1.size)).mono ?_
          rintro _ w2 ⟨rfl, hb⟩
          exact hK.out _ _ ⟨fun z0 => bif (10 :: [4, 9]).contains z0 then (fun z1 => ([.pointer (some ⟨w.heap.size, 5, none⟩), .slice (some ⟨b, o, none⟩) ps.length c, .int .i64 (j : Nat), .pointer (some ⟨b, o + j * 6, none⟩), .agg #[.int .i64 k1, .int .u64 (u1 0), .int .u64 (u1 1), .int .u64 (u1 2), .int .u64 (u1 3), .slice p1 n1 c1], .pointer (some ⟨w.heap.size + 1, 5, none⟩), .slice (some ⟨b', o', none⟩) ps.length c', .int .i64 (j : Nat), .pointer (some ⟨b', o' + j * 6, none⟩), .agg #[.int .i64 k2, .int .u64 (u2 0), .int .u64 (u2 1), .int .u64 (u2 2), .int .u64 (u2 3), .slice p2 n2 c2], .bool true, .bool false] : List Value).getD z1 undef) z0 else X z0, rfl, HX.out, hT.up hb⟩
        refine Owed.next (n := 11) (o := ?o11) ?ho11 ?h11 ?hs11
        case ho11 => rfl
        case h11 =>
          intro l act w1 hw hl hI K hK
          obtain ⟨X, rfl, hX, hT⟩ := hI
          have h10 : X 10 = .bool true := hX 10 (hw 10 (by kernel_rfl)) (by kernel_rfl)
          have HX := Lib.hid (packsM 11 hX [10] (List.forall_mem_cons.2 ⟨hw 10 (by kernel_rfl), (fun _ h => nomatch h)⟩))
          clear hX
          rw [h10]
          clear h10
          rw [if_pos (by rfl)]
          go_wp2_with fail
          exact hK.out _ _ ⟨fun z0 => bif (11 :: [10]).contains z0 then (fun z1 => ([.pointer (some ⟨w.heap.size, 5, none⟩), .slice (some ⟨b, o, none⟩) ps.length c, .int .i64 (j : Nat), .pointer (some ⟨b, o + j * 6, none⟩), .agg #[.int .i64 k1, .int .u64 (u1 0), .int .u64 (u1 1), .int .u64 (u1 2), .int .u64 (u1 3), .slice p1 n1 c1], .pointer (some ⟨w.heap.size + 1, 5, none⟩), .slice (some ⟨b', o', none⟩) ps.length c', .int .i64 (j : Nat), .pointer (some ⟨b', o' + j * 6, none⟩), .agg #[.int .i64 k2, .int .u64 (u2 0), .int .u64 (u2 1), .int .u64 (u2 2), .int .u64 (u2 3), .slice p2 n2 c2], .bool true, .bool false] : List Value).getD z1 undef) z0 else X z0, rfl, HX.out, hT⟩
        exact Owed.last rfl
      case fin =>
        intro l act w1 hl hI
        obtain ⟨X, rfl, hX, hT⟩ := hI
        have h0 : X 0 = .pointer (some ⟨w.heap.size, 5, none⟩) := hX 0 (hl 0 (by kernel_rfl)) (by kernel_rfl)
        have h1 : X 1 = .slice (some ⟨b, o, none⟩) ps.length c := hX 1 (hl 1 (by kernel_rfl)) (by kernel_rfl)
        have h2 : X 2 = .int .i64 (j : Nat) := hX 2 (hl 2 (by kernel_rfl)) (by kernel_rfl)
        have h3 : X 3 = .pointer (some ⟨b, o + j * 6, none⟩) := hX 3 (hl 3 (by kernel_rfl)) (by kernel_rfl)
        have h4 : X 4 = .agg #[.int .i64 k1, .int .u64 (u1 0), .int .u64 (u1 1), .int .u64 (u1 2), .int .u64 (u1 3), .slice p1 n1 c1] := hX 4 (hl 4 (by kernel_rfl)) (by kernel_rfl)
        have h5 : X 5 = .pointer (some ⟨w.heap.size + 1, 5, none⟩) := hX 5 (hl 5 (by kernel_rfl)) (by kernel_rfl)
        have h6 : X 6 = .slice (some ⟨b', o', none⟩) ps.length c' := hX 6 (hl 6 (by kernel_rfl)) (by kernel_rfl)
        have h7 : X 7 = .int .i64 (j : Nat) := hX 7 (hl 7 (by kernel_rfl)) (by kernel_rfl)
        have h8 : X 8 = .pointer (some ⟨b', o' + j * 6, none⟩) := hX 8 (hl 8 (by kernel_rfl)) (by kernel_rfl)
        have h9 : X 9 = .agg #[.int .i64 k2, .int .u64 (u2 0), .int .u64 (u2 1), .int .u64 (u2 2), .int .u64 (u2 3), .slice p2 n2 c2] := hX 9 (hl 9 (by kernel_rfl)) (by kernel_rfl)
        have h10 : X 10 = .bool true := hX 10 (hl 10 (by kernel_rfl)) (by kernel_rfl)
        have h11 : X 11 = .bool false := hX 11 (hl 11 (by kernel_rfl)) (by kernel_rfl)
        rw [h0, h1, h2, h3, h4, h5, h6, h7, h8, h9, h10, h11]
        clear h0 h1 h2 h3 h4 h5 h6 h7 h8 h9 h10 h11 hX
        have HT := Lib.hid hT
        clear hT hl X
        go_wp2_with fail
        go_roundw
        case rel => exact ⟨j + 1, by omega, by go_num, HT⟩
        case measure => simp [intOf]; omega
    · obtain rfl : j = ps.length := by omega
      have hlt' : ¬ ((ps.length : Int) < (ps.length : Int)) := by omega
      go_wp2_with fail
      go_ret
      exact ⟨rfl, HS.out.1⟩
theorem same_true {D E : Nat → Prop} : ∀ (n : Nat) (t : RT) {v v' : Value} {w : World}, dep t ≤ n → wid t ≤ 9223372036854775806 → (∀ b, D b → b < w.heap.size) → (∀ b, E b → b < w.heap.size) → RV D w t v → RV E w t v' → Calls Tryd.prog 23 #[v, v'] w fun e w' => e = .returned (.bool true) ∧ Below w.heap.size w w'
  | 0, .mk k u ps, v, v', w, hn, _, _, _, _, _ => by simp [dep] at hn
  | n + 1, .mk k u ps, v, v', w, hn, hw, hD, hE, h, g => by
    have h1 : depL ps ≤ n := by simp only [dep] at hn; omega
    obtain ⟨hl, hw2⟩ := wid_mk hw
    refine same_walk hD hE hl h g (Lib.hid fun i hi v1 v2 w1 h1' g1 hD1 hE1 => ?_)
    exact same_true n ps[i] (by have := depL_get ps i hi; omega) (hw2 i hi) hD1 hE1 h1' g1
end Go.Proofs.YtmjojahkbjlcdaaDoor
