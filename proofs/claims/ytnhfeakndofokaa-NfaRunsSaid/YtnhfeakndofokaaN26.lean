/- Package nfa. -/
import Derived.Test.YtnhfeakndofokaaProg
import Derived.Test.YtnhfeakndofokaaN25
import Derived.WalkKit
import Derived.WalkLawsBesides
import Derived.WalkSpells
import Derived.Outline
import Derived.Lib.Walk
import Derived.Lib.Hide
import Derived.Lib.Slices
import Derived.Lib.Strings
import Derived.RegionTactic
import Derived.LoopTactic
import Derived.Below
import Derived.IntWalk
import Derived.Deep.QuietTactic
import Derived.BigQuiet
import Derived.Deep.MidRow
import Derived.Maps.AppendAt
import Derived.Laws.Rows
import Derived.Laws.Tables
import Derived.Deep.WholeRow
import Derived.Deep.Cut
import Derived.Deep.CutRange
import Derived.Lib.SliceRun
import Derived.Laws.MakeOwn
import Derived.Deep.RegionLaw
import Derived.Deep.RegionLawGrows
namespace Go.Proofs.Ytnhfeakndofokaa
set_option linter.unusedSimpArgs false
set_option linter.unusedVariables false
set_option maxRecDepth 100000
open Go.RowKit
/- byteOf; what alive hands in. -/
theorem info47 : (Try.prog.info? 47).map (fun i => (i.zero, i.size)) = some (some (.agg #[.int .u64 0, .int .u64 0, .int .u64 0, .int .u64 0]), 4) := by kernel_rfl
theorem zero47 (w : World) : (zeroValue 47).run Try.prog w = .ok (.agg #[.int .u64 0, .int .u64 0, .int .u64 0, .int .u64 0]) w := (zero_of_info info47).1 w
set_option maxHeartbeats 4000000 in
theorem byteOf_a (w : World) : Calls Try.prog 27 #[.int .u8 97] w fun e w' => e = .returned (uV uA) ∧ Below w.heap.size w w' := by
  have hz := zero47
  have S0 := Lib.hid ((((Below.refl w.heap.size w).alloc (Nat.le_refl _) (.cells #[.int .u64 0, .int .u64 8589934592, .int .u64 0, .int .u64 0] 47)).alloc (by simp) (.cells #[.int .u64 0, .int .u64 8589934592, .int .u64 0, .int .u64 0] 47)))
  go_enter Try.func27, Try.ntmps27
  go_wp2_with fail
  have c0 : ∀ i v, (#[.int .u64 0, .int .u64 8589934592, .int .u64 0, .int .u64 0] : Array Value)[i]? = some v → ((w.alloc (.cells #[.int .u64 0, .int .u64 8589934592, .int .u64 0, .int .u64 0] 47)).alloc (.cells #[.int .u64 0, .int .u64 8589934592, .int .u64 0, .int .u64 0] 47)).cell? ⟨w.heap.size, i, none⟩ = some v := fun i v hv => by
    rw [cell_of_row _ w.heap.size i _ 47 (0, 0) ((heap_alloc_old _ _ (by simp)).trans (heap_alloc_last w _))]; exact hv
  have e0 := c0 0 _ rfl
  have e1 := c0 1 _ rfl
  have e2 := c0 2 _ rfl
  have e3 := c0 3 _ rfl
  exact bodyPost_ret (v := uV uA) (by simp [results, Try.results27, asAddr, go_sem, e0, e1, e2, e3, uV, uA]) rfl ⟨rfl, S0.out⟩
theorem bnode (u : Nat → Int) : Try.prog.built 56 [(0, .int .i64 2), (1, uV u)] = some (nodeC 2 u (.slice none 0 0)) := by kernel_rfl
theorem bstar (p : Option Addr) (n c : Nat) : Try.prog.built 56 [(0, .int .i64 5), (2, .slice p n c)] = some (nodeC 5 uZ (.slice p n c)) := by kernel_rfl
def ruleC (k : Int) (u : Nat → Int) (sl : Value) : Array Value := #[.int .i64 0, .int .i64 k, .int .u64 (u 0), .int .u64 (u 1), .int .u64 (u 2), .int .u64 (u 3), sl]
theorem brule (k : Int) (u : Nat → Int) (p : Option Addr) (n c : Nat) : Try.prog.built 58 [(1, .agg (nodeC k u (.slice p n c)))] = some (ruleC k u (.slice p n c)) := by kernel_rfl
theorem wpList_bnode {ops : Array Oper} {rest : List Oper} {o : Oper} {a : Act} {w : World} {Q : Exit → Act → World → Prop} {x y : Operand} {u : Nat → Int} (hg : o.guard = none) (ho : o.op = .build 56 #[(0, x), (1, y)]) (hx : a.eval x = .int .i64 2) (hy : a.eval y = uV u)
    (h : wpList Try.prog ops Q rest (a.put o.dst (.agg (nodeC 2 u (.slice none 0 0)))) w) : wpList Try.prog ops Q (o :: rest) a w := by
  refine wpList_build hg 56 _ ho ?_ ?_
  · simp [hx, hy, bnode]
  · simp [hx, hy, bnode]; exact h
theorem wpList_bstar {ops : Array Oper} {rest : List Oper} {o : Oper} {a : Act} {w : World} {Q : Exit → Act → World → Prop} {x y : Operand} {p : Option Addr} {n c : Nat} (hg : o.guard = none) (ho : o.op = .build 56 #[(0, x), (2, y)]) (hx : a.eval x = .int .i64 5) (hy : a.eval y = .slice p n c)
    (h : wpList Try.prog ops Q rest (a.put o.dst (.agg (nodeC 5 uZ (.slice p n c)))) w) : wpList Try.prog ops Q (o :: rest) a w := by
  refine wpList_build hg 56 _ ho ?_ ?_
  · simp [hx, hy, bstar]
  · simp [hx, hy, bstar]; exact h
theorem wpList_brule {ops : Array Oper} {rest : List Oper} {o : Oper} {a : Act} {w : World} {Q : Exit → Act → World → Prop} {x : Operand} {k : Int} {u : Nat → Int} {p : Option Addr} {n c : Nat} (hg : o.guard = none) (ho : o.op = .build 58 #[(1, x)]) (hx : a.eval x = .agg (nodeC k u (.slice p n c)))
    (h : wpList Try.prog ops Q rest (a.put o.dst (.agg (ruleC k u (.slice p n c)))) w) : wpList Try.prog ops Q (o :: rest) a w := by
  refine wpList_build hg 58 _ ho ?_ ?_
  · simp [hx, brule]
  · simp [hx, brule]; exact h
end Go.Proofs.Ytnhfeakndofokaa
