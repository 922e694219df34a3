/- An equality of two sets, as an operation; sums of it. -/
import Derived.Test.YtennflnfjjhgpaaProg
import Derived.Test.YtennflnfjjhgpaaOf
import Derived.Test.YtennflnfjjhgpaaEq
namespace Go.Proofs.Ytennflnfjjhgpaa
set_option linter.unusedSimpArgs false
set_option linter.unusedVariables false
open Go.RowKit
theorem wp_eql24 {o : Oper} {a : Act} {w : World} {K : Act → World → Prop} {Q : Exit → Act → World → Prop} (x y : Operand) (t : TypeId) (ho : o.op = .binOp .eql 24 x y t) (x0 x1 x2 x3 : Int)
    (hx : a.eval x = .agg #[.int .u64 x0, .int .u64 x1, .int .u64 x2, .int .u64 x3]) (hy : a.eval y = .agg #[.int .u64 x0, .int .u64 x1, .int .u64 x2, .int .u64 x3]) (h : K (a.put o.dst (.bool true)) w) : o.wp Try.prog a w K Q := by
  unfold Oper.wp execOp
  simp only [ho, hx, hy]
  have hq : (binOp .eql 24 ((.agg #[.int .u64 x0, .int .u64 x1, .int .u64 x2, .int .u64 x3] : Value)) ((.agg #[.int .u64 x0, .int .u64 x1, .int .u64 x2, .int .u64 x3] : Value))).run Try.prog w = .ok (.bool true) w := eql24 x0 x1 x2 x3 w
  have hg : (eqGuard .eql 24 x y ((.agg #[.int .u64 x0, .int .u64 x1, .int .u64 x2, .int .u64 x3] : Value)) ((.agg #[.int .u64 x0, .int .u64 x1, .int .u64 x2, .int .u64 x3] : Value))).run Try.prog w = .ok () w := by
    unfold eqGuard
    simp [run_underlying Try.underlying24]
  generalize hv : (.agg #[.int .u64 x0, .int .u64 x1, .int .u64 x2, .int .u64 x3] : Value) = v at hq hg ⊢
  simp only [Sem.run_bind, hg, Result.andThen_ok, hq]
  exact h
theorem wp_neq24 {o : Oper} {a : Act} {w : World} {K : Act → World → Prop} {Q : Exit → Act → World → Prop} (x y : Operand) (t : TypeId) (ho : o.op = .binOp .neq 24 x y t) (x0 x1 x2 x3 : Int)
    (hx : a.eval x = .agg #[.int .u64 x0, .int .u64 x1, .int .u64 x2, .int .u64 x3]) (hy : a.eval y = .agg #[.int .u64 x0, .int .u64 x1, .int .u64 x2, .int .u64 x3]) (h : K (a.put o.dst (.bool false)) w) : o.wp Try.prog a w K Q := by
  unfold Oper.wp execOp
  simp only [ho, hx, hy]
  have hq : (binOp .neq 24 ((.agg #[.int .u64 x0, .int .u64 x1, .int .u64 x2, .int .u64 x3] : Value)) ((.agg #[.int .u64 x0, .int .u64 x1, .int .u64 x2, .int .u64 x3] : Value))).run Try.prog w = .ok (.bool false) w := neq24 x0 x1 x2 x3 w
  have hg : (eqGuard .neq 24 x y ((.agg #[.int .u64 x0, .int .u64 x1, .int .u64 x2, .int .u64 x3] : Value)) ((.agg #[.int .u64 x0, .int .u64 x1, .int .u64 x2, .int .u64 x3] : Value))).run Try.prog w = .ok () w := by
    unfold eqGuard
    simp [run_underlying Try.underlying24]
  generalize hv : (.agg #[.int .u64 x0, .int .u64 x1, .int .u64 x2, .int .u64 x3] : Value) = v at hq hg ⊢
  simp only [Sem.run_bind, hg, Result.andThen_ok, hq]
  exact h
end Go.Proofs.Ytennflnfjjhgpaa
