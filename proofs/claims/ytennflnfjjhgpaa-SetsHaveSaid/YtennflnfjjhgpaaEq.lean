/- Two sets of the same words are equal. -/
import Derived.Test.YtennflnfjjhgpaaProg
import Derived.Laws.Pointers
import Derived.Laws.Small
import Derived.WalkKit
namespace Go.Proofs.Ytennflnfjjhgpaa
theorem eq22 (d : Nat) (x : Int) (w : World) : (Op.equalIn (d + 1) 22 (.int .u64 x) (.int .u64 x)).run Try.prog w = .ok true w := by
  simp [Op.equalIn, run_underlying Try.underlying22]
theorem eq24 (x0 x1 x2 x3 : Int) (w : World) : (Op.equalIn 10000 24 (.agg #[.int .u64 x0, .int .u64 x1, .int .u64 x2, .int .u64 x3]) (.agg #[.int .u64 x0, .int .u64 x1, .int .u64 x2, .int .u64 x3])).run Try.prog w = .ok true w := by
  have h : ∀ (x : Int) w, (Op.equalIn 9999 22 (.int .u64 x) (.int .u64 x)).run Try.prog w = .ok true w := fun x w => eq22 9998 x w
  rw [show (10000 : Nat) = 9999 + 1 from rfl, Op.equalIn]
  simp [run_underlying Try.underlying24, Try.sizeOf22, Std.Legacy.Range.forIn_eq_forIn_range', List.range', part, h]
theorem neq24 (x0 x1 x2 x3 : Int) (w : World) : (binOp .neq 24 (.agg #[.int .u64 x0, .int .u64 x1, .int .u64 x2, .int .u64 x3]) (.agg #[.int .u64 x0, .int .u64 x1, .int .u64 x2, .int .u64 x3])).run Try.prog w = .ok (.bool false) w := by
  simp only [binOp]
  simp [Op.equal, Op.maxDepth, eq24]
theorem eql24 (x0 x1 x2 x3 : Int) (w : World) : (binOp .eql 24 (.agg #[.int .u64 x0, .int .u64 x1, .int .u64 x2, .int .u64 x3]) (.agg #[.int .u64 x0, .int .u64 x1, .int .u64 x2, .int .u64 x3])).run Try.prog w = .ok (.bool true) w := by
  simp only [binOp]
  simp [Op.equal, Op.maxDepth, eq24]
end Go.Proofs.Ytennflnfjjhgpaa
