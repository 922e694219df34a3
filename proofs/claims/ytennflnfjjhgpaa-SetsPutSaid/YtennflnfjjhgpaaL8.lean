/- SetsPut: of any two sets. -/
import Derived.Test.YtennflnfjjhgpaaL7
import Derived.Test.YtennflnfjjhgpaaOps
import Derived.Test.YtennflnfjjhgpaaOpsN
namespace Go.Proofs.Ytennflnfjjhgpaa
set_option linter.unusedSimpArgs false
set_option linter.unusedVariables false
open Go.RowKit
theorem law_put (f g : Nat → Bool) (w : World) : Calls Try.prog 4 #[setV f, setV g] w fun e w' => e = .returned (.bool true) ∧ Below w.heap.size w w' :=
  put_abs f g (wf f) (wf g) (wf fun b => f b || g b) (wf fun b => f b && g b) (wf fun b => !f b) (Lib.hid fun w => flags_any f w) (Lib.hid fun w => flags_any g w) (Lib.hid fun w => union_any f g w) (Lib.hid fun w => meet_any f g w) (Lib.hid fun w => not_any f w)
    (Lib.hid fun w => rset_any (fun b => f b || g b) w) (Lib.hid fun w => rset_any (fun b => f b && g b) w) (Lib.hid fun w => rset_any (fun b => !f b) w) w
end Go.Proofs.Ytennflnfjjhgpaa
