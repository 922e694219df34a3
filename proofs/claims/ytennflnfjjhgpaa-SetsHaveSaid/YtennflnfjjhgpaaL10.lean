/- SetsHave: of any set and whatever is asked. -/
import Derived.Test.YtennflnfjjhgpaaL9
import Derived.Test.YtennflnfjjhgpaaRC
import Derived.Test.YtennflnfjjhgpaaRM
import Derived.Test.YtennflnfjjhgpaaMem
import Derived.Test.YtennflnfjjhgpaaOpsN
namespace Go.Proofs.Ytennflnfjjhgpaa
set_option linter.unusedSimpArgs false
set_option linter.unusedVariables false
open Go.RowKit
theorem law_have (f : Nat → Bool) (b c : Nat) (s : ByteArray) (hb : b < 256) (hc : c < 256) (hs : s.size ≤ 9223372036854775807) (w : World) :
    Calls Try.prog 3 #[setV f, .agg #[.int .u8 b, .int .u8 c, .string s]] w fun e w' => e = .returned (.bool true) ∧ Below w.heap.size w w' := by
  exact have_abs f (wf f) (wf (ofL s.data.toList)) (wf (rangeF b (c + 1 - b))) (cntF f 256) (bs (mem f 256)) s hs b c (by omega) (by omega) (f b) (Lib.hid rfl)
    (Lib.hid fun w => flags_any f w) (Lib.hid fun w => has_any f b (by omega) w) (Lib.hid fun w => count_any f w) (Lib.hid fun w => rcount_any f w) (Lib.hid fun w => members_any f w) (Lib.hid fun w => rmembers_any f w)
    (Lib.hid fun w => of_any s hs w) (Lib.hid fun w => rset_any (ofL s.data.toList) w) (Lib.hid fun w => range_any b c (by omega) (by omega) w) (Lib.hid fun w => rset_any (rangeF b (c + 1 - b)) w) w
end Go.Proofs.Ytennflnfjjhgpaa
