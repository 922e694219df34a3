/- SetsLaws: of any three sets. -/
import Derived.Test.YtennflnfjjhgpaaL11
import Derived.Test.YtennflnfjjhgpaaOps
import Derived.Test.YtennflnfjjhgpaaOpsN
namespace Go.Proofs.Ytennflnfjjhgpaa
set_option linter.unusedSimpArgs false
set_option linter.unusedVariables false
open Go.RowKit
theorem cntF_le (f : Nat → Bool) : ∀ n, cntF f n ≤ n
  | 0 => by simp [cntF]
  | n + 1 => by have := cntF_le f n; simp only [cntF]; cases f n <;> simp <;> omega
theorem cnt_or (f g : Nat → Bool) : ∀ n, cntF (fun b => f b || g b) n + cntF (fun b => f b && g b) n = cntF f n + cntF g n
  | 0 => by simp [cntF]
  | n + 1 => by have := cnt_or f g n; simp only [cntF]; cases f n <;> cases g n <;> simp <;> omega
theorem cntF_not (f : Nat → Bool) : ∀ n, cntF f n + cntF (fun b => !f b) n = n
  | 0 => by simp [cntF]
  | n + 1 => by have := cntF_not f n; simp only [cntF]; cases f n <;> simp <;> omega
theorem as_ret {K : Nat} {args : Array Value} {x y : Value} (h : x = y) (hc : ∀ w, Calls Try.prog K args w fun e w' => e = .returned x ∧ Below w.heap.size w w') : Hid (∀ w, Calls Try.prog K args w fun e w' => e = .returned y ∧ Below w.heap.size w w') := by
  subst h; exact Lib.hid hc
theorem set_ext {f g : Nat → Bool} (h : ∀ b, f b = g b) : setV f = setV g := by rw [show f = g from funext h]
theorem law_laws (f g h : Nat → Bool) (w : World) : Calls Try.prog 8 #[setV f, setV g, setV h] w fun e w' => e = .returned (.bool true) ∧ Below w.heap.size w w' := by
  refine laws_abs (wf f) (wf g) (wf h) (wf fun b => f b || g b) (wf fun b => f b && g b) (wf fun b => !(f b || g b)) (wf fun b => !f b) (wf fun b => !g b) (wf fun b => g b || h b) (wf fun b => f b && (g b || h b)) (wf fun b => f b && h b) (wf fun b => (f b || g b) || h b)
    (cntF (fun b => f b || g b) 256) (cntF (fun b => f b && g b) 256) (cntF f 256) (cntF g 256) (cntF (fun b => !f b) 256) (cntF_le _ _) (cntF_le _ _) (cntF_le _ _) (cntF_le _ _) (cntF_le _ _)
    (Lib.hid (by have := cnt_or f g 256; omega)) (Lib.hid (by have := cntF_not f 256; omega))
    (Lib.hid fun w => union_any f g w) (as_ret (set_ext fun b => Bool.or_comm _ _) fun w => union_any g f w) (Lib.hid fun w => meet_any f g w) (as_ret (set_ext fun b => Bool.and_comm _ _) fun w => meet_any g f w)
    (Lib.hid fun w => not_any (fun b => f b || g b) w) (Lib.hid fun w => not_any f w) (Lib.hid fun w => not_any g w) (as_ret (set_ext fun b => by cases f b <;> cases g b <;> rfl) fun w => meet_any (fun b => !f b) (fun b => !g b) w)
    (as_ret (set_ext fun b => Bool.not_not _) fun w => not_any (fun b => !f b) w) (Lib.hid fun w => union_any g h w) (Lib.hid fun w => meet_any f (fun b => g b || h b) w) (Lib.hid fun w => meet_any f h w)
    (as_ret (set_ext fun b => by cases f b <;> cases g b <;> cases h b <;> rfl) fun w => union_any (fun b => f b && g b) (fun b => f b && h b) w) (Lib.hid fun w => union_any (fun b => f b || g b) h w)
    (as_ret (set_ext fun b => by cases f b <;> cases g b <;> cases h b <;> rfl) fun w => union_any f (fun b => g b || h b) w)
    (Lib.hid fun w => count_any (fun b => f b || g b) w) (Lib.hid fun w => count_any (fun b => f b && g b) w) (Lib.hid fun w => count_any f w) (Lib.hid fun w => count_any g w) (Lib.hid fun w => count_any (fun b => !f b) w) w
end Go.Proofs.Ytennflnfjjhgpaa
