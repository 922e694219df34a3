/- SetsBack: the walk. -/
import Derived.Test.YtennflnfjjhgpaaProg
import Derived.Test.YtennflnfjjhgpaaL1
import Derived.WalkKit
import Derived.WalkLawsBesides
import Derived.WalkSpells
import Derived.Outline
import Derived.Lib.Walk
import Derived.Lib.Hide
import Derived.RegionTactic
import Derived.LoopTactic
import Derived.Below
import Derived.IntWalk
import Derived.Deep.RegionHeld3
import Derived.RegionCalls
import Derived.Deep.RegionWith
import Derived.Lib.Slices
namespace Go.Proofs.Ytennflnfjjhgpaa
set_option linter.unusedSimpArgs false
set_option linter.unusedVariables false
open Go.RowKit

theorem pr_sz (f : Nat → Bool) : (bs (pr f)).size ≤ 140737488355328 := by
  have h := pr_len f
  show (pr f).length ≤ 140737488355328
  omega
theorem back_c (f : Nat → Bool) (w : World) : Calls Try.prog 26 #[.string (bs (pr f))] w fun e w' => e = .returned (.tuple #[setV f, .int .i64 0]) ∧ Below w.heap.size w w' := by
  obtain ⟨g, hg, hk⟩ := ps_pr f
  refine (parse_any (bs (pr f)) (pr_sz f) w).mono fun e w' h => ⟨?_, h.2⟩
  rw [h.1]
  show PE (ps (pr f)) = _
  rw [hg]
  show Ending.returned (.tuple #[setV g, .int .i64 0]) = _
  rw [setV_congr hk]
set_option maxHeartbeats 8000000 in
set_option maxRecDepth 100000 in
theorem back_no (u : Nat → Int) (P s : ByteArray) (hp : Hid (∀ w, Calls Try.prog 24 #[vv u] w fun e w' => e = .returned (.string P) ∧ Below w.heap.size w w')) (hr : Hid (∀ w, Calls Try.prog 26 #[.string P] w fun e w' => e = .returned (.tuple #[vv u, .int .i64 0]) ∧ Below w.heap.size w w')) (hps : Hid (∀ w, Calls Try.prog 26 #[.string s] w fun e w' => e = .returned (.tuple #[.agg #[.int .u64 0, .int .u64 0, .int .u64 0, .int .u64 0], .int .i64 50]) ∧ Below w.heap.size w w')) (w : World) :
    Calls Try.prog 7 #[vv u, .string s] w fun e w' => e = .returned (.bool true) ∧ Below w.heap.size w w' := by
  have S0 := Lib.hid ((Sb.start w).alloc (.cells (vc u) 24))
  have hal := Lib.hid alive_any
  have heq := eq24
  go_enter Try.func7, Try.ntmps7
  go_wp2_with fail
  refine (hp.out _).mono ?_
  rintro _ w1 ⟨rfl, hb⟩
  have HS1 := Lib.hid (S0.out.up hb)
  clear hb S0
  go_wp2_with fail
  refine (hr.out _).mono ?_
  rintro _ w2 ⟨rfl, hb⟩
  have HS2 := Lib.hid (HS1.out.up hb)
  have HS3 := Lib.hid (HS2.out.up ((Below.refl _ _).alloc (Nat.le_refl _) (.cells (vc u) 24)))
  clear hb HS1
  have c0_0 := HS2.out.vw 0 (by omega); have c0_1 := HS2.out.vw 1 (by omega); have c0_2 := HS2.out.vw 2 (by omega); have c0_3 := HS2.out.vw 3 (by omega); have zc0 := HS2.out.lt
  go_wp2_with fail
  refine (hps.out _).mono ?_
  rintro _ w3 ⟨rfl, hb⟩
  have HS4 := Lib.hid ((HS3.out.up hb).up ((Below.refl _ _).alloc (Nat.le_refl _) (.cells #[.int .u64 0, .int .u64 0, .int .u64 0, .int .u64 0] 24)))
  clear hb HS3 HS2
  clear c0_0 c0_1 c0_2 c0_3 zc0
  go_wp2_with fail
  refine (hal.out _).mono ?_
  rintro _ w4 ⟨rfl, hb⟩
  have HS5 := Lib.hid (HS4.out.up hb)
  clear hb
  go_wp2
  go_ret
  exact ⟨rfl, HS5.out.1⟩

set_option maxHeartbeats 8000000 in
set_option maxRecDepth 100000 in
theorem back_yes (u v : Nat → Int) (P P2 s : ByteArray) (hl : P2.size ≤ 512) (hp : Hid (∀ w, Calls Try.prog 24 #[vv u] w fun e w' => e = .returned (.string P) ∧ Below w.heap.size w w')) (hr : Hid (∀ w, Calls Try.prog 26 #[.string P] w fun e w' => e = .returned (.tuple #[vv u, .int .i64 0]) ∧ Below w.heap.size w w')) (hps : Hid (∀ w, Calls Try.prog 26 #[.string s] w fun e w' => e = .returned (.tuple #[vv v, .int .i64 0]) ∧ Below w.heap.size w w')) (hp2 : Hid (∀ w, Calls Try.prog 24 #[vv v] w fun e w' => e = .returned (.string P2) ∧ Below w.heap.size w w')) (hr2 : Hid (∀ w, Calls Try.prog 26 #[.string P2] w fun e w' => e = .returned (.tuple #[vv v, .int .i64 0]) ∧ Below w.heap.size w w')) (w : World) :
    Calls Try.prog 7 #[vv u, .string s] w fun e w' => e = .returned (.bool true) ∧ Below w.heap.size w w' := by
  have S0 := Lib.hid ((Sb.start w).alloc (.cells (vc u) 24))
  have hal := Lib.hid alive_any
  have heq := eq24
  go_enter Try.func7, Try.ntmps7
  go_wp2_with fail
  refine (hp.out _).mono ?_
  rintro _ w1 ⟨rfl, hb⟩
  have HS1 := Lib.hid (S0.out.up hb)
  clear hb S0
  go_wp2_with fail
  refine (hr.out _).mono ?_
  rintro _ w2 ⟨rfl, hb⟩
  have HS2 := Lib.hid (HS1.out.up hb)
  have HS3 := Lib.hid (HS2.out.up ((Below.refl _ _).alloc (Nat.le_refl _) (.cells (vc u) 24)))
  clear hb HS1
  have c0_0 := HS2.out.vw 0 (by omega); have c0_1 := HS2.out.vw 1 (by omega); have c0_2 := HS2.out.vw 2 (by omega); have c0_3 := HS2.out.vw 3 (by omega); have zc0 := HS2.out.lt
  go_wp2_with fail
  refine (hps.out _).mono ?_
  rintro _ w3 ⟨rfl, hb⟩
  have HS4 := Lib.hid ((HS3.out.up hb).alloc (.cells (vc v) 24))
  clear hb HS3 HS2
  clear c0_0 c0_1 c0_2 c0_3 zc0
  go_wp2_with fail
  refine (hp2.out _).mono ?_
  rintro _ w4 ⟨rfl, hb⟩
  have HS5 := Lib.hid (HS4.out.up hb)
  clear hb HS4
  generalize w3.heap.size = b3 at *
  go_wp2_with fail
  refine (hr2.out _).mono ?_
  rintro _ w5 ⟨rfl, hb⟩
  have HS6 := Lib.hid (HS5.out.up hb)
  have HS7 := Lib.hid (HS6.out.up ((Below.refl _ _).alloc (Nat.le_refl _) (.cells (vc v) 24)))
  clear hb HS5
  have c0_0 := HS6.out.vw 0 (by omega); have c0_1 := HS6.out.vw 1 (by omega); have c0_2 := HS6.out.vw 2 (by omega); have c0_3 := HS6.out.vw 3 (by omega); have zc0 := HS6.out.lt
  go_wp2_with fail
  refine (hal.out _).mono ?_
  rintro _ w6 ⟨rfl, hb⟩
  have HS8 := Lib.hid (HS7.out.up hb)
  clear hb
  go_wp2
  go_ret
  exact ⟨rfl, HS8.out.1⟩

theorem law_back (f : Nat → Bool) (s : ByteArray) (hs : s.size ≤ 140737488355328) (w : World) : Calls Try.prog 7 #[setV f, .string s] w fun e w' => e = .returned (.bool true) ∧ Below w.heap.size w w' := by
  cases hc : ps s.data.toList with
  | none => exact back_no (wf f) (bs (pr f)) s (Lib.hid (print_any f)) (Lib.hid (back_c f)) (Lib.hid fun w => by have h := parse_any s hs w; rw [hc] at h; exact h) w
  | some g => exact back_yes (wf f) (wf g) (bs (pr f)) (bs (pr g)) s (by have h := pr_len g; show (pr g).length ≤ 512; omega) (Lib.hid (print_any f)) (Lib.hid (back_c f)) (Lib.hid fun w => by have h := parse_any s hs w; rw [hc] at h; exact h) (Lib.hid (print_any g)) (Lib.hid (back_c g)) w
end Go.Proofs.Ytennflnfjjhgpaa
