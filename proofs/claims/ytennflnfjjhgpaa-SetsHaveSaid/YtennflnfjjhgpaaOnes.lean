/- math/bits.OnesCount64: how many bits are 1. -/
import Derived.Test.YtennflnfjjhgpaaProg
import Derived.Test.YtennflnfjjhgpaaBits
import Derived.WalkKit
import Derived.WalkLawsBesides
import Derived.WalkSpells
import Derived.Outline
import Derived.Lib.Walk
import Derived.Lib.Hide
import Derived.RegionTactic
import Derived.LoopTactic
import Derived.Below
import Derived.Laws.BitsLemmas
import Derived.IntWalk
namespace Go.Proofs.Ytennflnfjjhgpaa
set_option linter.unusedSimpArgs false
set_option linter.unusedVariables false
open Go.RowKit

theorem wrap_u64_id (x : Nat) (h : x < 18446744073709551616) : IntKind.u64.wrap (x : Int) = (x : Int) := by
  rw [IntKind.wrap_u64]; omega
theorem and_u64 (a b : Nat) (ha : a < 18446744073709551616) (hb : b < 18446744073709551616) : bits .and .u64 (a : Int) (b : Int) = ((a &&& b : Nat) : Int) := bits_and_u64_nat a b ha hb
theorem and_lt (a b : Nat) (hb : b < 18446744073709551616) : (a &&& b) < 18446744073709551616 := Nat.lt_of_le_of_lt Nat.and_le_right hb

theorem o1_lt (x : Nat) (h : x < 18446744073709551616) : o1 x < 18446744073709551616 := by
  unfold o1
  have h1 : (x / 2 &&& 6148914691236517205) ≤ 6148914691236517205 := Nat.and_le_right
  have h2 : (x &&& 6148914691236517205) ≤ 6148914691236517205 := Nat.and_le_right
  omega
theorem o2_lt (x : Nat) : o2 x < 18446744073709551616 / 2 := by
  unfold o2
  have h1 : (x / 4 &&& 3689348814741910323) ≤ 3689348814741910323 := Nat.and_le_right
  have h2 : (x &&& 3689348814741910323) ≤ 3689348814741910323 := Nat.and_le_right
  omega
theorem st1 (x : Nat) (h : x < 18446744073709551616) : IntKind.u64.wrap (bits .and .u64 ((x : Int) / 2) 6148914691236517205 + bits .and .u64 (x : Int) 6148914691236517205) = ((o1 x : Nat) : Int) := by
  have e1 : ((x : Int) / 2) = ((x / 2 : Nat) : Int) := by simp
  have a1 := and_u64 (x / 2) 6148914691236517205 (by omega) (by omega)
  have a2 := and_u64 x 6148914691236517205 h (by omega)
  have c : ((6148914691236517205 : Nat) : Int) = 6148914691236517205 := rfl
  rw [c] at a1 a2
  rw [e1, a1, a2, ← Int.natCast_add]
  exact wrap_u64_id _ (o1_lt x h)
theorem st2 (x : Nat) (h : x < 18446744073709551616) : IntKind.u64.wrap (bits .and .u64 ((x : Int) / 4) 3689348814741910323 + bits .and .u64 (x : Int) 3689348814741910323) = ((o2 x : Nat) : Int) := by
  have e1 : ((x : Int) / 4) = ((x / 4 : Nat) : Int) := by simp
  have a1 := and_u64 (x / 4) 3689348814741910323 (by omega) (by omega)
  have a2 := and_u64 x 3689348814741910323 h (by omega)
  have c : ((3689348814741910323 : Nat) : Int) = 3689348814741910323 := rfl
  rw [c] at a1 a2
  rw [e1, a1, a2, ← Int.natCast_add]
  exact wrap_u64_id _ (by have := o2_lt x; unfold o2 at this; omega)
theorem st3 (x : Nat) (h : x < 18446744073709551616 / 2) : bits .and .u64 (IntKind.u64.wrap ((x : Int) / 16 + (x : Int))) 1085102592571150095 = ((o3 x : Nat) : Int) := by
  have e1 : ((x : Int) / 16 + (x : Int)) = ((x / 16 + x : Nat) : Int) := by simp
  have a1 := and_u64 (x / 16 + x) 1085102592571150095 (by omega) (by omega)
  have c : ((1085102592571150095 : Nat) : Int) = 1085102592571150095 := rfl
  rw [c] at a1
  rw [e1, wrap_u64_id _ (by omega), a1]; rfl

theorem i63 : ((2 : Int) ^ 63) = 9223372036854775808 := by decide
theorem wraps_i64 (n : Int) (h0 : 0 ≤ n) (h1 : n < 2 ^ 63) : IntKind.i64.wrap n = n := by
  rw [i63] at h1
  rw [IntKind.wrap_i64]; omega
theorem p7 : ((2 : Int) ^ 7) = 128 := by decide
theorem p7' : ((2 : Int) ^ 7 - 1) = 127 := by decide
theorem and127 (t : Nat) (h : t < 9223372036854775808) : bits .and .i64 (t : Int) 127 = ((t % 128 : Nat) : Int) := by
  have h1 : (t : Int) < 9223372036854775808 := by omega
  have hm := bits_mask .i64 63 (by decide) wraps_i64 7 (by decide) (t : Int) (Int.natCast_nonneg t) (i63.symm ▸ h1)
  rw [p7', p7] at hm
  rw [hm]
  exact (Int.natCast_emod t 128).symm

theorem sums (u a b t : Nat) (q2 : u + u / 256 = a) (q3 : a + a / 65536 = b) (q4 : b + b / 4294967296 = t) (q5 : u < 1152921504606846976) :
    IntKind.u64.wrap ((u : Int) + (u : Int) / 256) = (a : Int) ∧ IntKind.u64.wrap ((a : Int) + (a : Int) / 65536) = (b : Int) ∧ IntKind.u64.wrap ((b : Int) + (b : Int) / 4294967296) = (t : Int) ∧ t < 9223372036854775808 := by
  refine ⟨?_, ?_, ?_, ?_⟩
  · rw [IntKind.wrap_u64]; omega
  · rw [IntKind.wrap_u64]; omega
  · rw [IntKind.wrap_u64]; omega
  · omega
theorem e7 (t : Nat) (h : t < 9223372036854775808) : bits .and .i64 (wrap64 (t : Int)) 127 = ((t % 128 : Nat) : Int) := by
  have hw : wrap64 (t : Int) = (t : Int) := IntWalk.wrap64_in _ (by omega)
  rw [hw, and127 t h]

set_option maxHeartbeats 1000000 in
theorem ones_any (x : Nat) (hx : x < 18446744073709551616) (w : World) :
    Calls Try.prog 28 #[.int .u64 x] w fun e w' => e = .returned (.int .i64 (cntF (Nat.testBit x) 64 : Nat)) ∧ w = w' := by
  have e1 := st1 x hx
  have l1 := o1_lt x hx
  generalize hy : o1 x = y at e1 l1
  have e2 := st2 y l1
  have l2 := o2_lt y
  generalize hz : o2 y = z at e2 l2
  have e3 := st3 z l2
  obtain ⟨u, a, b, t, q1, q2, q3, q4, q5, q6⟩ := ones_all x hx
  rw [hy, hz] at q1
  rw [q1] at e3
  obtain ⟨e4, e5, e6, l4⟩ := sums u a b t q2 q3 q4 q5
  have e7 := e7 t l4
  rw [q6] at e7
  generalize hc : cntF (Nat.testBit x) 64 = c at e7
  clear q1 q2 q3 q4 q5 q6 l1 l2 l4 hy hz hx hc
  go_enter Try.func28, Try.ntmps28
  go_wp2
  go_ret
  exact ⟨rfl, rfl⟩
end Go.Proofs.Ytennflnfjjhgpaa
