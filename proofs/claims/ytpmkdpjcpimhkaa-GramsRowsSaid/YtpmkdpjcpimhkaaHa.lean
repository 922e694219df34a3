/- Package grams. -/
import Derived.Test.YtpmkdpjcpimhkaaProg
import Derived.Test.YtpmkdpjcpimhkaaAa
import Derived.Test.YtpmkdpjcpimhkaaGd
import Derived.Deep.SlicePairs
import Derived.Deep.Slices
import Derived.Laws.IdiomArrays
import Derived.OpenShut
import Derived.WideBlind
import Derived.Great.BuildSlice
import Derived.WalkKit
import Derived.Maps.OwnSet
import Derived.Maps.OwnOps
import Derived.Maps.Own
import Derived.DeepKeys5
import Derived.BigFrame
import Derived.WalkMore
import Derived.ScopeJumps
import Derived.StillTailTactics
import Derived.Stop.BytesEq
import Derived.WalkLawsBesides
import Derived.WalkSpells
import Derived.Outline
import Derived.Lib.Walk
import Derived.Lib.Hide
import Derived.Lib.Slices
import Derived.Lib.Strings
import Derived.RegionTactic
import Derived.LoopTactic
import Derived.Below
import Derived.IntWalk
import Derived.Deep.QuietTactic
import Derived.BigQuiet
import Derived.Deep.MidRow
import Derived.Maps.AppendAt
import Derived.Laws.Rows
import Derived.Laws.Tables
import Derived.Deep.WholeRow
import Derived.Deep.Cut
import Derived.Deep.CutRange
import Derived.Lib.SliceRun
import Derived.Laws.MakeOwn
import Derived.Deep.RegionLaw
import Derived.Deep.RegionLawGrows
import Derived.Deep.RegionHeld3
import Derived.RegionCalls
import Derived.Deep.RegionWith
import Derived.Deep.Light
import Derived.Laws.CopyOwn
import Derived.Laws.ResultCell
namespace Go.Proofs.Ytpmkdpjcpimhkaa
set_option linter.unusedSimpArgs false
set_option linter.unusedVariables false
set_option maxRecDepth 100000
open Go.RowKit
/- one, below, has, isFrom. -/
theorem wrap_pow {k : Nat} (h : k < 64) : IntKind.u64.wrap (2 ^ k) = ((2 ^ k : Nat) : Int) := by
  have hp := w_pow h
  have : ((2 ^ k : Nat) : Int) = 2 ^ k := by simp
  rw [← this, IntKind.wrap_u64]
  clear this
  unfold wmax at hp
  generalize (2 : Nat) ^ k = z at hp ⊢
  omega
theorem b_or {a b : Nat} (ha : a < wmax) (hb : b < wmax) : bits .or .u64 (a : Int) (b : Int) = ((a ||| b : Nat) : Int) := bits_or_u64_nat a b ha hb
theorem b_and {a b : Nat} (ha : a < wmax) (hb : b < wmax) : bits .and .u64 (a : Int) (b : Int) = ((a &&& b : Nat) : Int) := bits_and_u64_nat a b ha hb
theorem b_not {a b : Nat} (ha : a < wmax) (hb : b < wmax) : (bits .andNot .u64 (a : Int) (b : Int) == 0) = decide (a ||| b = b) := by
  have h1 : (BitVec.ofInt 64 (a : Int)).toNat = a := by
    rw [BitVec.ofInt_natCast, BitVec.toNat_ofNat]; exact Nat.mod_eq_of_lt ha
  have h2 : (BitVec.ofInt 64 (b : Int)).toNat = b := by
    rw [BitVec.ofInt_natCast, BitVec.toNat_ofNat]; exact Nat.mod_eq_of_lt hb
  have e : bits .andNot .u64 (a : Int) (b : Int) = IntKind.u64.wrap ((BitVec.ofInt 64 (a : Int) &&& ~~~ BitVec.ofInt 64 (b : Int)).toNat : Int) := rfl
  rw [e, IntKind.wrap_u64]
  have hl := (BitVec.ofInt 64 (a : Int) &&& ~~~ BitVec.ofInt 64 (b : Int)).isLt
  have e2 : (((BitVec.ofInt 64 (a : Int) &&& ~~~ BitVec.ofInt 64 (b : Int)).toNat : Int) % 18446744073709551616 == 0) = decide ((BitVec.ofInt 64 (a : Int) &&& ~~~ BitVec.ofInt 64 (b : Int)).toNat = 0) := by
    generalize (BitVec.ofInt 64 (a : Int) &&& ~~~ BitVec.ofInt 64 (b : Int)).toNat = z at hl
    rw [Bool.eq_iff_iff, beq_iff_eq, decide_eq_true_eq]; omega
  rw [e2]
  rw [decide_eq_decide]
  constructor
  · intro h
    apply or_same.2
    intro k hk
    have hk64 : k < 64 := by
      rcases Nat.lt_or_ge k 64 with h | h
      · exact h
      · rw [w_ge ha h] at hk; cases hk
    have h3 : (BitVec.ofInt 64 (a : Int) &&& ~~~ BitVec.ofInt 64 (b : Int)).getLsbD k = false := by
      rw [BitVec.getLsbD, h]; simp
    rw [BitVec.getLsbD_and, BitVec.getLsbD_not] at h3
    rw [BitVec.getLsbD, BitVec.getLsbD, h1, h2, hk] at h3
    simpa [hk64] using h3
  · intro h
    have h4 := or_same.1 h
    have : (BitVec.ofInt 64 (a : Int) &&& ~~~ BitVec.ofInt 64 (b : Int)) = 0#64 := by
      apply BitVec.eq_of_getLsbD_eq
      intro k hk
      rw [BitVec.getLsbD_and, BitVec.getLsbD_not, BitVec.getLsbD, BitVec.getLsbD, h1, h2]
      cases hk2 : a.testBit k
      · simp
      · rw [h4 k hk2]; simp
    rw [this]; rfl
set_option maxHeartbeats 1000000 in
theorem one_any {n : Int} (h0 : 0 ≤ n) (h1 : n < 64) (w : World) :
    Calls Try.prog 61 #[.int .i64 n] w fun e w' => e = .returned (.int .u64 ((2 ^ n.toNat : Nat) : Int)) ∧ w' = w := by
  obtain ⟨k, rfl⟩ : ∃ k : Nat, (k : Int) = n := ⟨n.toNat, by omega⟩
  have hw := wrap_pow (k := k) (by omega)
  rw [Int.toNat_natCast]
  obtain ⟨z, hz⟩ : ∃ z, (2 : Nat) ^ k = z := ⟨_, rfl⟩
  rw [hz] at hw ⊢
  clear hz
  go_enter Try.func61, Try.ntmps61
  go_wp2
  go_ret
  exact ⟨rfl, rfl⟩
theorem wrapp64 : IntKind.u64.wrap (2 ^ 64) = 0 := by decide
set_option maxHeartbeats 1000000 in
theorem one_all (w : World) : Calls Try.prog 61 #[.int .i64 64] w fun e w' => e = .returned (.int .u64 0) ∧ w' = w := by
  have hw := wrapp64
  go_enter Try.func61, Try.ntmps61
  go_wp2
  go_ret
  exact ⟨rfl, rfl⟩
set_option maxHeartbeats 1000000 in
theorem below_any {n : Int} (h0 : 0 ≤ n) (h1 : n ≤ 64) (w : World) :
    Calls Try.prog 35 #[.int .i64 n] w fun e w' => e = .returned (.int .u64 ((2 ^ n.toNat - 1 : Nat) : Int)) ∧ w' = w := by
  by_cases h : n = 64
  · subst h
    have hw : IntKind.u64.wrap (-1) = 18446744073709551615 := by decide
    have hp : ((2 ^ (64 : Int).toNat - 1 : Nat) : Int) = 18446744073709551615 := by decide
    rw [hp]
    clear hp
    have H1 := Lib.hid one_all
    go_enter Try.func35, Try.ntmps35
    go_wp2_with fail
    refine (H1.out w).mono ?_
    rintro _ w1 ⟨rfl, rfl⟩
    go_wp2_with fail
    go_ret
    exact ⟨rfl, rfl⟩
  · have H1 := Lib.hid (one_any h0 (by omega : n < 64) w)
    have hpos : 0 < 2 ^ n.toNat := Nat.two_pow_pos _
    have hlt := w_pow (n := n.toNat) (by omega)
    obtain ⟨z, hz⟩ : ∃ z, (2 : Nat) ^ n.toNat = z := ⟨_, rfl⟩
    rw [hz] at H1 hpos hlt ⊢
    have hw : IntKind.u64.wrap ((z : Int) - 1) = ((z - 1 : Nat) : Int) := by
      rw [IntKind.wrap_u64]; unfold wmax at hlt; omega
    clear hz hpos hlt h
    go_enter Try.func35, Try.ntmps35
    go_wp2_with fail
    refine H1.out.mono ?_
    rintro _ w1 ⟨rfl, rfl⟩
    go_wp2_with fail
    go_ret
    exact ⟨rfl, rfl⟩
theorem and_pow (s k : Nat) : ((((s &&& 2 ^ k : Nat) : Int)) != 0) = s.testBit k := by
  cases h : s.testBit k
  · have : s &&& 2 ^ k = 0 := by
      apply Nat.eq_of_testBit_eq
      intro j
      rw [Nat.testBit_and, Nat.testBit_two_pow, Nat.zero_testBit]
      by_cases e : k = j
      · subst e; rw [h]; rfl
      · simp [e]
    rw [this]; rfl
  · have : s &&& 2 ^ k ≠ 0 := by
      intro e
      have h2 : (s &&& 2 ^ k).testBit k = true := by rw [Nat.testBit_and, h, Nat.testBit_two_pow]; simp
      rw [e] at h2; simp at h2
    rw [bne_iff_ne]; omega
set_option maxHeartbeats 1000000 in
theorem has_any {s : Nat} {n : Int} (hs : s < wmax) (h0 : 0 ≤ n) (h1 : n < 64) (w : World) :
    Calls Try.prog 63 #[.int .u64 (s : Nat), .int .i64 n] w fun e w' => e = .returned (.bool (s.testBit n.toNat)) ∧ w' = w := by
  have H1 := Lib.hid (one_any h0 h1 w)
  have hb := b_and hs (w_pow (n := n.toNat) (by omega))
  have he : ((((s &&& 2 ^ n.toNat : Nat) : Int)) != 0) = s.testBit n.toNat := by
    exact and_pow s n.toNat
  obtain ⟨z, hz⟩ : ∃ z, (2 : Nat) ^ n.toNat = z := ⟨_, rfl⟩
  obtain ⟨v, hv⟩ : ∃ v, s.testBit n.toNat = v := ⟨_, rfl⟩
  rw [hz] at H1 hb he
  rw [hv] at he ⊢
  clear hz hv
  go_enter Try.func63, Try.ntmps63
  go_wp2_with fail
  refine H1.out.mono ?_
  rintro _ w1 ⟨rfl, rfl⟩
  go_wp2_with fail
  go_ret
  exact ⟨rfl, rfl⟩
set_option maxHeartbeats 1000000 in
theorem isFrom_any (n a b : Int) (w : World) :
    Calls Try.prog 54 #[.int .i64 n, .int .i64 a, .int .i64 b] w fun e w' => e = .returned (.bool (decide (a ≤ n) && decide (n < b))) ∧ w' = w := by
  by_cases h : a ≤ n
  · rw [decide_eq_true h, Bool.true_and]
    go_enter Try.func54, Try.ntmps54
    go_wp2
    go_ret
    exact ⟨rfl, rfl⟩
  · rw [decide_eq_false h, Bool.false_and]
    go_enter Try.func54, Try.ntmps54
    go_wp2
    go_ret
    exact ⟨rfl, rfl⟩
end Go.Proofs.Ytpmkdpjcpimhkaa
