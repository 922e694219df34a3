/- LinesLong: the walk. -/
import Derived.Test.YtkilhbojkigpgaaLR
namespace Go.Proofs.Ytkilhbojkigpgaa
set_option linter.unusedSimpArgs false
set_option linter.unusedVariables false
open Go.RowKit

theorem long_none (s : ByteArray) (L : Int) (w : World) (hs : s.size ≤ 140737488355328) (h : L < 0 ∨ (cntN s.data.toList : Int) < L) :
    Calls Try.prog 10 #[.string s, .int .i64 L] w fun r w' => r = .returned (.bool true) ∧ Below w.heap.size w w' := by
  obtain ⟨h1, h2⟩ := at_nolines s.data.toList L 0 h
  have q1 := Lib.hid (at_is s L 0 0 4 hs h1 h2)
  obtain ⟨z, hz⟩ : ∃ z : Int, (cntN s.data.toList : Int) = z := ⟨_, rfl⟩
  have q2 := Lib.hid (count_is' s z hs hz)
  rw [hz] at h
  have hz0 : 0 ≤ z := by omega
  have hz2 : z ≤ 140737488355328 := by
    have := cnt_le s.data.toList
    have : s.data.toList.length = s.size := by simp
    omega
  clear h1 h2 hz
  by_cases hL : L < 0
  · go_enter Try.func10, Try.ntmps10
    go_wp2_with fail
    refine (q1.out _).mono ?_
    rintro _ w1 ⟨rfl, hb1⟩
    go_wp2_with fail
    refine (alive_any _).mono ?_
    rintro _ w9 ⟨rfl, hb9⟩
    go_wp2
    go_ret
    exact ⟨rfl, below_call hb1 hb1.size hb9⟩
  · have hL2 : z + 1 ≤ L := by omega
    go_enter Try.func10, Try.ntmps10
    go_wp2_with fail
    refine (q1.out _).mono ?_
    rintro _ w1 ⟨rfl, hb1⟩
    go_wp2_with fail
    refine (q2.out _).mono ?_
    rintro _ w2 ⟨rfl, hb2⟩
    go_wp2_with fail
    refine (alive_any _).mono ?_
    rintro _ w9 ⟨rfl, hb9⟩
    go_wp2
    go_ret
    exact ⟨rfl, below_call (below_call hb1 hb1.size hb2) (Nat.le_trans hb1.size hb2.size) hb9⟩

set_option maxRecDepth 100000 in
theorem long_some (s : ByteArray) (l a : Nat) (w : World) (hs : s.size ≤ 140737488355328) (hH : Head s.data.toList a l) (hl : l ≤ cntN s.data.toList) :
    Calls Try.prog 10 #[.string s, .int .i64 l] w fun r w' => r = .returned (.bool true) ∧ Below w.heap.size w w' := by
  have hlen : s.data.toList.length = s.size := by simp
  have ha : a ≤ s.size := by have := hH.le; omega
  have hlc := lastCol_le (s.data.toList.drop a)
  rw [List.length_drop, hlen] at hlc
  obtain ⟨c, hc⟩ : ∃ c : Nat, (c : Int) = lastCol (s.data.toList.drop a) := ⟨(lastCol (s.data.toList.drop a)).toNat, by omega⟩
  have hac : a + c ≤ s.size := by omega
  have q1 : ∀ k : Nat, k ≤ c → ∀ w, Calls Try.prog 16 #[.string s, pl l k] w fun r w' => r = .returned (.tuple #[.int .i64 ((a : Int) + (k : Int)), .int .i64 0]) ∧ Below w.heap.size w w' := by
    intro k hk
    have := at_found hH k (by omega) (by omega)
    exact at_is s l k _ 0 hs (by rw [this.1]) this.2
  have q2 : ∀ w, Calls Try.prog 16 #[.string s, pl l ((c : Int) + 1)] w fun r w' => r = .returned (.tuple #[.int .i64 0, .int .i64 4]) ∧ Below w.heap.size w w' := by
    have := at_beyond hH ((c : Int) + 1) (.inr (by omega))
    exact at_is s l _ _ _ hs this.1 this.2
  obtain ⟨z, hz⟩ : ∃ z : Int, (cntN s.data.toList : Int) = z := ⟨_, rfl⟩
  have q3 := Lib.hid (count_is' s z hs hz)
  have hz1 : (l : Int) ≤ z := by omega
  have hz2 : z ≤ 140737488355328 := by
    have := cnt_le s.data.toList
    omega
  have hmore : ∀ k : Nat, k < c → ∃ hi : a + k < s.size, s[a + k] ≠ 10 := by
    intro k hk
    obtain ⟨hi, he⟩ := lastCol_more hH.le k (by omega)
    have hi' : a + k < s.size := by omega
    exact ⟨hi', by rw [← byteAt s (a + k) hi' hi]; exact he⟩
  have hstop : ∀ hi : a + c < s.size, s[a + c] = 10 := by
    intro hi
    rw [← byteAt s (a + c) hi (by omega)]
    exact lastCol_stop hH.le c hc (by omega)
  have q1' := Lib.hid q1; have q2' := Lib.hid q2; have hmore' := Lib.hid hmore; have hstop' := Lib.hid hstop
  clear q1 q2 hmore hstop hH hz hc hlc hlen hl
  have g0 : decide (s.size < a) = false := decide_eq_false (by omega)
  go_enter Try.func10, Try.ntmps10
  go_wp2_with fail
  refine (q1'.out 0 (Nat.zero_le _) _).mono ?_
  rintro _ w1 ⟨rfl, hb1⟩
  go_wp2_with fail
  refine (q3.out _).mono ?_
  rintro _ w2 ⟨rfl, hb2⟩
  have L2 := Lib.hid (below_call hb1 hb1.size hb2)
  have S2 := Lib.hid (Nat.le_trans hb1.size hb2.size)
  clear hb1 hb2
  go_wp2_with fail
  go_loopw [7] (fun v wr => ∃ k : Nat, k ≤ c ∧ k ≤ 200 ∧ v = .int .i64 k ∧ Below w.heap.size w wr ∧ w.heap.size ≤ wr.heap.size) (fun v _ => 200 - (intOf v).toNat)
  case atStart => exact ⟨0, Nat.zero_le _, by omega, rfl, L2.out, S2.out⟩
  case round =>
    clear L2 S2
    obtain ⟨k, hk1, hk2, rfl, L3, S3⟩ := hrel
    have L3' := Lib.hid L3; have S3' := Lib.hid S3
    clear L3 S3
    by_cases hkc : k < c
    · obtain ⟨hi, hne⟩ := hmore'.out k hkc
      have t1 : (((s[a + k]'hi).toNat : Int) == 10) = false := by
        rw [beq_eq_false_iff_ne]; intro e; exact hne (UInt8.toNat_inj.1 (by have e10 : (10 : UInt8).toNat = 10 := rfl; omega))
      have t2 : (((s[a + k]'hi).toNat : Int) != 10) = true := by rw [bne, t1]; rfl
      clear hne
      by_cases hk : k < 200
      · go_wp2_with fail
        refine (q1'.out k hk1 _).mono ?_
        rintro _ w3 ⟨rfl, hb3⟩
        have L4 := Lib.hid (below_call L3'.out S3'.out hb3)
        have S4 := Lib.hid (Nat.le_trans S3'.out hb3.size)
        go_wp2_with fail
        go_roundw
        case rel => exact ⟨k + 1, by omega, by omega, by go_num, L4.out, S4.out⟩
        case measure => simp [intOf]; omega
      · obtain rfl : k = 200 := by omega
        go_wp2_with fail
        refine (alive_any _).mono ?_
        rintro _ w9 ⟨rfl, hb9⟩
        go_wp2
        go_ret
        exact ⟨rfl, below_call L3'.out S3'.out hb9⟩
    · obtain rfl : k = c := by omega
      by_cases hi : a + k < s.size
      · have t1 : (((s[a + k]'hi).toNat : Int) == 10) = true := by rw [hstop'.out hi]; rfl
        have t2 : (((s[a + k]'hi).toNat : Int) != 10) = false := by rw [bne, t1]; rfl
        by_cases hk : k = 200
        · subst hk
          go_wp2_with fail
          refine (alive_any _).mono ?_
          rintro _ w9 ⟨rfl, hb9⟩
          go_wp2
          go_ret
          exact ⟨rfl, below_call L3'.out S3'.out hb9⟩
        · have hk' : ((k : Int) == 200) = false := by rw [beq_eq_false_iff_ne]; omega
          go_wp2_with fail
          refine (q1'.out k hk1 _).mono ?_
          rintro _ w3 ⟨rfl, hb3⟩
          have L4 := Lib.hid (below_call L3'.out S3'.out hb3)
          have S4 := Lib.hid (Nat.le_trans S3'.out hb3.size)
          go_wp2_with fail
          refine (q2'.out _).mono ?_
          rintro _ w4 ⟨rfl, hb4⟩
          have L5 := Lib.hid (below_call L4.out S4.out hb4)
          have S5 := Lib.hid (Nat.le_trans S4.out hb4.size)
          go_wp2_with fail
          refine (alive_any _).mono ?_
          rintro _ w9 ⟨rfl, hb9⟩
          go_wp2
          go_ret
          exact ⟨rfl, below_call L5.out S5.out hb9⟩
      · have hi' : s.size ≤ a + k := by omega
        by_cases hk : k = 200
        · subst hk
          go_wp2_with fail
          refine (alive_any _).mono ?_
          rintro _ w9 ⟨rfl, hb9⟩
          go_wp2
          go_ret
          exact ⟨rfl, below_call L3'.out S3'.out hb9⟩
        · have hk' : ((k : Int) == 200) = false := by rw [beq_eq_false_iff_ne]; omega
          go_wp2_with fail
          refine (q1'.out k hk1 _).mono ?_
          rintro _ w3 ⟨rfl, hb3⟩
          have L4 := Lib.hid (below_call L3'.out S3'.out hb3)
          have S4 := Lib.hid (Nat.le_trans S3'.out hb3.size)
          go_wp2_with fail
          refine (q2'.out _).mono ?_
          rintro _ w4 ⟨rfl, hb4⟩
          have L5 := Lib.hid (below_call L4.out S4.out hb4)
          have S5 := Lib.hid (Nat.le_trans S4.out hb4.size)
          go_wp2_with fail
          refine (alive_any _).mono ?_
          rintro _ w9 ⟨rfl, hb9⟩
          go_wp2
          go_ret
          exact ⟨rfl, below_call L5.out S5.out hb9⟩

theorem long_walk (s : ByteArray) (L : Int) (w : World) (hs : s.size ≤ 140737488355328) :
    Calls Try.prog 10 #[.string s, .int .i64 L] w fun r w' => r = .returned (.bool true) ∧ Below w.heap.size w w' := by
  by_cases h : L < 0 ∨ (cntN s.data.toList : Int) < L
  · exact long_none s L w hs h
  · obtain ⟨a, ha⟩ := head_exists s.data.toList L.toNat (by omega)
    have := long_some s L.toNat a w hs ha (by omega)
    rwa [show ((L.toNat : Nat) : Int) = L by omega] at this
end Go.Proofs.Ytkilhbojkigpgaa
