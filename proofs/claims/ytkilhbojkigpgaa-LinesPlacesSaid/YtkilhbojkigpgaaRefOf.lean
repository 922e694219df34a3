/- What the document's Of answers: the same place. -/
import Derived.Test.YtkilhbojkigpgaaEnd
namespace Go.Proofs.Ytkilhbojkigpgaa
set_option linter.unusedSimpArgs false
set_option linter.unusedVariables false
open Go.RowKit

theorem rof_none (s : ByteArray) (at' : Int) (w : World) (hs : s.size ≤ 140737488355328) (h : at' < 0 ∨ (s.size : Int) < at') :
    Calls Try.prog 15 #[.string s, .int .i64 at'] w fun r w' => r = .returned (.tuple #[pl 0 0, .int .i64 4]) ∧ Below w.heap.size w w' := by
  rcases h with h | h
  · go_enter Try.func15, Try.ntmps15
    go_wp2
    exact bodyPost_ret (v := .tuple #[pl 0 0, .int .i64 4]) (by simp [results, Try.results15, go_sem]) rfl ⟨rfl, (Below.refl _ _).alloc (Nat.le_refl _) _⟩
  · by_cases h0 : at' < 0
    · omega
    · go_enter Try.func15, Try.ntmps15
      go_wp2
      exact bodyPost_ret (v := .tuple #[pl 0 0, .int .i64 4]) (by simp [results, Try.results15, go_sem]) rfl ⟨rfl, (Below.refl _ _).alloc (Nat.le_refl _) _⟩

theorem rof_some (s : ByteArray) (n : Nat) (w : World) (hs : s.size ≤ 140737488355328) (h : n ≤ s.size) :
    Calls Try.prog 15 #[.string s, .int .i64 n] w fun r w' => r = .returned (.tuple #[pl (cntN (s.data.toList.take n)) (colN (s.data.toList.take n)), .int .i64 0]) ∧ Below w.heap.size w w' := by
  have hlen : s.data.toList.length = s.size := by simp
  have hlen' := Lib.hid hlen; clear hlen
  go_enter Try.func15, Try.ntmps15
  go_wp2
  go_loopw [7] (fun i wr => ∃ k : Nat, k ≤ n ∧ i = .int .i64 k ∧ wr = (w.alloc (.cells #[.int .i64 0, .int .i64 0] 26)).alloc (.cells #[.int .i64 (cntN (s.data.toList.take k)), .int .i64 (colN (s.data.toList.take k))] 26)) (fun i _ => n - (intOf i).toNat)
  case atStart => exact ⟨0, Nat.zero_le _, rfl, rfl⟩
  case round =>
    obtain ⟨k, hk, rfl, rfl⟩ := hrel
    have a1 : cntN (s.data.toList.take k) ≤ k := Nat.le_trans (cnt_le _) (by rw [List.length_take]; omega)
    have a2 : colN (s.data.toList.take k) ≤ k := Nat.le_trans (col_le _) (by rw [List.length_take]; omega)
    by_cases hkn : k < n
    · have hks : k < s.size := by omega
      have hst := take_succ' s.data.toList k (by rw [hlen'.out]; exact hks)
      rw [byteAt s k hks] at hst
      obtain ⟨x, hx⟩ : ∃ x, cntN (s.data.toList.take k) = x := ⟨_, rfl⟩
      obtain ⟨y, hy⟩ : ∃ y, colN (s.data.toList.take k) = y := ⟨_, rfl⟩
      by_cases hc : s[k] = 10
      · have e1 : cntN (s.data.toList.take (k + 1)) = x + 1 := by rw [hst, hc, cnt_nl, hx]
        have e2 : colN (s.data.toList.take (k + 1)) = 0 := by rw [hst, hc, col_nl]
        have e1' := Lib.hid e1; have e2' := Lib.hid e2
        have t1 : (((s[k]).toNat : Int) == 10) = true := by rw [hc]; rfl
        rw [hx] at a1
        rw [hy] at a2
        simp only [hx, hy]
        clear e1 e2 hst hc hx hy
        go_wp2
        exact ⟨⟨k + 1, hkn, by go_num, by rw [e1'.out, e2'.out]; rfl⟩, by simp [intOf]; omega⟩
      · have e1 : cntN (s.data.toList.take (k + 1)) = x := by rw [hst, cnt_other _ _ hc, hx]
        have e2 : colN (s.data.toList.take (k + 1)) = y + 1 := by rw [hst, col_other _ _ hc, hy]
        have e1' := Lib.hid e1; have e2' := Lib.hid e2
        have t1 : (((s[k]).toNat : Int) == 10) = false := by
          rw [beq_eq_false_iff_ne]; intro e; exact hc (UInt8.toNat_inj.1 (by have e10 : (10 : UInt8).toNat = 10 := rfl; omega))
        rw [hx] at a1
        rw [hy] at a2
        simp only [hx, hy]
        clear e1 e2 hst hc hx hy
        go_wp2
        exact ⟨⟨k + 1, hkn, by go_num, by rw [e1'.out, e2'.out]; rfl⟩, by simp [intOf]; omega⟩
    · obtain rfl : k = n := by omega
      obtain ⟨x, hx⟩ : ∃ x, cntN (s.data.toList.take k) = x := ⟨_, rfl⟩
      obtain ⟨y, hy⟩ : ∃ y, colN (s.data.toList.take k) = y := ⟨_, rfl⟩
      simp only [hx, hy]
      have hx' := Lib.hid hx; have hy' := Lib.hid hy
      clear hx hy a1 a2
      go_wp2
      refine bodyPost_ret (v := .tuple #[pl x y, .int .i64 0]) (by simp [results, Try.results15, go_sem]) rfl ⟨by rw [hx'.out, hy'.out], ?_⟩
      exact ((Below.refl _ _).alloc (Nat.le_refl _) _).alloc (by simp) _
end Go.Proofs.Ytkilhbojkigpgaa
