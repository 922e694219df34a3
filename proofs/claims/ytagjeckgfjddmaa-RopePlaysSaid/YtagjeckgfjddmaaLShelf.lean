/- What strings.IndexByte, strings.Count at one byte, strings.LastIndexByte of a byte 10 answer; the world is as it was. -/
import Derived.Test.YtagjeckgfjddmaaRows
import Derived.Test.YtagjeckgfjddmaaProg
import Derived.WalkKit
import Derived.WalkLawsBesides
import Derived.WalkSpells
import Derived.Lib.Strings
import Derived.Lib.Slices
import Derived.Lib.Walk
import Derived.Lib.Bytealg
import Derived.Test.YtagjeckgfjddmaaText
import Derived.Lib.Hide
import Derived.Below
import Derived.Outline
namespace Go.Proofs.Ytagjeckgfjddmaa
set_option linter.unusedSimpArgs false
set_option linter.unusedVariables false
open Go.RowKit


set_option maxHeartbeats 1000000 in
theorem index1_any (s : ByteArray) (c : Int) (w : World) :
    Calls Try.prog 80 #[.string s, .int .u8 c] w fun e w' => e = .returned (.int .i64 (Lib.indexByte s.data.toList c.toNat.toUInt8)) ∧ w = w' := by
  go_enter Try.func80, Try.ntmps80
  go_wp2
  rw [run_callFunc_extern Try.func88 (by kernel_rfl) (by kernel_rfl) (by kernel_rfl) (e := Extern.BytealgIndexByte.indexByte) (by kernel_rfl), Lib.run_indexByteString]
  simp only [Result.andThen]
  rw [Oper.upon_value]
  go_wp2
  go_ret
  exact ⟨rfl, rfl⟩
theorem index_any (s : ByteArray) (c : Int) (w : World) :
    Calls Try.prog 65 #[.string s, .int .u8 c] w fun e w' => e = .returned (.int .i64 (Lib.indexByte s.data.toList c.toNat.toUInt8)) ∧ w = w' := by
  go_enter Try.func65, Try.ntmps65
  go_wp2_with (go_at_call 80; refine (index1_any _ _ _).mono ?_; rintro e w' ⟨rfl, rfl⟩)
  go_ret
  exact ⟨rfl, rfl⟩
theorem index10_any (s : ByteArray) (w : World) :
    Calls Try.prog 65 #[.string s, .int .u8 10] w fun e w' => e = .returned (.int .i64 (Lib.indexByte s.data.toList 10)) ∧ w = w' := index_any s 10 w
set_option maxHeartbeats 1000000 in
set_option maxRecDepth 100000 in
theorem count_any (s : ByteArray) (c : UInt8) (w : World) :
    Calls Try.prog 78 #[.string s, .string ⟨#[c]⟩] w fun e w' => e = .returned (.int .i64 (Lib.countByte s.data.toList c)) ∧ w = w' := by
  go_enter Try.func78, Try.ntmps78
  go_wp2
  rw [run_callFunc_extern Try.func85 (by kernel_rfl) (by kernel_rfl) (by kernel_rfl) (e := Extern.BytealgCount.count) (by kernel_rfl), Lib.run_countString]
  simp only [Result.andThen]
  rw [Oper.upon_value]
  go_wp2
  go_ret
  exact ⟨rfl, rfl⟩
theorem ret_int {a b : Int} (h : a = b) : Ending.returned (.int .i64 a) = .returned (.int .i64 b) := by rw [h]
theorem byteAt (s : ByteArray) (k : Nat) (h : k < s.size) (h' : k < s.data.toList.length) : s.data.toList[k] = s[k] := by simp; rfl
/-- strings.LastIndexByte of a byte 10: as many bytes stand behind it as the last line has. -/
theorem last1_any (s : ByteArray) (q : Nat) (hq : colN s.data.toList = q) (hs : s.size ≤ 140737488355328) (w : World) :
    Calls Try.prog 87 #[.string s, .int .u8 10] w fun e w' => e = .returned (.int .i64 ((s.size : Int) - 1 - q)) ∧ w = w' := by
  have hlen : s.data.toList.length = s.size := by simp
  have hlen' := Lib.hid hlen; have hq' := Lib.hid hq
  clear hlen hq
  go_enter Try.func87, Try.ntmps87
  go_wp2
  go_loop [5] (fun i => ∃ k : Nat, k ≤ s.size ∧ i = .int .i64 ((k : Int) - 1) ∧ q + k = s.size + colN (s.data.toList.take k)) (fun i => (intOf i + 1).toNat)
  case atStart =>
    refine ⟨s.size, Nat.le_refl _, by first | rfl | go_num, ?_⟩
    rw [← hlen'.out, List.take_length, hq'.out]; omega
  case round =>
    obtain ⟨k, hk, rfl, hI⟩ := hrel
    rcases Nat.eq_zero_or_pos k with h0 | h0
    · subst h0
      have hz : q = s.size := by rw [List.take_zero, col_nil] at hI; omega
      have hz' := Lib.hid hz
      clear hI hz
      go_wp2
      go_ret
      exact ⟨ret_int (by rw [hz'.out]; omega), rfl⟩
    · obtain ⟨j, rfl⟩ : ∃ j, k = j + 1 := ⟨k - 1, by omega⟩
      have hj : j < s.size := by omega
      have hjl : j < s.data.toList.length := by rw [hlen'.out]; exact hj
      have ht := take_succ' s.data.toList j hjl
      rw [byteAt s j hj hjl] at ht
      rw [show (((j + 1 : Nat) : Int) - 1) = (j : Int) by omega]
      by_cases hc : s[j]'hj = 10
      · have t1 : (((s[j]'hj).toNat : Int) == 10) = true := by rw [hc]; rfl
        rw [ht, hc, col_nl] at hI
        have hI' := Lib.hid hI
        clear hI ht hc
        go_wp2
        go_ret
        exact ⟨ret_int (by have := hI'.out; omega), rfl⟩
      · have t1 : (((s[j]'hj).toNat : Int) == 10) = false := by
          rw [beq_eq_false_iff_ne]; intro e; exact hc (UInt8.toNat_inj.1 (by have e10 : (10 : UInt8).toNat = 10 := rfl; omega))
        rw [ht, col_other _ _ hc] at hI
        have hI' := Lib.hid hI
        clear hI ht hc
        go_wp2
        exact ⟨⟨j, by omega, rfl, by have := hI'.out; omega⟩, by simp [intOf]⟩
theorem last_is (s : ByteArray) (q : Nat) (hq : colN s.data.toList = q) (hs : s.size ≤ 140737488355328) (w : World) :
    Calls Try.prog 79 #[.string s, .int .u8 10] w fun e w' => e = .returned (.int .i64 ((s.size : Int) - 1 - q)) ∧ w = w' := by
  have hq' := Lib.hid hq; clear hq
  go_enter Try.func79, Try.ntmps79
  go_wp2_with (go_at_call 87; refine (last1_any _ _ hq'.out hs _).mono ?_; rintro e w' ⟨rfl, rfl⟩)
  go_ret
  exact ⟨rfl, rfl⟩
end Go.Proofs.Ytagjeckgfjddmaa
