/- What the document's Of answers; the place of whatever offset, under one name. -/
import Derived.Test.YtagjeckgfjddmaaLEnd
namespace Go.Proofs.Ytagjeckgfjddmaa
set_option linter.unusedSimpArgs false
set_option linter.unusedVariables false
open Go.RowKit


theorem rof_none (s : ByteArray) (at' : Int) (w : World) (hs : s.size ≤ 140737488355328) (h : at' < 0 ∨ (s.size : Int) < at') :
    Calls Try.prog 23 #[.string s, .int .i64 at'] w fun r w' => r = .returned (.tuple #[pl 0 0, .int .i64 4]) ∧ Below w.heap.size w w' := by
  rcases h with h | h
  · go_enter Try.func23, Try.ntmps23
    go_wp2
    exact bodyPost_ret (v := .tuple #[pl 0 0, .int .i64 4]) (by simp [results, Try.results23, go_sem]) rfl ⟨rfl, (Below.refl _ _).alloc (Nat.le_refl _) _⟩
  · by_cases h0 : at' < 0
    · omega
    · go_enter Try.func23, Try.ntmps23
      go_wp2
      exact bodyPost_ret (v := .tuple #[pl 0 0, .int .i64 4]) (by simp [results, Try.results23, go_sem]) rfl ⟨rfl, (Below.refl _ _).alloc (Nat.le_refl _) _⟩
theorem rof_some (s : ByteArray) (n : Nat) (w : World) (hs : s.size ≤ 140737488355328) (h : n ≤ s.size) :
    Calls Try.prog 23 #[.string s, .int .i64 n] w fun r w' => r = .returned (.tuple #[pl (cntN (s.data.toList.take n)) (colN (s.data.toList.take n)), .int .i64 0]) ∧ Below w.heap.size w w' := by
  have hlen : s.data.toList.length = s.size := by simp
  have hlen' := Lib.hid hlen; clear hlen
  go_enter Try.func23, Try.ntmps23
  go_wp2
  go_loopw [7] (fun i wr => ∃ k : Nat, k ≤ n ∧ i = .int .i64 k ∧ wr = (w.alloc (.cells #[.int .i64 0, .int .i64 0] 34)).alloc (.cells #[.int .i64 (cntN (s.data.toList.take k)), .int .i64 (colN (s.data.toList.take k))] 34)) (fun i _ => n - (intOf i).toNat)
  case atStart => exact ⟨0, Nat.zero_le _, rfl, rfl⟩
  case round =>
    obtain ⟨k, hk, rfl, rfl⟩ := hrel
    have a1 : cntN (s.data.toList.take k) ≤ k := Nat.le_trans (cnt_le _) (by rw [List.length_take]; omega)
    have a2 : colN (s.data.toList.take k) ≤ k := Nat.le_trans (col_le _) (by rw [List.length_take]; omega)
    by_cases hkn : k < n
    · have hks : k < s.size := by omega
      have hst := take_succ' s.data.toList k (by rw [hlen'.out]; exact hks)
      rw [byteAt s k hks] at hst
      obtain ⟨x, hx⟩ : ∃ x, cntN (s.data.toList.take k) = x := ⟨_, rfl⟩
      obtain ⟨y, hy⟩ : ∃ y, colN (s.data.toList.take k) = y := ⟨_, rfl⟩
      by_cases hc : s[k] = 10
      · have e1 : cntN (s.data.toList.take (k + 1)) = x + 1 := by rw [hst, hc, cnt_nl, hx]
        have e2 : colN (s.data.toList.take (k + 1)) = 0 := by rw [hst, hc, col_nl]
        have e1' := Lib.hid e1; have e2' := Lib.hid e2
        have t1 : (((s[k]).toNat : Int) == 10) = true := by rw [hc]; rfl
        rw [hx] at a1
        rw [hy] at a2
        simp only [hx, hy]
        clear e1 e2 hst hc hx hy
        go_wp2
        exact ⟨⟨k + 1, hkn, by go_num, by rw [e1'.out, e2'.out]; rfl⟩, by simp [intOf]; omega⟩
      · have e1 : cntN (s.data.toList.take (k + 1)) = x := by rw [hst, cnt_other _ _ hc, hx]
        have e2 : colN (s.data.toList.take (k + 1)) = y + 1 := by rw [hst, col_other _ _ hc, hy]
        have e1' := Lib.hid e1; have e2' := Lib.hid e2
        have t1 : (((s[k]).toNat : Int) == 10) = false := by
          rw [beq_eq_false_iff_ne]; intro e; exact hc (UInt8.toNat_inj.1 (by have e10 : (10 : UInt8).toNat = 10 := rfl; omega))
        rw [hx] at a1
        rw [hy] at a2
        simp only [hx, hy]
        clear e1 e2 hst hc hx hy
        go_wp2
        exact ⟨⟨k + 1, hkn, by go_num, by rw [e1'.out, e2'.out]; rfl⟩, by simp [intOf]; omega⟩
    · obtain rfl : k = n := by omega
      obtain ⟨x, hx⟩ : ∃ x, cntN (s.data.toList.take k) = x := ⟨_, rfl⟩
      obtain ⟨y, hy⟩ : ∃ y, colN (s.data.toList.take k) = y := ⟨_, rfl⟩
      simp only [hx, hy]
      have hx' := Lib.hid hx; have hy' := Lib.hid hy
      clear hx hy a1 a2
      go_wp2
      refine bodyPost_ret (v := .tuple #[pl x y, .int .i64 0]) (by simp [results, Try.results23, go_sem]) rfl ⟨by rw [hx'.out, hy'.out], ?_⟩
      exact ((Below.refl _ _).alloc (Nat.le_refl _) _).alloc (by simp) _

def inB (l : List UInt8) (n : Int) : Bool := decide (0 ≤ n ∧ n ≤ l.length)
def ofL (l : List UInt8) (n : Int) : Int := if inB l n then cntN (l.take n.toNat) else 0
def ofC (l : List UInt8) (n : Int) : Int := if inB l n then colN (l.take n.toNat) else 0
def ofE (l : List UInt8) (n : Int) : Int := if inB l n then 0 else 4
theorem of_any (s : ByteArray) (n : Int) (w : World) (hs : s.size ≤ 140737488355328) :
    Calls Try.prog 36 #[.string s, .int .i64 n] w fun r w' => r = .returned (.tuple #[pl (ofL s.data.toList n) (ofC s.data.toList n), .int .i64 (ofE s.data.toList n)]) ∧ Below w.heap.size w w' := by
  have hl : s.data.toList.length = s.size := by simp
  by_cases h : 0 ≤ n ∧ n ≤ (s.size : Int)
  · have hb : inB s.data.toList n = true := by unfold inB; rw [hl]; simpa using h
    have e1 : ofL s.data.toList n = cntN (s.data.toList.take n.toNat) := by unfold ofL; rw [hb]; rfl
    have e2 : ofC s.data.toList n = colN (s.data.toList.take n.toNat) := by unfold ofC; rw [hb]; rfl
    have e3 : ofE s.data.toList n = 0 := by unfold ofE; rw [hb]; rfl
    rw [e1, e2, e3]
    have := of_some s n.toNat w hs (by omega)
    rwa [show ((n.toNat : Nat) : Int) = n by omega] at this
  · have hb : inB s.data.toList n = false := by unfold inB; rw [hl]; simpa using h
    have e1 : ofL s.data.toList n = 0 := by unfold ofL; rw [hb]; rfl
    have e2 : ofC s.data.toList n = 0 := by unfold ofC; rw [hb]; rfl
    have e3 : ofE s.data.toList n = 4 := by unfold ofE; rw [hb]; rfl
    rw [e1, e2, e3]
    exact of_none s n w hs (by omega)
theorem rof_any (s : ByteArray) (n : Int) (w : World) (hs : s.size ≤ 140737488355328) :
    Calls Try.prog 23 #[.string s, .int .i64 n] w fun r w' => r = .returned (.tuple #[pl (ofL s.data.toList n) (ofC s.data.toList n), .int .i64 (ofE s.data.toList n)]) ∧ Below w.heap.size w w' := by
  have hl : s.data.toList.length = s.size := by simp
  by_cases h : 0 ≤ n ∧ n ≤ (s.size : Int)
  · have hb : inB s.data.toList n = true := by unfold inB; rw [hl]; simpa using h
    have e1 : ofL s.data.toList n = cntN (s.data.toList.take n.toNat) := by unfold ofL; rw [hb]; rfl
    have e2 : ofC s.data.toList n = colN (s.data.toList.take n.toNat) := by unfold ofC; rw [hb]; rfl
    have e3 : ofE s.data.toList n = 0 := by unfold ofE; rw [hb]; rfl
    rw [e1, e2, e3]
    have := rof_some s n.toNat w hs (by omega)
    rwa [show ((n.toNat : Nat) : Int) = n by omega] at this
  · have hb : inB s.data.toList n = false := by unfold inB; rw [hl]; simpa using h
    have e1 : ofL s.data.toList n = 0 := by unfold ofL; rw [hb]; rfl
    have e2 : ofC s.data.toList n = 0 := by unfold ofC; rw [hb]; rfl
    have e3 : ofE s.data.toList n = 4 := by unfold ofE; rw [hb]; rfl
    rw [e1, e2, e3]
    exact rof_none s n w hs (by omega)
theorem below_call {B : Nat} {w0 w w' : World} (h : Below B w0 w) (hB : B ≤ w.heap.size) (h' : Below w.heap.size w w') : Below B w0 w' := h.trans (h'.mono hB)
theorem alloc_call {B : Nat} {w0 w w' : World} {o : Obj} (h : Below B w0 w) (hB : B ≤ w.heap.size) (h' : Below (w.alloc o).heap.size (w.alloc o) w') : Below B w0 w' :=
  (h.alloc hB o).trans (h'.mono (by simp; omega))
theorem alloc_size {w w' : World} {o : Obj} (h' : Below (w.alloc o).heap.size (w.alloc o) w') : w.heap.size ≤ w'.heap.size := by
  have := h'.size; simp at this; omega
end Go.Proofs.Ytagjeckgfjddmaa
