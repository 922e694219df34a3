/- The place of whatever offset, under one name; the examples that each statement ends with come out. -/
import Derived.Test.YtkilhbojkigpgaaAt
import Derived.Test.YtkilhbojkigpgaaRefOf
namespace Go.Proofs.Ytkilhbojkigpgaa
set_option linter.unusedSimpArgs false
set_option linter.unusedVariables false
open Go.RowKit

def inB (l : List UInt8) (n : Int) : Bool := decide (0 ≤ n ∧ n ≤ l.length)
def ofL (l : List UInt8) (n : Int) : Int := if inB l n then cntN (l.take n.toNat) else 0
def ofC (l : List UInt8) (n : Int) : Int := if inB l n then colN (l.take n.toNat) else 0
def ofE (l : List UInt8) (n : Int) : Int := if inB l n then 0 else 4

theorem of_any (s : ByteArray) (n : Int) (w : World) (hs : s.size ≤ 140737488355328) :
    Calls Try.prog 14 #[.string s, .int .i64 n] w fun r w' => r = .returned (.tuple #[pl (ofL s.data.toList n) (ofC s.data.toList n), .int .i64 (ofE s.data.toList n)]) ∧ Below w.heap.size w w' := by
  have hl : s.data.toList.length = s.size := by simp
  by_cases h : 0 ≤ n ∧ n ≤ (s.size : Int)
  · have hb : inB s.data.toList n = true := by unfold inB; rw [hl]; simpa using h
    have e1 : ofL s.data.toList n = cntN (s.data.toList.take n.toNat) := by unfold ofL; rw [hb]; rfl
    have e2 : ofC s.data.toList n = colN (s.data.toList.take n.toNat) := by unfold ofC; rw [hb]; rfl
    have e3 : ofE s.data.toList n = 0 := by unfold ofE; rw [hb]; rfl
    rw [e1, e2, e3]
    have := of_some s n.toNat w hs (by omega)
    rwa [show ((n.toNat : Nat) : Int) = n by omega] at this
  · have hb : inB s.data.toList n = false := by unfold inB; rw [hl]; simpa using h
    have e1 : ofL s.data.toList n = 0 := by unfold ofL; rw [hb]; rfl
    have e2 : ofC s.data.toList n = 0 := by unfold ofC; rw [hb]; rfl
    have e3 : ofE s.data.toList n = 4 := by unfold ofE; rw [hb]; rfl
    rw [e1, e2, e3]
    exact of_none s n w hs (by omega)

theorem rof_any (s : ByteArray) (n : Int) (w : World) (hs : s.size ≤ 140737488355328) :
    Calls Try.prog 15 #[.string s, .int .i64 n] w fun r w' => r = .returned (.tuple #[pl (ofL s.data.toList n) (ofC s.data.toList n), .int .i64 (ofE s.data.toList n)]) ∧ Below w.heap.size w w' := by
  have hl : s.data.toList.length = s.size := by simp
  by_cases h : 0 ≤ n ∧ n ≤ (s.size : Int)
  · have hb : inB s.data.toList n = true := by unfold inB; rw [hl]; simpa using h
    have e1 : ofL s.data.toList n = cntN (s.data.toList.take n.toNat) := by unfold ofL; rw [hb]; rfl
    have e2 : ofC s.data.toList n = colN (s.data.toList.take n.toNat) := by unfold ofC; rw [hb]; rfl
    have e3 : ofE s.data.toList n = 0 := by unfold ofE; rw [hb]; rfl
    rw [e1, e2, e3]
    have := rof_some s n.toNat w hs (by omega)
    rwa [show ((n.toNat : Nat) : Int) = n by omega] at this
  · have hb : inB s.data.toList n = false := by unfold inB; rw [hl]; simpa using h
    have e1 : ofL s.data.toList n = 0 := by unfold ofL; rw [hb]; rfl
    have e2 : ofC s.data.toList n = 0 := by unfold ofC; rw [hb]; rfl
    have e3 : ofE s.data.toList n = 4 := by unfold ofE; rw [hb]; rfl
    rw [e1, e2, e3]
    exact rof_none s n w hs (by omega)

theorem alive1 (w : World) : Calls Try.prog 14 #[.string ⟨#[97, 98, 10, 99]⟩, .int .i64 4] w fun r w' => r = .returned (.tuple #[pl 1 1, .int .i64 0]) ∧ Below w.heap.size w w' := of_any ⟨#[97, 98, 10, 99]⟩ 4 w (by decide)
theorem alive2 (w : World) : Calls Try.prog 16 #[.string ⟨#[97, 98, 10, 99]⟩, pl 1 0] w fun r w' => r = .returned (.tuple #[.int .i64 3, .int .i64 0]) ∧ Below w.heap.size w w' := at_any ⟨#[97, 98, 10, 99]⟩ 1 0 w (by decide)
theorem alive3 (w : World) : Calls Try.prog 11 #[.string ⟨#[97, 98, 10, 99]⟩] w fun r w' => r = .returned (.int .i64 2) ∧ Below w.heap.size w w' := count_lines ⟨#[97, 98, 10, 99]⟩ (by decide) w

theorem below_call {B : Nat} {w0 w w' : World} (h : Below B w0 w) (hB : B ≤ w.heap.size) (h' : Below w.heap.size w w') : Below B w0 w' := h.trans (h'.mono hB)
theorem alloc_call {B : Nat} {w0 w w' : World} {o : Obj} (h : Below B w0 w) (hB : B ≤ w.heap.size) (h' : Below (w.alloc o).heap.size (w.alloc o) w') : Below B w0 w' :=
  (h.alloc hB o).trans (h'.mono (by simp; omega))
theorem alloc_size {w w' : World} {o : Obj} (h' : Below (w.alloc o).heap.size (w.alloc o) w') : w.heap.size ≤ w'.heap.size := by
  have := h'.size; simp at this; omega

theorem alive_any (w : World) : Calls Try.prog 13 #[] w fun r w' => r = .returned (.bool true) ∧ Below w.heap.size w w' := by
  go_enter Try.func13, Try.ntmps13
  go_wp2_with fail
  refine (alive1 _).mono ?_
  rintro _ w1 ⟨rfl, hb1⟩
  go_wp2_with fail
  have P1 := PlAt.new w1 1 1
  refine (alive2 _).mono ?_
  rintro _ w2 ⟨rfl, hb2⟩
  have P2 := P1.below hb2
  clear P1
  have P2' := Lib.hid P2; clear P2
  go_wp2_with fail
  refine (alive3 _).mono ?_
  rintro _ w3 ⟨rfl, hb3⟩
  have P3 := P2'.out.below hb3
  obtain ⟨c0, c1, -, -, hz⟩ := P3
  go_wp2
  go_ret
  exact ⟨rfl, below_call (alloc_call hb1 (hb1.size) hb2) (Nat.le_trans hb1.size (alloc_size hb2)) hb3⟩
end Go.Proofs.Ytkilhbojkigpgaa
