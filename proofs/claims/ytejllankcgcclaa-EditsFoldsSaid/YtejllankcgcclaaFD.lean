/- EditsFolds: the walk. -/
import Derived.Test.YtejllankcgcclaaFC
namespace Go.Proofs.Ytejllankcgcclaa
open Go.RowKit
set_option linter.unusedVariables false

theorem Bto {w0 w w' : World} (h : Below w0.heap.size w0 w) (h' : Below w.heap.size w w') : Below w0.heap.size w0 w' := Bcall h h'
theorem reads_up {w0 w : World} {A : Option Addr} {n : Nat} {size : Nat} {xs : List Value} (h : Reads w0 w0.heap.size size A n xs) (hb : Below w0.heap.size w0 w) : Reads w w.heap.size size A n xs := (h.below hb).more hb.size

theorem folds_long (x : ByteArray) (A : Option Addr) (n c : Nat) (w : World) (hn : 300 < n) :
    Calls Try.prog 5 #[.string x, .slice A n c] w fun r w' => r = .returned (.bool true) ∧ Below w.heap.size w w' := by
  have i1 : (300 : Int) < (n : Int) := by omega
  go_enter Try.func5, Try.ntmps5
  go_wp2
  go_ret
  exact ⟨rfl, Below.refl _ _⟩

set_option maxHeartbeats 2000000 in
theorem folds_walk (x : ByteArray) (A : Option Addr) (n c : Nat) (l : List Ed) (w : World) (ha : Reads w w.heap.size 3 A n (cellsE l)) (hn : n ≤ 300) (hx : x.size ≤ 281474976710656) (hs : Hid (∀ e ∈ l, e.2.2.size ≤ 9223372036854775807)) :
    Calls Try.prog 5 #[.string x, .slice A n c] w fun r w' => r = .returned (.bool true) ∧ Below w.heap.size w w' := by
  have hl : l.length = n := by have := ha.1; rw [cellsE_length] at this; omega
  have ha' := Lib.hid ha; clear ha
  have i1 : ¬ (300 : Int) < (n : Int) := by omega
  go_enter Try.func5, Try.ntmps5
  go_wp2_with fail
  refine (twin_edits _ _ _ l _ ha'.out hn).mono ?_
  rintro _ w1 ⟨g, cap, rfl, hown, L⟩
  have T1 := Lib.hid hown
  have L1 := Lib.hid L
  clear hown L
  go_wp2_with fail
  refine (fold_any x _ n _ l _ (reads_take (m := marks 3) T1.out hl) hn hx hs).mono ?_
  rintro _ w2 ⟨va, rfl, hown, L, A2, c2, rfl⟩
  have Va := Lib.hid hown
  have L2 := Lib.hid L
  clear hown L
  go_wp2_with fail
  refine (rfold_any x _ n _ l _ (reads_up ha'.out (Bto L1.out L2.out)) hn hx hs).mono ?_
  rintro _ w3 ⟨vb, rfl, hown, L, A3, c3, rfl⟩
  have Vb := Lib.hid hown
  have L3 := Lib.hid L
  clear hown L
  have Va3 := Lib.hid (owns_below Va.out L3.out)
  obtain ⟨z, hz⟩ : ∃ z, foldT x l = z := ⟨_, rfl⟩
  have hz' := Lib.hid hz
  rw [hz]
  clear hz
  have r2 := Reads.of_own Va3.out
  have r3 := Reads.of_own Vb.out
  have r2' := Lib.hid r2; clear r2
  have r3' := Lib.hid r3; clear r3
  go_wp2_with fail
  refine (same_ints A2 A3 n c2 c3 (errs x l n) _ _ r2'.out r3'.out (by omega)).mono ?_
  rintro _ w4 ⟨rfl, hb⟩
  have L4 := Lib.hid hb; clear hb r2' r3'
  go_wp2_with fail
  refine (left_edits A n c _ g cap l _ (owns_below T1.out (Bto (Bto L2.out L3.out) L4.out)) (reads_up ha'.out (Bto (Bto (Bto L1.out L2.out) L3.out) L4.out)) hn).mono ?_
  rintro _ w5 ⟨rfl, hb⟩
  have L5 := Lib.hid hb; clear hb
  have Va5 := Lib.hid (owns_below (owns_below Va3.out L4.out) L5.out)
  have Vb5 := Lib.hid (owns_below (owns_below Vb.out L4.out) L5.out)
  have M5 := Lib.hid (Bto (Bto (Bto L2.out L3.out) L4.out) L5.out)
  clear Va3
  go_wp2_with fail
  go_loopw [10] (fun i wr => ∃ (k : Nat) (ys : List Value), k ≤ n ∧ i = .int .i64 k ∧ wr.ownsRow w1.heap.size 24 1 (.slice A2 n c2) n ys ∧ wr.ownsRow w2.heap.size 24 1 (.slice A3 n c3) n (ints (errs x l n)) ∧ Below w1.heap.size w1 wr) (fun i _ => n - (intOf i).toNat)
  case atStart => exact ⟨0, _, Nat.zero_le _, rfl, Va5.out, Vb5.out, M5.out⟩
  case round =>
    clear Va5 Vb5 M5 L5 L4
    obtain ⟨k, ys, hk, rfl, hva, hvb, hM⟩ := hrel
    have Vr := Lib.hid hva; clear hva
    have Wr := Lib.hid hvb; clear hvb
    have Mr := Lib.hid hM; clear hM
    by_cases hkn : k < n
    · obtain ⟨g2, cap2, hv, hg2, hg3⟩ := Vr.out.form (by omega)
      injection hv with hv1 hv2 hv3
      subst hv1
      have hys : ys.length = n := by have := Vr.out.1; omega
      have hcell := Vr.out.cellAt k (by omega)
      rw [List.getElem?_eq_getElem (by omega)] at hcell
      have hfz := Vr.out.frozenAt k
      have i2 : (k : Int) < (n : Int) := by omega
      have hlt : g2 < w2.heap.size := (Va.out.lt g2 rfl).2
      have hne : (Value.slice A3 n c3).ownBlock ≠ some g2 := fun e => by have := (Vb.out.lt g2 e).1; omega
      have S := Vr.out.stored k (.int .i64 1)
      have S1 := Lib.hid S.1
      have S2 := Lib.hid (Wr.out.kept S.2 (.inr hne))
      have S3 := Lib.hid (Mr.out.setCell (p := ⟨g2, k, none⟩) hg2 (.int .i64 1))
      clear S
      go_wp2
      exact ⟨⟨k + 1, _, by omega, by go_num, S1.out, S2.out, S3.out⟩, by simp [intOf]; omega⟩
    · obtain rfl : k = n := by omega
      have T6 := Lib.hid (owns_below T1.out Mr.out)
      go_wp2_with fail
      refine (fold_any x _ k _ l _ (reads_take (m := marks 3) T6.out hl) hn hx hs).mono ?_
      rintro _ w6 ⟨vc, rfl, hown, L, A6, c6, rfl⟩
      have Vc := Lib.hid hown
      have L6 := Lib.hid L
      clear hown L
      rw [hz'.out]
      have r6 := Lib.hid (Reads.of_own Vc.out)
      have r7 := Lib.hid (Reads.of_own (owns_below Wr.out L6.out))
      go_wp2_with fail
      refine (same_ints A6 A3 k c6 c3 (errs x l k) _ _ r6.out r7.out (by omega)).mono ?_
      rintro _ w7 ⟨rfl, hb⟩
      have L7 := Lib.hid hb; clear hb r6 r7
      go_wp2_with (first | (go_at_call 16; refine (alive_any _).mono ?_; rintro _ w8 ⟨rfl, hb8⟩))
      go_ret
      exact ⟨rfl, Bto (Bto (Bto (Bto L1.out Mr.out) L6.out) L7.out) hb8⟩
end Go.Proofs.Ytejllankcgcclaa
