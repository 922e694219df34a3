/- RopeMakes: the walk. -/
import Derived.Test.YtagjeckgfjddmaaRShares
namespace Go.Proofs.Ytagjeckgfjddmaa
set_option linter.unusedSimpArgs false
set_option linter.unusedVariables false
open Go.RowKit

set_option maxHeartbeats 4000000 in
set_option maxRecDepth 100000 in
theorem makes_long (x : ByteArray) (w : World) (hx : 65536 < x.size) :
    Calls Try.prog 3 #[.string x] w fun r w' => r = .returned (.bool true) ∧ Below w.heap.size w w' := by
  have S0 := Lib.hid (St.new w)
  go_enter Try.func3, Try.ntmps3
  go_wp2_with fail
  refine (new_long x _ hx).mono ?_
  rintro _ _ ⟨rfl, rfl⟩
  go_wp2_with fail
  refine (alive_any _).mono ?_
  rintro _ w1 ⟨rfl, hb⟩
  have S1 := Lib.hid (((S0.out).up hb))
  clear S0
  clear hb
  go_wp2
  go_ret
  exact ⟨rfl, S1.out.1⟩

set_option maxHeartbeats 4000000 in
set_option maxRecDepth 100000 in
theorem makes_ok (x : ByteArray) (w : World) (hx : x.size ≤ 65536) :
    Calls Try.prog 3 #[.string x] w fun r w' => r = .returned (.bool true) ∧ Below w.heap.size w w' := by
  have S0 := Lib.hid (St.new w)
  go_enter Try.func3, Try.ntmps3
  go_wp2_with fail
  refine (new_tree x _ hx).mono ?_
  rintro _ w1 ⟨b, o, rfl, hr, ⟨hq, -⟩, hb⟩
  have S1 := Lib.hid (((S0.out).up hb).add hr)
  clear S0
  clear hb
  clear hr
  have Q := Lib.hid hq
  have g1 := hq.len
  clear hq
  have lv := Lib.hid (fun (wz : World) (r : RopeAt wz b o) => leaves_made b o wz r (by omega))
  unfold TxtMade at lv
  obtain ⟨N, hN⟩ : ∃ N, (lvs o).length = N := ⟨_, rfl⟩
  rw [hN] at lv g1
  have hN' := Lib.hid hN
  clear hN
  go_wp2_with fail
  refine (right_made b o x _ S1.out.r0 Q.out).mono ?_
  rintro _ w2 ⟨rfl, hb⟩
  have S2 := Lib.hid (((S1.out).up hb))
  clear S1
  clear hb
  have hz2 := S2.out.1.size
  go_wp2_with fail
  refine (lv.out _ S2.out.r0).mono ?_
  rintro _ w3 ⟨v, rfl, hown, hb⟩
  obtain ⟨A, cc, rfl⟩ := owns_slice hown
  have V := Lib.hid hown
  have M := Lib.hid hb
  clear hown hb
  go_wp2_with fail
  go_loopw [6] (fun i wr => ∃ (k : Nat) (ys : List Value), k ≤ N ∧ i = .int .i64 k ∧ wr.ownsRow w2.heap.size 9 1 (.slice A N cc) N ys ∧ Below w2.heap.size w2 wr) (fun i _ => N - (intOf i).toNat)
  case atStart => exact ⟨0, _, Nat.zero_le _, rfl, V.out, M.out⟩
  case round =>
    clear V M
    obtain ⟨k, ys, hk, rfl, hv, hM⟩ := hrel
    have V := Lib.hid hv
    have M := Lib.hid hM
    clear hv hM
    by_cases hkn : k < N
    · obtain ⟨g2, cap2, hv, hg2, hg3⟩ := V.out.form (by omega)
      injection hv with hv1 hv2 hv3
      subst hv1
      have hys : ys.length = N := by have := V.out.1; omega
      have hcell := V.out.cellAt k (by omega)
      rw [List.getElem?_eq_getElem (by omega)] at hcell
      have hfz := V.out.frozenAt k
      have i2 : (k : Int) < (N : Int) := by omega
      have T := V.out.stored k (.string ⟨#[109, 97, 114, 107]⟩)
      have T1 := Lib.hid T.1
      have T3 := Lib.hid (M.out.setCell (p := ⟨g2, k, none⟩) hg2 (.string ⟨#[109, 97, 114, 107]⟩))
      clear T
      go_wp2
      exact ⟨⟨k + 1, _, by omega, by go_num, T1.out, T3.out⟩, by simp [intOf]; omega⟩
    · clear V
      have S3 := Lib.hid (S2.out.up M.out)
      clear M S2
      go_wp2_with fail
      refine (right_made b o x _ S3.out.r0 Q.out).mono ?_
      rintro _ w3 ⟨rfl, hb⟩
      have S4 := Lib.hid (((S3.out).up hb))
      clear S3
      clear hb
      go_wp2_with fail
      refine (alive_any _).mono ?_
      rintro _ w4 ⟨rfl, hb⟩
      have S5 := Lib.hid (((S4.out).up hb))
      clear S4
      clear hb
      go_wp2
      go_ret
      exact ⟨rfl, S5.out.1⟩

theorem makes_walk (x : ByteArray) (w : World) :
    Calls Try.prog 3 #[.string x] w fun r w' => r = .returned (.bool true) ∧ Below w.heap.size w w' := by
  by_cases hx : 65536 < x.size
  · exact makes_long x w hx
  · exact makes_ok x w (by omega)
end Go.Proofs.Ytagjeckgfjddmaa
