/- LinesCounts: the walk; what the document's At answers. -/
import Derived.Test.YtkilhbojkigpgaaBegs
import Derived.Test.YtkilhbojkigpgaaLR
import Derived.Deep.QuietTactic
import Derived.BigQuiet
namespace Go.Proofs.Ytkilhbojkigpgaa
set_option linter.unusedSimpArgs false
set_option linter.unusedVariables false
open Go.RowKit

theorem rcount_any (s : ByteArray) (w : World) (hs : s.size ≤ 1048576) :
    Calls Try.prog 12 #[.string s] w fun r w' => r = .returned (.int .i64 ((cntN s.data.toList : Int) + 1)) ∧ Below w.heap.size w w' := by
  obtain ⟨q, hq⟩ : ∃ q, cntN s.data.toList = q := ⟨_, rfl⟩
  have hb := Lib.hid (begins_any s · hs)
  unfold BegMade at hb
  rw [hq] at hb ⊢
  have hq' := Lib.hid hq; clear hq
  go_enter Try.func12, Try.ntmps12
  go_wp2_with fail
  refine (hb.out _).mono ?_
  rintro _ w1 ⟨g, cap, rfl, hcap, hcell, hg, hb1⟩
  have hcell' := Lib.hid hcell; clear hcell
  go_wp2
  go_ret
  exact ⟨rfl, hb1⟩

theorem counts_walk (s : ByteArray) (w : World) (hs : s.size ≤ 1048576) :
    Calls Try.prog 3 #[.string s] w fun r w' => r = .returned (.bool true) ∧ Below w.heap.size w w' := by
  obtain ⟨q, hq⟩ : ∃ q : Int, (cntN s.data.toList : Int) = q := ⟨_, rfl⟩
  have q1 := Lib.hid (count_is' s q (by omega) hq)
  have q2 := Lib.hid (rcount_any s · hs)
  rw [hq] at q2
  clear hq
  go_enter Try.func3, Try.ntmps3
  go_wp2_with fail
  refine (q1.out _).mono ?_
  rintro _ w1 ⟨rfl, hb1⟩
  go_wp2_with fail
  refine (q2.out _).mono ?_
  rintro _ w2 ⟨rfl, hb2⟩
  go_wp2_with fail
  refine (alive_any _).mono ?_
  rintro _ w9 ⟨rfl, hb9⟩
  go_wp2
  go_ret
  exact ⟨rfl, below_call (below_call hb1 hb1.size hb2) (Nat.le_trans hb1.size hb2.size) hb9⟩

theorem rat_out (s : ByteArray) (L C : Int) (w : World) (hs : s.size ≤ 1048576) (h : L < 0 ∨ (cntN s.data.toList : Int) < L ∨ C < 0) :
    Calls Try.prog 17 #[.string s, pl L C] w fun r w' => r = .returned (.tuple #[.int .i64 0, .int .i64 4]) ∧ Below w.heap.size w w' := by
  obtain ⟨q, hq⟩ : ∃ q, cntN s.data.toList = q := ⟨_, rfl⟩
  have hb := Lib.hid (begins_any s · hs)
  unfold BegMade at hb
  have hle := cnt_le s.data.toList
  have hlen : s.data.toList.length = s.size := by simp
  have hq2 : q ≤ 1048576 := by omega
  rw [hq] at hb h
  clear hq hle hlen
  have P0 := Lib.hid (PlAt.new w L C)
  by_cases hL : L < 0
  · go_enter Try.func17, Try.ntmps17
    go_wp2_with fail
    refine (hb.out _).mono ?_
    rintro _ w1 ⟨g, cap, rfl, hcap, hcell, hg, hb1⟩
    have P1 := Lib.hid (P0.out.below hb1)
    have c0 := P1.out.1; have c1 := P1.out.2.1; have cz := P1.out.2.2.2.2
    have hcell' := Lib.hid hcell; clear hcell
    go_wp2
    go_ret2
    exact ⟨rfl, alloc_call (Below.refl _ _) (Nat.le_refl _) hb1⟩
  · by_cases hL2 : (q : Int) < L
    · have hL3 : (q : Int) + 1 ≤ L := by omega
      go_enter Try.func17, Try.ntmps17
      go_wp2_with fail
      refine (hb.out _).mono ?_
      rintro _ w1 ⟨g, cap, rfl, hcap, hcell, hg, hb1⟩
      have P1 := Lib.hid (P0.out.below hb1)
      have c0 := P1.out.1; have c1 := P1.out.2.1; have cz := P1.out.2.2.2.2
      have hcell' := Lib.hid hcell; clear hcell
      go_wp2
      go_ret2
      exact ⟨rfl, alloc_call (Below.refl _ _) (Nat.le_refl _) hb1⟩
    · have hL3 : ¬ (q : Int) + 1 ≤ L := by omega
      have hC : C < 0 := by omega
      go_enter Try.func17, Try.ntmps17
      go_wp2_with fail
      refine (hb.out _).mono ?_
      rintro _ w1 ⟨g, cap, rfl, hcap, hcell, hg, hb1⟩
      have P1 := Lib.hid (P0.out.below hb1)
      have c0 := P1.out.1; have c1 := P1.out.2.1; have cz := P1.out.2.2.2.2
      have hcell' := Lib.hid hcell; clear hcell
      go_wp2
      go_ret2
      exact ⟨rfl, alloc_call (Below.refl _ _) (Nat.le_refl _) hb1⟩
end Go.Proofs.Ytkilhbojkigpgaa
