/- What the document's Count and At answer. -/
import Derived.Test.YtagjeckgfjddmaaLBegs
import Derived.Test.YtagjeckgfjddmaaLAt
import Derived.IntWalk
import Derived.Deep.QuietTactic
import Derived.BigQuiet
namespace Go.Proofs.Ytagjeckgfjddmaa
set_option linter.unusedSimpArgs false
set_option linter.unusedVariables false
open Go.RowKit


theorem rcount_any (s : ByteArray) (w : World) (hs : s.size ≤ 1048576) :
    Calls Try.prog 21 #[.string s] w fun r w' => r = .returned (.int .i64 ((cntN s.data.toList : Int) + 1)) ∧ Below w.heap.size w w' := by
  obtain ⟨q, hq⟩ : ∃ q, cntN s.data.toList = q := ⟨_, rfl⟩
  have hb := Lib.hid (begins_any s · hs)
  unfold BegMade at hb
  rw [hq] at hb ⊢
  have hq' := Lib.hid hq; clear hq
  go_enter Try.func21, Try.ntmps21
  go_wp2_with fail
  refine (hb.out _).mono ?_
  rintro _ w1 ⟨g, cap, rfl, hcap, hcell, hg, hb1⟩
  have hcell' := Lib.hid hcell; clear hcell
  go_wp2
  go_ret
  exact ⟨rfl, hb1⟩
theorem rat_out (s : ByteArray) (L C : Int) (w : World) (hs : s.size ≤ 1048576) (h : L < 0 ∨ (cntN s.data.toList : Int) < L ∨ C < 0) :
    Calls Try.prog 25 #[.string s, pl L C] w fun r w' => r = .returned (.tuple #[.int .i64 0, .int .i64 4]) ∧ Below w.heap.size w w' := by
  obtain ⟨q, hq⟩ : ∃ q, cntN s.data.toList = q := ⟨_, rfl⟩
  have hb := Lib.hid (begins_any s · hs)
  unfold BegMade at hb
  have hle := cnt_le s.data.toList
  have hlen : s.data.toList.length = s.size := by simp
  have hq2 : q ≤ 1048576 := by omega
  rw [hq] at hb h
  clear hq hle hlen
  have P0 := Lib.hid (PlAt.new w L C)
  by_cases hL : L < 0
  · go_enter Try.func25, Try.ntmps25
    go_wp2_with fail
    refine (hb.out _).mono ?_
    rintro _ w1 ⟨g, cap, rfl, hcap, hcell, hg, hb1⟩
    have P1 := Lib.hid (P0.out.below hb1)
    have c0 := P1.out.1; have c1 := P1.out.2.1; have cz := P1.out.2.2.2.2
    have hcell' := Lib.hid hcell; clear hcell
    go_wp2
    go_ret2
    exact ⟨rfl, alloc_call (Below.refl _ _) (Nat.le_refl _) hb1⟩
  · by_cases hL2 : (q : Int) < L
    · have hL3 : (q : Int) + 1 ≤ L := by omega
      go_enter Try.func25, Try.ntmps25
      go_wp2_with fail
      refine (hb.out _).mono ?_
      rintro _ w1 ⟨g, cap, rfl, hcap, hcell, hg, hb1⟩
      have P1 := Lib.hid (P0.out.below hb1)
      have c0 := P1.out.1; have c1 := P1.out.2.1; have cz := P1.out.2.2.2.2
      have hcell' := Lib.hid hcell; clear hcell
      go_wp2
      go_ret2
      exact ⟨rfl, alloc_call (Below.refl _ _) (Nat.le_refl _) hb1⟩
    · have hL3 : ¬ (q : Int) + 1 ≤ L := by omega
      have hC : C < 0 := by omega
      go_enter Try.func25, Try.ntmps25
      go_wp2_with fail
      refine (hb.out _).mono ?_
      rintro _ w1 ⟨g, cap, rfl, hcap, hcell, hg, hb1⟩
      have P1 := Lib.hid (P0.out.below hb1)
      have c0 := P1.out.1; have c1 := P1.out.2.1; have cz := P1.out.2.2.2.2
      have hcell' := Lib.hid hcell; clear hcell
      go_wp2
      go_ret2
      exact ⟨rfl, alloc_call (Below.refl _ _) (Nat.le_refl _) hb1⟩

theorem below_drewN {B : Nat} {a w : World} (h : Below B a w) (n : Nat) : Below B a (w.drewN n) := ⟨h.os, h.tape, h.output, h.size, h.block⟩
theorem rat_in (s : ByteArray) (k : Nat) (C : Int) (w : World) (hs : s.size ≤ 1048576) (hk : k ≤ cntN s.data.toList) (hC : 0 ≤ C) :
    Calls Try.prog 25 #[.string s, pl k C] w fun r w' => r = .returned (.tuple #[.int .i64 (atN s.data.toList k C), .int .i64 (atE s.data.toList k C)]) ∧ Below w.heap.size w w' := by
  have hlen : s.data.toList.length = s.size := by simp
  obtain ⟨sp1, sp2⟩ := begs_spec s.data.toList s.data.toList.length (Nat.le_refl _)
  rw [List.take_length] at sp1
  obtain ⟨q, hq⟩ : ∃ q, cntN s.data.toList = q := ⟨_, rfl⟩
  have hb := Lib.hid (begins_any s · hs)
  unfold BegMade at hb
  have hle := cnt_le s.data.toList
  have hq2 : q ≤ 1048576 := by omega
  rw [hq] at hb hk sp1
  obtain ⟨b, hbk⟩ : ∃ b, (begs s.data.toList s.data.toList.length)[k]? = some b := ⟨_, List.getElem?_eq_getElem (by omega)⟩
  have hH := sp2 k b hbk
  have hbs : b ≤ s.size := by have := hH.le; omega
  have P0 := Lib.hid (PlAt.new w k C)
  by_cases hkq : k < q
  · obtain ⟨b2, hbk2⟩ : ∃ b2, (begs s.data.toList s.data.toList.length)[k + 1]? = some b2 := ⟨_, List.getElem?_eq_getElem (by omega)⟩
    have hH2 := sp2 (k + 1) b2 hbk2
    have hlc := lastCol_next hH hH2
    have hlc0 := lastCol_le (s.data.toList.drop b)
    have hb2s : b2 ≤ s.size := by have := hH2.le; omega
    have s1 := IntWalk.i64_in ((b2 : Int) - 1 - b) (by omega)
    have n1 : (b : Int) + 1 ≤ b2 := by omega
    have s1' := Lib.hid s1; have hbk' := Lib.hid hbk; have hbk2' := Lib.hid hbk2
    by_cases hCC : C ≤ (b2 : Int) - 1 - b
    · have hf := Lib.hid (at_found hH C hC (by omega))
      have s2 := Lib.hid (IntWalk.i64_in ((b : Int) + C) (by omega))
      have m1 : ¬ (b2 : Int) - 1 - b < C := by omega
      clear hq hle hlen sp1 sp2 hH hH2 hlc hlc0 s1 hbk hbk2
      go_enter Try.func25, Try.ntmps25
      go_wp2_with fail
      refine (hb.out _).mono ?_
      rintro _ w1 ⟨g, cap, rfl, hcap, hcell, hg, hb1⟩
      have P1 := Lib.hid (P0.out.below hb1)
      have c0 := P1.out.1; have c1 := P1.out.2.1; have cz := P1.out.2.2.2.2
      have d0 := hcell k b hbk'.out
      have d1 := hcell (k + 1) b2 hbk2'.out
      have hcell' := Lib.hid hcell; clear hcell
      go_wp2_with fail
      have e1 := s1'.out
      go_quiet (fail)
      clear e1
      go_wp2_with fail
      have e2 := s2.out
      go_quiet (fail)
      clear e2
      go_wp2
      go_ret2
      exact ⟨tup2 hf.out.1.symm hf.out.2.symm, below_drewN (below_drewN (alloc_call (Below.refl _ _) (Nat.le_refl _) hb1) _) _⟩
    · have hf := Lib.hid (at_beyond hH C (.inr (by omega)))
      have m1 : (b2 : Int) - 1 - b < C := by omega
      clear hq hle hlen sp1 sp2 hH hH2 hlc hlc0 s1 hbk hbk2
      go_enter Try.func25, Try.ntmps25
      go_wp2_with fail
      refine (hb.out _).mono ?_
      rintro _ w1 ⟨g, cap, rfl, hcap, hcell, hg, hb1⟩
      have P1 := Lib.hid (P0.out.below hb1)
      have c0 := P1.out.1; have c1 := P1.out.2.1; have cz := P1.out.2.2.2.2
      have d0 := hcell k b hbk'.out
      have d1 := hcell (k + 1) b2 hbk2'.out
      have hcell' := Lib.hid hcell; clear hcell
      go_wp2_with fail
      have e1 := s1'.out
      go_quiet (fail)
      clear e1
      go_wp2
      go_ret2
      exact ⟨tup2 hf.out.1.symm hf.out.2.symm, below_drewN (alloc_call (Below.refl _ _) (Nat.le_refl _) hb1) _⟩
  · obtain rfl : k = q := by omega
    have hlc := lastCol_end hH hq
    rw [hlen] at hlc
    have s1 := IntWalk.i64_in ((s.size : Int) - b) (by omega)
    have s1' := Lib.hid s1; have hbk' := Lib.hid hbk
    by_cases hCC : C ≤ (s.size : Int) - b
    · have hf := Lib.hid (at_found hH C hC (by omega))
      have s2 := Lib.hid (IntWalk.i64_in ((b : Int) + C) (by omega))
      have m1 : ¬ (s.size : Int) - b < C := by omega
      clear hq hle hlen sp1 sp2 hH hlc s1 hbk
      go_enter Try.func25, Try.ntmps25
      go_wp2_with fail
      refine (hb.out _).mono ?_
      rintro _ w1 ⟨g, cap, rfl, hcap, hcell, hg, hb1⟩
      have P1 := Lib.hid (P0.out.below hb1)
      have c0 := P1.out.1; have c1 := P1.out.2.1; have cz := P1.out.2.2.2.2
      have d0 := hcell k b hbk'.out
      have hcell' := Lib.hid hcell; clear hcell
      go_wp2_with fail
      have e1 := s1'.out
      go_quiet (fail)
      clear e1
      go_wp2_with fail
      have e2 := s2.out
      go_quiet (fail)
      clear e2
      go_wp2
      go_ret2
      exact ⟨tup2 hf.out.1.symm hf.out.2.symm, below_drewN (below_drewN (alloc_call (Below.refl _ _) (Nat.le_refl _) hb1) _) _⟩
    · have hf := Lib.hid (at_beyond hH C (.inr (by omega)))
      have m1 : (s.size : Int) - b < C := by omega
      clear hq hle hlen sp1 sp2 hH hlc s1 hbk
      go_enter Try.func25, Try.ntmps25
      go_wp2_with fail
      refine (hb.out _).mono ?_
      rintro _ w1 ⟨g, cap, rfl, hcap, hcell, hg, hb1⟩
      have P1 := Lib.hid (P0.out.below hb1)
      have c0 := P1.out.1; have c1 := P1.out.2.1; have cz := P1.out.2.2.2.2
      have d0 := hcell k b hbk'.out
      have hcell' := Lib.hid hcell; clear hcell
      go_wp2_with fail
      have e1 := s1'.out
      go_quiet (fail)
      clear e1
      go_wp2
      go_ret2
      exact ⟨tup2 hf.out.1.symm hf.out.2.symm, below_drewN (alloc_call (Below.refl _ _) (Nat.le_refl _) hb1) _⟩
theorem rat_any (s : ByteArray) (L C : Int) (w : World) (hs : s.size ≤ 1048576) :
    Calls Try.prog 25 #[.string s, pl L C] w fun r w' => r = .returned (.tuple #[.int .i64 (atN s.data.toList L C), .int .i64 (atE s.data.toList L C)]) ∧ Below w.heap.size w w' := by
  by_cases h : L < 0 ∨ (cntN s.data.toList : Int) < L ∨ C < 0
  · have he : atN s.data.toList L C = 0 ∧ atE s.data.toList L C = 4 := by
      by_cases h1 : L < 0 ∨ (cntN s.data.toList : Int) < L
      · exact at_nolines s.data.toList L C h1
      · obtain ⟨a, ha⟩ := head_exists s.data.toList L.toNat (by omega)
        have := at_beyond ha C (.inl (by omega))
        rwa [show ((L.toNat : Nat) : Int) = L by omega] at this
    rw [he.1, he.2]
    exact rat_out s L C w hs h
  · have := rat_in s L.toNat C w hs (by omega) (by omega)
    rwa [show ((L.toNat : Nat) : Int) = L by omega] at this
end Go.Proofs.Ytagjeckgfjddmaa
