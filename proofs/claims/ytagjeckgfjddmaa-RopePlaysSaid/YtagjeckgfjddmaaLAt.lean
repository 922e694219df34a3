/- lines.At: the offset whose place this is, or none. -/
import Derived.Test.YtagjeckgfjddmaaLEnd
namespace Go.Proofs.Ytagjeckgfjddmaa
set_option linter.unusedSimpArgs false
set_option linter.unusedVariables false
open Go.RowKit


/-- What of the lines to the place is still to go, as a float. -/
def ReIs (re : Nat) (L : Int) (k : Nat) : Prop := (L < 9007199254740992 ∧ (k : Int) ≤ L ∧ re = floatOfInt .f64 (L - k)) ∨ (9007199254740992 ≤ L ∧ AtLeast false re (9007199254740992 - k))
/-- The column, as a float. -/
def ImIs (im : Nat) (C : Int) : Prop := (C.natAbs < 9007199254740992 ∧ im = floatOfInt .f64 C) ∨ (9007199254740992 ≤ C.natAbs ∧ AtLeast (decide (C < 0)) im 9007199254740992)
theorem ReIs.new (L : Int) (h : 0 ≤ L) : ReIs (floatOfInt .f64 L) L 0 := by
  unfold ReIs
  by_cases h1 : L < 9007199254740992
  · left; exact ⟨h1, h, by simp⟩
  · right
    have := big_fl L (by omega)
    rw [decide_eq_false (by omega)] at this
    exact ⟨by omega, this⟩
theorem ImIs.new (C : Int) : ImIs (floatOfInt .f64 C) C := by
  unfold ImIs
  by_cases h1 : C.natAbs < 9007199254740992
  · left; exact ⟨h1, rfl⟩
  · right; exact ⟨by omega, big_fl C (by omega)⟩
theorem fl_zero' : floatOfInt .f64 0 = 0 := fl_zero
theorem ReIs.gt {re k : Nat} {L : Int} (h : ReIs re L k) (hk : (k : Int) < L) (hs : k ≤ 140737488355328) : (FloatKind.f64.format.order re 0 == some .gt) = true := by
  show (Ieee.double.order re 0 == some .gt) = true
  rcases h with ⟨h1, h2, rfl⟩ | ⟨h1, h2⟩
  · have := fl_order (L - k) 0 (by omega) (by omega)
    rw [fl_zero'] at this
    rw [this]
    have h3 : ¬ (L - k < 0) := by omega
    have h4 : ¬ (L - k = 0) := by omega
    simp [compare, compareOfLessAndEq, h3, h4]
  · have := big_order_gt re _ 0 (by omega) (by omega) h2
    rw [Int.natCast_zero, fl_zero'] at this
    rw [this]; rfl
theorem ReIs.done {re k : Nat} {L : Int} (h : ReIs re L k) (hk : ¬ (k : Int) < L) (hs : k ≤ 140737488355328) : re = 0 ∧ (k : Int) = L := by
  rcases h with ⟨h1, h2, rfl⟩ | ⟨h1, h2⟩
  · have : L - k = 0 := by omega
    rw [this, fl_zero']; exact ⟨rfl, by omega⟩
  · omega
theorem ReIs.sub {re k : Nat} {L : Int} (h : ReIs re L k) (hk : (k : Int) < L) (hs : k ≤ 140737488355328) : ∃ r, floatBits .sub .f64 re 4607182418800017408 = some r ∧ ReIs r L (k + 1) := by
  rcases h with ⟨h1, h2, rfl⟩ | ⟨h1, h2⟩
  · have := fl_sub (L - k) 1 (by omega) (by omega) (by omega)
    rw [fl_one] at this
    refine ⟨_, this, .inl ⟨h1, by omega, ?_⟩⟩
    congr 1; omega
  · obtain ⟨r, h3, h4⟩ := big_sub_one re _ (by omega) (by omega) h2
    exact ⟨r, h3, .inr ⟨h1, by rw [show 9007199254740992 - (k + 1) = 9007199254740992 - k - 1 by omega]; exact h4⟩⟩
theorem ImIs.sub {im : Nat} {C : Int} (h : ImIs im C) : ∃ r, floatBits .sub .f64 im 0 = some r ∧ ImIs r C := by
  rcases h with ⟨h1, rfl⟩ | ⟨h1, h2⟩
  · have := fl_sub C 0 h1 (by omega) (by omega)
    rw [fl_zero'] at this
    refine ⟨_, this, .inl ⟨h1, ?_⟩⟩
    congr 1; omega
  · obtain ⟨r, h3, h4⟩ := big_sub_zero _ im _ (by omega) (by omega) h2
    exact ⟨r, h3, .inr ⟨h1, h4⟩⟩
theorem ImIs.lt {im : Nat} {C : Int} (h : ImIs im C) (hC : C < 0) : (FloatKind.f64.format.order im 0 == some .lt) = true := by
  show (Ieee.double.order im 0 == some .lt) = true
  rcases h with ⟨h1, rfl⟩ | ⟨h1, h2⟩
  · have := fl_order C 0 h1 (by omega)
    rw [fl_zero'] at this
    rw [this]
    simp [compare, compareOfLessAndEq, hC]
  · rw [decide_eq_true hC] at h2
    rw [big_order_lt im _ (by omega) h2]; rfl
theorem ImIs.not_lt {im : Nat} {C : Int} (h : ImIs im C) (hC : 0 ≤ C) : (FloatKind.f64.format.order im 0 == some .lt) = false := by
  show (Ieee.double.order im 0 == some .lt) = false
  rcases h with ⟨h1, rfl⟩ | ⟨h1, h2⟩
  · have := fl_order C 0 h1 (by omega)
    rw [fl_zero'] at this
    rw [this]
    have h3 : ¬ C < 0 := by omega
    by_cases h4 : C = 0 <;> simp [compare, compareOfLessAndEq, h3, h4]
  · rw [decide_eq_false (by omega)] at h2
    have := big_order_gt im _ 0 (by omega) (by omega) h2
    rw [Int.natCast_zero, fl_zero'] at this
    rw [this]; rfl
theorem ImIs.gt {im : Nat} {C : Int} (h : ImIs im C) (hC : 0 ≤ C) (c : Int) (h0 : 0 ≤ c) (hc : c ≤ 140737488355328) (hlt : c < C) : (FloatKind.f64.format.order im (floatOfInt .f64 c) == some .gt) = true := by
  show (Ieee.double.order im _ == some .gt) = true
  rcases h with ⟨h1, rfl⟩ | ⟨h1, h2⟩
  · rw [fl_order C c h1 (by omega)]
    have h3 : ¬ C < c := by omega
    have h4 : ¬ C = c := by omega
    simp [compare, compareOfLessAndEq, h3, h4]
  · rw [decide_eq_false (by omega)] at h2
    have := big_order_gt im _ c.toNat (by omega) (by omega) h2
    rw [show ((c.toNat : Nat) : Int) = c by omega] at this
    rw [this]; rfl
theorem ImIs.not_gt {im : Nat} {C : Int} (h : ImIs im C) (hC : 0 ≤ C) (c : Int) (hc : c ≤ 140737488355328) (hle : C ≤ c) : (FloatKind.f64.format.order im (floatOfInt .f64 c) == some .gt) = false := by
  show (Ieee.double.order im _ == some .gt) = false
  rcases h with ⟨h1, rfl⟩ | ⟨h1, h2⟩
  · rw [fl_order C c h1 (by omega)]
    by_cases h3 : C < c
    · simp [compare, compareOfLessAndEq, h3]
    · have h4 : C = c := by omega
      simp [compare, compareOfLessAndEq, h4]
  · omega
theorem ImIs.small {im : Nat} {C : Int} (h : ImIs im C) (hC : 0 ≤ C) (hc : C ≤ 140737488355328) : im = floatOfInt .f64 C := by
  rcases h with ⟨h1, rfl⟩ | ⟨h1, h2⟩
  · rfl
  · omega
theorem re_below (L : Int) (h : L < 0) : (FloatKind.f64.format.order (floatOfInt .f64 L) 0 == some .gt) = false ∧ (FloatKind.f64.format.order (floatOfInt .f64 L) 0 == some .lt) = true := by
  have h1 := (ImIs.new L).lt h
  refine ⟨?_, h1⟩
  have : FloatKind.f64.format.order (floatOfInt .f64 L) 0 = some .lt := by simpa using h1
  rw [this]; rfl
theorem zero_zero : (FloatKind.f64.format.order 0 0 == some .gt) = false ∧ (FloatKind.f64.format.order 0 0 == some .lt) = false := by decide
theorem sz_drop (s : ByteArray) (k : Nat) : (s.extract k s.size).data.toList = s.data.toList.drop k := by
  rw [ByteArray.data_extract]; simp
  exact List.take_of_length_le (by simp)
theorem csub (re im r1 r2 : Nat) (h1 : floatBits .sub .f64 re 4607182418800017408 = some r1) (h2 : floatBits .sub .f64 im 0 = some r2) (t : TypeId) (w : World) :
    (binOp .sub t (.complex .f64 re im) (.complex .f64 4607182418800017408 0)).run Try.prog w = .ok (.complex .f64 r1 r2) w :=
  run_complex_sum (P := Try.prog) w .sub (Or.inr rfl) t .f64 re im _ _ r1 r2 (by unfold cSumBits; rw [h1, h2]; rfl)
theorem at_neg (s : ByteArray) (L C : Int) (w : World) (hL : L < 0) :
    Calls Try.prog 37 #[.string s, pl L C] w fun r w' => r = .returned (.tuple #[.int .i64 0, .int .i64 4]) ∧ Below w.heap.size w w' := by
  obtain ⟨t1, t2⟩ := re_below L hL
  clear hL
  go_enter Try.func37, Try.ntmps37
  go_wp2
  go_loop [6, 7] (fun v a => v = .complex .f64 (floatOfInt .f64 L) (floatOfInt .f64 C) ∧ a = .int .i64 0) (fun _ _ => 0)
  case atStart => exact ⟨rfl, rfl⟩
  case round =>
    obtain ⟨rfl, rfl⟩ := hrel
    go_wp2
    go_ret2
    exact ⟨rfl, (Below.refl _ _).alloc (Nat.le_refl _) _⟩
theorem tup2 {a b a' b' : Int} (h : a = a') (h2 : b = b') : Ending.returned (.tuple #[.int .i64 a, .int .i64 b]) = .returned (.tuple #[.int .i64 a', .int .i64 b']) := by rw [h, h2]
theorem toPlace0 (C : Int) (h : C.natAbs < 9007199254740992) (w : World) : Calls Try.prog 63 #[.complex .f64 0 (floatOfInt .f64 C)] w fun r w' => r = .returned (pl 0 C) ∧ Below w.heap.size w w' := by
  have := toPlace_any 0 C (by decide) h w
  rwa [fl_zero'] at this
theorem at_line (s : ByteArray) (L C : Int) (w : World) (hs : s.size ≤ 140737488355328) (hL : 0 ≤ L) :
    Calls Try.prog 37 #[.string s, pl L C] w fun r w' => r = .returned (.tuple #[.int .i64 (atN s.data.toList L C), .int .i64 (atE s.data.toList L C)]) ∧ Below w.heap.size w w' := by
  have hlen : s.data.toList.length = s.size := by simp
  have hR0 := ReIs.new L hL
  have hI0 := ImIs.new C
  have hlen' := Lib.hid hlen; clear hlen
  go_enter Try.func37, Try.ntmps37
  go_wp2
  go_loop [6, 7] (fun v a => ∃ (k p re im : Nat), v = .complex .f64 re im ∧ a = .int .i64 p ∧ Head s.data.toList p k ∧ ReIs re L k ∧ ImIs im C) (fun _ a => s.size - (intOf a).toNat)
  case atStart => exact ⟨0, 0, _, _, rfl, rfl, Head.zero _, hR0, hI0⟩
  case round =>
    clear hR0 hI0
    obtain ⟨k, p, re, im, rfl, rfl, hH, hR, hI⟩ := hrel
    have hp : p ≤ s.size := by have := hH.le; rw [hlen'.out] at this; exact this
    have hk : k ≤ p := hH.lines
    have hk2 : k ≤ 140737488355328 := by omega
    obtain ⟨u, hu⟩ : ∃ u, s.extract p s.size = u := ⟨_, rfl⟩
    have hud := sz_drop s p
    rw [hu] at hud
    have hus : u.size + p = s.size := by
      have : u.data.toList.length = (s.data.toList.drop p).length := by rw [hud]
      rw [List.length_drop, hlen'.out] at this
      simp at this; omega
    have hu' := Lib.hid hu; clear hu
    have hud' := Lib.hid hud; clear hud
    have hus' := Lib.hid hus
    by_cases hlt : (k : Int) < L
    · have t1 := hR.gt hlt hk2
      obtain ⟨r1, q1, hR1⟩ := hR.sub hlt hk2
      obtain ⟨r2, q2, hI1⟩ := hI.sub
      have hop := csub re im r1 r2 q1 q2
      have hop' := Lib.hid hop; clear hop q1 q2
      rcases index_spec u.data.toList with ⟨i1, i2⟩ | ⟨x, y, i1, i2, i3⟩
      · have hnone := Lib.hid (at_above hH (by rw [← hud'.out]; exact i2) L C hlt)
        have hj := Lib.hid i1; clear i1
        clear i2 hus hR hI hH hR1 hI1
        go_wp2_with fail
        rw [hu'.out]
        refine (index10_any u _).mono ?_
        rw [hj.out]
        rintro _ _ ⟨rfl, rfl⟩
        go_wp2
        go_ret2
        exact ⟨tup2 hnone.out.1.symm hnone.out.2.symm, (Below.refl _ _).alloc (Nat.le_refl _) _⟩
      · have hnext := hH.next x y (by rw [← hud'.out]; exact i1) i2
        have hxl : x.length + 1 + y.length = u.size := by
          have : u.data.toList.length = (x ++ 10 :: y).length := by rw [i1]
          simp at this; omega
        obtain ⟨n, hn⟩ : ∃ n, x.length = n := ⟨_, rfl⟩
        rw [hn] at hnext hxl i3
        have hj := Lib.hid i3
        clear i1 i2 i3 hn hR hI hH
        go_wp2_with fail
        rw [hu'.out]
        refine (index10_any u _).mono ?_
        rw [hj.out]
        rintro _ _ ⟨rfl, rfl⟩
        go_wp2_with (simp only [hop'.out])
        go_round
        case rel => exact ⟨k + 1, p + n + 1, r1, r2, rfl, by go_num, hnext, hR1, hI1⟩
        case measure => simp [intOf]; omega
    · obtain ⟨rfl, hkL⟩ := hR.done hlt hk2
      obtain ⟨z1, z2⟩ := zero_zero
      subst hkL
      clear hlt hL
      have hub : u.size ≤ 140737488355328 := by omega
      have hlc := lastCol_le u.data.toList
      have hlc2 : lastCol u.data.toList ≤ 140737488355328 := by
        have : u.data.toList.length = u.size := by simp
        omega
      by_cases hC : C < 0
      · have t1 := hI.lt hC
        have hb := Lib.hid (at_beyond hH C (.inl hC))
        clear hus hR hI hH
        go_wp2
        go_ret2
        exact ⟨tup2 hb.out.1.symm hb.out.2.symm, (Below.refl _ _).alloc (Nat.le_refl _) _⟩
      · have t1 := hI.not_lt (by omega)
        by_cases hC2 : lastCol u.data.toList < C
        · have t2 := hI.gt (by omega) (lastCol u.data.toList) hlc.1 hlc2 hC2
          have hb := Lib.hid (at_beyond hH C (.inr (by rw [← hud'.out]; exact hC2)))
          clear hus hR hI hH
          go_wp2_with fail
          rw [hu'.out]
          refine (lastColumn_any u _ hub).mono ?_
          rintro _ _ ⟨rfl, rfl⟩
          go_wp2
          go_ret2
          exact ⟨tup2 hb.out.1.symm hb.out.2.symm, (Below.refl _ _).alloc (Nat.le_refl _) _⟩
        · have t2 := hI.not_gt (by omega) (lastCol u.data.toList) hlc2 (by omega)
          have hb := Lib.hid (at_found hH C (by omega) (by rw [← hud'.out]; omega))
          obtain rfl := hI.small (by omega) (by omega)
          clear hus hR hI hH
          have hp0 := toPlace0 C (by omega)
          have hp1 := Lib.hid hp0; clear hp0
          go_wp2_with fail
          rw [hu'.out]
          refine (lastColumn_any u _ hub).mono ?_
          rintro _ _ ⟨rfl, rfl⟩
          go_wp2_with fail
          refine (hp1.out _).mono ?_
          rintro _ w1 ⟨rfl, hb1⟩
          go_wp2_with (simp only [field1])
          go_ret2
          exact ⟨tup2 hb.out.1.symm hb.out.2.symm, ((Below.refl _ _).alloc (Nat.le_refl _) _).trans (hb1.mono (by simp))⟩
theorem at_any (s : ByteArray) (L C : Int) (w : World) (hs : s.size ≤ 140737488355328) :
    Calls Try.prog 37 #[.string s, pl L C] w fun r w' => r = .returned (.tuple #[.int .i64 (atN s.data.toList L C), .int .i64 (atE s.data.toList L C)]) ∧ Below w.heap.size w w' := by
  by_cases hL : L < 0
  · have h := at_below s.data.toList L C hL
    rw [h.1, h.2]
    exact at_neg s L C w hL
  · exact at_line s L C w hs (by omega)
end Go.Proofs.Ytagjeckgfjddmaa
