/- float64 of whole numbers: a difference, a comparison, int(..) of float64(a), float64(b) are those of a and b, where these are below 2^53; of greater ones, what they are at least. No program, no world. -/
import Derived.Laws.ComplexArith
namespace Go.Proofs.Ytagjeckgfjddmaa
set_option linter.unusedSimpArgs false
set_option linter.unusedVariables false
open Ieee

theorem double_least : double.leastPlace = -1074 := by decide
theorem double_binade : double.binade = 4503599627370496 := by decide
theorem double_inf : double.infRung = 2047 * 4503599627370496 := by decide
theorem double_sign : double.signWeight = 2048 * 4503599627370496 := by decide
theorem two52 : (2 : Nat) ^ 52 = 4503599627370496 := by decide
theorem two53 : (2 : Nat) ^ 53 = 9007199254740992 := by decide

theorem log2_lt53 {n : Nat} (h0 : n ≠ 0) (h : n < 9007199254740992) : n.log2 ≤ 52 := by
  have := (Nat.log2_lt h0 (k := 53)).2 (by rw [two53]; exact h); omega

/-- A word with a full significand is read as it was written. -/
theorem read_word (s : Bool) (E K : Nat) (hE : E ≤ 2045) (h1 : 4503599627370496 ≤ K) (h2 : K < 9007199254740992) (hi : E * 4503599627370496 + K < 2047 * 4503599627370496) :
    double.read (double.word s (E * 4503599627370496 + K)) = .number s K ((E : Int) - 1074) := by
  have hw : ∀ r, r < 2048 * 4503599627370496 → (double.word s r / double.signWeight % 2 == 1) = s ∧ double.word s r % double.signWeight = r := by
    intro r hr
    unfold Format.word
    rw [double_sign]
    cases s
    · simp only [Bool.false_eq_true, if_false]
      rw [Nat.div_eq_of_lt hr, Nat.mod_eq_of_lt hr]; exact ⟨rfl, rfl⟩
    · simp only [if_true]
      have e1 : (2048 * 4503599627370496 + r) / (2048 * 4503599627370496) = 1 := by omega
      have e2 : (2048 * 4503599627370496 + r) % (2048 * 4503599627370496) = r := by omega
      rw [e1, e2]; exact ⟨rfl, rfl⟩
  obtain ⟨e1, e2⟩ := hw (E * 4503599627370496 + K) (by omega)
  unfold Format.read
  simp only [e1, e2, double_binade, double_inf, double_least]
  rw [if_neg (by omega), if_pos (by omega)]
  have e3 : 4503599627370496 + (E * 4503599627370496 + K) % 4503599627370496 = K := by omega
  have e4 : (E * 4503599627370496 + K) / 4503599627370496 - 1 = E := by omega
  rw [e3, e4]
  have e5 : (-1074 : Int) + ((E : Nat) : Int) = (E : Int) - 1074 := by omega
  rw [e5]

/-- A whole number, cut at a place below which nothing stands. -/
theorem cut_exact (way : Toward) (s : Bool) (q d : Nat) (hq : q ≠ 0) : way.cut s (q * 2 ^ d) d = q := by
  have hl : d ≤ (q * 2 ^ d).log2 := by
    rw [Nat.le_log2 (by have := Nat.two_pow_pos d; exact Nat.mul_ne_zero hq (by omega))]
    exact Nat.le_mul_of_pos_left _ (by omega)
  unfold Toward.cut
  have hm : min d ((q * 2 ^ d).log2 + 2) = d := by omega
  have hp := Nat.two_pow_pos d
  simp only [hm, Nat.shiftLeft_eq, Nat.one_mul]
  rw [Nat.mul_div_cancel _ hp, Nat.mul_mod_left]
  cases way <;> simp <;> omega
theorem cut_zero (way : Toward) (s : Bool) (d : Nat) : way.cut s 0 d = 0 := by
  have hp : 0 < 1 <<< min d ((0 : Nat).log2 + 2) := by rw [Nat.shiftLeft_eq]; have := Nat.two_pow_pos (min d ((0 : Nat).log2 + 2)); omega
  unfold Toward.cut
  simp only [Nat.zero_div, Nat.zero_mod]
  cases way <;> simp <;> omega

theorem log2_mul_pow {n : Nat} (h0 : n ≠ 0) (j : Nat) : (n * 2 ^ j).log2 = n.log2 + j := by
  have hp := Nat.two_pow_pos j
  have hne : n * 2 ^ j ≠ 0 := Nat.mul_ne_zero h0 (by omega)
  rw [Nat.log2_eq_iff hne]
  have ⟨a, b⟩ := (Nat.log2_eq_iff h0).1 rfl
  constructor
  · rw [Nat.pow_add]; exact Nat.mul_le_mul_right _ a
  · rw [show n.log2 + j + 1 = (n.log2 + 1) + j by omega, Nat.pow_add]; exact Nat.mul_lt_mul_of_pos_right b hp

/-- The word of a whole number below 2^53, however it is spelled. -/
theorem nearest_exact (s : Bool) (n j : Nat) (h0 : n ≠ 0) (h : n < 9007199254740992) :
    double.nearest s (n * 2 ^ j) (-(j : Int)) = double.word s ((n.log2 + 1022) * 4503599627370496 + n * 2 ^ (52 - n.log2)) := by
  have hl := log2_lt53 h0 h
  have hp := Nat.two_pow_pos j
  have hne : n * 2 ^ j ≠ 0 := Nat.mul_ne_zero h0 (by omega)
  have ⟨ha, hb⟩ := (Nat.log2_eq_iff h0).1 rfl
  have hK2 : n * 2 ^ (52 - n.log2) < 9007199254740992 := by
    have : 2 ^ (n.log2 + 1) * 2 ^ (52 - n.log2) = 9007199254740992 := by rw [← Nat.pow_add, ← two53]; congr 1; omega
    rw [← this]; exact Nat.mul_lt_mul_of_pos_right hb (Nat.two_pow_pos _)
  unfold Format.nearest
  rw [if_neg hne]
  have e1 : max (-(j : Int) + ((n * 2 ^ j).log2 : Int) - (double.fractionBits : Int)) double.leastPlace = (n.log2 : Int) - 52 := by
    rw [log2_mul_pow h0, double_least, show double.fractionBits = 52 from rfl]
    push_cast
    omega
  simp only [e1]
  rw [double_least, double_binade, double_inf]
  have e2 : ((n.log2 : Int) - 52 - -1074).toNat = n.log2 + 1022 := by omega
  rw [e2]
  have e3 : Toward.even.cut s ((n * 2 ^ j) <<< (-(j : Int) - ((n.log2 : Int) - 52)).toNat) ((n.log2 : Int) - 52 - -(j : Int)).toNat = n * 2 ^ (52 - n.log2) := by
    rw [Nat.shiftLeft_eq, Nat.mul_assoc, ← Nat.pow_add]
    have hq : n * 2 ^ (52 - n.log2) ≠ 0 := Nat.mul_ne_zero h0 (by have := Nat.two_pow_pos (52 - n.log2); omega)
    have e4 : n * 2 ^ (j + (-(j : Int) - ((n.log2 : Int) - 52)).toNat) = (n * 2 ^ (52 - n.log2)) * 2 ^ ((n.log2 : Int) - 52 - -(j : Int)).toNat := by
      rw [Nat.mul_assoc, ← Nat.pow_add]; congr 2; omega
    rw [e4]; exact cut_exact _ _ _ _ hq
  rw [e3]
  have h3 : (n.log2 + 1022) * 4503599627370496 ≤ 1074 * 4503599627370496 := Nat.mul_le_mul_right _ (by omega)
  have e6 : min ((n.log2 + 1022) * 4503599627370496 + n * 2 ^ (52 - n.log2)) (2047 * 4503599627370496) = (n.log2 + 1022) * 4503599627370496 + n * 2 ^ (52 - n.log2) := by
    generalize n * 2 ^ (52 - n.log2) = K at hK2 ⊢
    omega
  rw [e6]

theorem nearest_zero (s : Bool) (p : Int) : double.nearest s 0 p = double.word s 0 := by unfold Format.nearest; simp

theorem fl_eq (n : Int) : floatOfInt .f64 n = double.nearest (decide (n < 0)) n.natAbs 0 := rfl

/-- float64(n), read: n itself. -/
theorem fl_rep (n : Int) (h : n.natAbs < 9007199254740992) : ∃ e : Nat, double.read (floatOfInt .f64 n) = .number (decide (n < 0)) (n.natAbs * 2 ^ e) (-(e : Int)) := by
  by_cases h0 : n = 0
  · subst h0
    refine ⟨1074, ?_⟩
    rw [fl_eq]
    simp only [Int.natAbs_zero, nearest_zero, Nat.zero_mul]
    decide
  · have h0' : n.natAbs ≠ 0 := by omega
    have hl := log2_lt53 h0' h
    have e := nearest_exact (decide (n < 0)) n.natAbs 0 h0' h
    simp only [Nat.pow_zero, Nat.mul_one] at e
    refine ⟨52 - n.natAbs.log2, ?_⟩
    have ⟨ha, hb⟩ := (Nat.log2_eq_iff h0').1 rfl
    have h1 : 4503599627370496 ≤ n.natAbs * 2 ^ (52 - n.natAbs.log2) := by
      have : 2 ^ n.natAbs.log2 * 2 ^ (52 - n.natAbs.log2) = 4503599627370496 := by rw [← Nat.pow_add, ← two52]; congr 1; omega
      rw [← this]; exact Nat.mul_le_mul_right _ ha
    have h2 : n.natAbs * 2 ^ (52 - n.natAbs.log2) < 9007199254740992 := by
      have : 2 ^ (n.natAbs.log2 + 1) * 2 ^ (52 - n.natAbs.log2) = 9007199254740992 := by rw [← Nat.pow_add, ← two53]; congr 1; omega
      rw [← this]; exact Nat.mul_lt_mul_of_pos_right hb (Nat.two_pow_pos _)
    have h3 : (n.natAbs.log2 + 1022) * 4503599627370496 ≤ 1074 * 4503599627370496 := Nat.mul_le_mul_right _ (by omega)
    rw [fl_eq]
    simp only [Int.natCast_zero, Int.neg_zero] at e
    have e5 : ((n.natAbs.log2 + 1022 : Nat) : Int) - 1074 = -((52 - n.natAbs.log2 : Nat) : Int) := by omega
    have h4 : (n.natAbs.log2 + 1022) * 4503599627370496 + n.natAbs * 2 ^ (52 - n.natAbs.log2) < 2047 * 4503599627370496 := by
      generalize n.natAbs * 2 ^ (52 - n.natAbs.log2) = K at h2 ⊢
      omega
    have r := read_word (decide (n < 0)) (n.natAbs.log2 + 1022) (n.natAbs * 2 ^ (52 - n.natAbs.log2)) (Nat.le_trans (Nat.add_le_add_right hl 1022) (by decide)) h1 h2 h4
    rw [e5] at r
    rw [e]
    exact r

theorem signed_val (n : Int) (e u m : Nat) (h : e + u = m) : signed (decide (n < 0)) (n.natAbs * 2 ^ e) u = n * 2 ^ m := by
  subst h
  unfold signed
  rw [Nat.shiftLeft_eq, Nat.mul_assoc, ← Nat.pow_add]
  by_cases hn : n < 0
  · simp only [hn, decide_true, if_true]
    push_cast
    rw [show ((n.natAbs : Nat) : Int) = -n by omega, Int.neg_mul, Int.neg_neg]
  · simp only [hn, decide_false, Bool.false_eq_true, if_false]
    push_cast
    rw [show ((n.natAbs : Nat) : Int) = n by omega]

theorem fl_order (a b : Int) (ha : a.natAbs < 9007199254740992) (hb : b.natAbs < 9007199254740992) : double.order (floatOfInt .f64 a) (floatOfInt .f64 b) = some (compare a b) := by
  obtain ⟨e, he⟩ := fl_rep a ha
  obtain ⟨f, hf⟩ := fl_rep b hb
  unfold Format.order
  rw [he, hf]
  unfold Datum.order
  have hm : min (-(e : Int)) (-(f : Int)) = -((max e f : Nat) : Int) := by omega
  simp only [hm]
  rw [signed_val a e _ (max e f) (by omega), signed_val b f _ (max e f) (by omega)]
  have hp : (0 : Int) < 2 ^ max e f := by exact_mod_cast Nat.two_pow_pos (max e f)
  congr 1
  rcases Int.lt_trichotomy a b with h | h | h
  · have h2 : a * 2 ^ max e f < b * 2 ^ max e f := Int.mul_lt_mul_of_pos_right h hp
    simp [compare, compareOfLessAndEq, h, h2]
  · subst h; simp [compare, compareOfLessAndEq]
  · have h2 : b * 2 ^ max e f < a * 2 ^ max e f := Int.mul_lt_mul_of_pos_right h hp
    simp [compare, compareOfLessAndEq, h, h2, Int.not_lt.2 (Int.le_of_lt h), Int.not_lt.2 (Int.le_of_lt h2), Int.ne_of_gt h, Int.ne_of_gt h2]

theorem fl_toInt (a : Int) (ha : a.natAbs < 9007199254740992) : (FloatKind.f64.decode (floatOfInt .f64 a)).toInt .zero = some a := by
  obtain ⟨e, he⟩ := fl_rep a ha
  show (double.read (floatOfInt .f64 a)).toInt .zero = some a
  rw [he]
  unfold Datum.toInt Datum.integral
  have e1 : (-(e : Int)).toNat = 0 := by omega
  have e2 : (- -(e : Int)).toNat = e := by omega
  simp only [e1, e2, Nat.shiftLeft_zero]
  have e3 : Toward.zero.cut (decide (a < 0)) (a.natAbs * 2 ^ e) e = a.natAbs := by
    by_cases h0 : a.natAbs = 0
    · rw [h0, Nat.zero_mul]; exact cut_zero _ _ _
    · exact cut_exact _ _ _ _ h0
  rw [e3]
  have := signed_val a 0 0 0 rfl
  simp only [Nat.pow_zero, Nat.mul_one] at this
  rw [this]; simp

theorem fl_sub (a b : Int) (ha : a.natAbs < 9007199254740992) (hb : b.natAbs < 9007199254740992) (hab : (a - b).natAbs < 9007199254740992) :
    floatBits .sub .f64 (floatOfInt .f64 a) (floatOfInt .f64 b) = some (floatOfInt .f64 (a - b)) := by
  obtain ⟨e, he⟩ := fl_rep a ha
  obtain ⟨f, hf⟩ := fl_rep b hb
  show double.sub (floatOfInt .f64 a) (floatOfInt .f64 b) = _
  unfold Format.sub
  rw [he, hf]
  unfold Datum.opposite Datum.sum
  have hm : min (-(e : Int)) (-(f : Int)) = -((max e f : Nat) : Int) := by omega
  simp only [hm, Option.map_some]
  have hs : signed (!decide (b < 0)) (b.natAbs * 2 ^ f) (-(f : Int) - -((max e f : Nat) : Int)).toNat = -(b * 2 ^ max e f) := by
    rw [← signed_val b f _ (max e f) (by omega : f + (-(f : Int) - -((max e f : Nat) : Int)).toNat = _)]
    unfold signed
    cases decide (b < 0) <;> simp
  rw [signed_val a e _ (max e f) (by omega), hs]
  have ht : a * 2 ^ max e f + -(b * 2 ^ max e f) = (a - b) * 2 ^ max e f := by rw [Int.sub_mul]; omega
  rw [ht]
  have hp : (0 : Int) < 2 ^ max e f := by exact_mod_cast Nat.two_pow_pos (max e f)
  congr 1
  unfold Format.write
  simp only
  by_cases h0 : a - b = 0
  · have hab' : a = b := by omega
    subst hab'
    rw [h0, Int.zero_mul]
    simp only [if_true]
    rw [show (decide (a < 0) && !decide (a < 0)) = false by cases decide (a < 0) <;> rfl]
    rw [Int.natAbs_zero, nearest_zero]; rfl
  · have hne : (a - b) * 2 ^ max e f ≠ 0 := Int.mul_ne_zero h0 (by omega)
    rw [if_neg hne]
    have hd : decide ((a - b) * 2 ^ max e f < 0) = decide (a - b < 0) := by
      rcases Int.lt_trichotomy (a - b) 0 with h | h | h
      · have : (a - b) * 2 ^ max e f < 0 := Int.mul_neg_of_neg_of_pos h hp
        simp [h, this]
      · exact absurd h h0
      · have : 0 < (a - b) * 2 ^ max e f := Int.mul_pos h hp
        rw [decide_eq_false (by omega), decide_eq_false (by omega)]
    rw [hd, Int.natAbs_mul]
    have hq : ((2 : Int) ^ max e f).natAbs = 2 ^ max e f := by
      have : ((2 : Int) ^ max e f) = ((2 ^ max e f : Nat) : Int) := by push_cast; rfl
      rw [this]; exact Int.natAbs_natCast _
    rw [hq]
    rw [nearest_exact _ _ _ (by omega) hab]
    have e2 := nearest_exact (decide (a - b < 0)) (a - b).natAbs 0 (by omega) hab
    simp only [Nat.pow_zero, Nat.mul_one, Int.natCast_zero, Int.neg_zero] at e2
    rw [fl_eq, e2]

theorem fl_one : floatOfInt .f64 1 = 4607182418800017408 := by decide
theorem fl_zero : floatOfInt .f64 0 = 0 := by decide
end Go.Proofs.Ytagjeckgfjddmaa
