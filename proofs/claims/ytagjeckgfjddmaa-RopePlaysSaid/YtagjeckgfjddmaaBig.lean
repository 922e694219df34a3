/- float64 of great whole numbers: what such a float is at least, and that taking 1, or 0, off it leaves it great. No program, no world. -/
import Derived.Test.YtagjeckgfjddmaaFloat
namespace Go.Proofs.Ytagjeckgfjddmaa
set_option linter.unusedSimpArgs false
set_option linter.unusedVariables false
open Ieee

/-- An infinity, or a number whose amount is n at least. -/
def AtLeast (s : Bool) (b n : Nat) : Prop := double.read b = .infinity s ∨ ∃ (m : Nat) (e : Int), double.read b = .number s m e ∧ n * 2 ^ (-e).toNat ≤ m * 2 ^ e.toNat

theorem read_inf (s : Bool) : double.read (double.word s (2047 * 4503599627370496)) = .infinity s := by cases s <;> decide

theorem cut_near (s : Bool) (n d : Nat) (h : d ≤ n.log2 + 2) : n / 2 ^ d ≤ Toward.even.cut s n d ∧ Toward.even.cut s n d ≤ n / 2 ^ d + 1 := by
  unfold Toward.cut
  have hm : min d (n.log2 + 2) = d := by omega
  simp only [hm, Nat.shiftLeft_eq, Nat.one_mul]
  constructor
  · exact Nat.le_add_right _ _
  · exact Nat.add_le_add_left (Bool.toNat_le _) _

theorem nearest_ge (s : Bool) (mag : Nat) (place : Int) (n : Nat) (hn : 0 < n) (hn2 : n ≤ 9007199254740992) (h : n * 2 ^ (-place).toNat ≤ mag * 2 ^ place.toNat) :
    AtLeast s (double.nearest s mag place) n := by
  have hne : mag ≠ 0 := by
    rintro rfl
    rw [Nat.zero_mul] at h
    have := Nat.mul_pos hn (Nat.two_pow_pos (-place).toNat)
    omega
  obtain ⟨L, hL⟩ : ∃ L, mag.log2 = L := ⟨_, rfl⟩
  have ⟨hlo, hhi⟩ := (Nat.log2_eq_iff hne).1 hL
  have hq : 0 ≤ place + L := by
    by_cases hp : 0 ≤ place
    · omega
    · have e0 : place.toNat = 0 := by omega
      rw [e0, Nat.pow_zero, Nat.mul_one] at h
      have h1 : 2 ^ (-place).toNat < 2 ^ (L + 1) := Nat.lt_of_le_of_lt (Nat.le_trans (Nat.le_mul_of_pos_left _ hn) h) hhi
      have h2 := (Nat.pow_lt_pow_iff_right (by decide : 1 < 2)).1 h1
      omega
  -- the significand that is kept
  obtain ⟨K, hK⟩ : ∃ K, Toward.even.cut s (mag <<< (place - (place + L - 52)).toNat) ((place + L - 52) - place).toNat = K := ⟨_, rfl⟩
  have hKb : 4503599627370496 ≤ K ∧ K ≤ 9007199254740992 ∧ (1 ≤ place + L - 52 ∨ n * 2 ^ (-(place + L - 52)).toNat ≤ K) := by
    rw [← hK]
    clear hK
    by_cases hL52 : L ≤ 52
    · have e1 : (place - (place + L - 52)).toNat = 52 - L := by omega
      have e2 : ((place + L - 52) - place).toNat = 0 := by omega
      rw [e1, e2, Nat.shiftLeft_eq]
      have e3 := cut_exact .even s (mag * 2 ^ (52 - L)) 0 (Nat.mul_ne_zero hne (by have := Nat.two_pow_pos (52 - L); omega))
      rw [Nat.pow_zero, Nat.mul_one] at e3
      rw [e3]
      refine ⟨?_, ?_, ?_⟩
      · have : 2 ^ L * 2 ^ (52 - L) = 4503599627370496 := by rw [← Nat.pow_add, ← two52]; congr 1; omega
        rw [← this]; exact Nat.mul_le_mul_right _ hlo
      · have : 2 ^ (L + 1) * 2 ^ (52 - L) = 9007199254740992 := by rw [← Nat.pow_add, ← two53]; congr 1; omega
        rw [← this]; exact Nat.mul_le_mul_right _ (Nat.le_of_lt hhi)
      · by_cases h1 : 1 ≤ place + L - 52
        · exact .inl h1
        · right
          by_cases hp : place ≤ 0
          · have a1 : place.toNat = 0 := by omega
            rw [a1, Nat.pow_zero, Nat.mul_one] at h
            have a2 : (-(place + L - 52)).toNat = (-place).toNat + (52 - L) := by omega
            rw [a2, Nat.pow_add, ← Nat.mul_assoc]
            exact Nat.mul_le_mul_right _ h
          · have a1 : (-place).toNat = 0 := by omega
            rw [a1, Nat.pow_zero, Nat.mul_one] at h
            have a2 : (52 - L) = place.toNat + (-(place + L - 52)).toNat := by omega
            rw [a2, Nat.pow_add, ← Nat.mul_assoc]
            exact Nat.mul_le_mul_right _ h
    · have e1 : (place - (place + L - 52)).toNat = 0 := by omega
      have e2 : ((place + L - 52) - place).toNat = L - 52 := by omega
      rw [e1, e2, Nat.shiftLeft_zero]
      have ⟨c1, c2⟩ := cut_near s mag (L - 52) (by omega)
      have d1 : 4503599627370496 ≤ mag / 2 ^ (L - 52) := by
        rw [Nat.le_div_iff_mul_le (Nat.two_pow_pos _)]
        have : 4503599627370496 * 2 ^ (L - 52) = 2 ^ L := by rw [← two52, ← Nat.pow_add]; congr 1; omega
        rw [this]; exact hlo
      have d2 : mag / 2 ^ (L - 52) < 9007199254740992 := by
        rw [Nat.div_lt_iff_lt_mul (Nat.two_pow_pos _)]
        have : 9007199254740992 * 2 ^ (L - 52) = 2 ^ (L + 1) := by rw [← two53, ← Nat.pow_add]; congr 1; omega
        rw [this]; exact hhi
      refine ⟨by omega, by omega, ?_⟩
      by_cases h1 : 1 ≤ place + L - 52
      · exact .inl h1
      · right
        have a1 : place.toNat = 0 := by omega
        rw [a1, Nat.pow_zero, Nat.mul_one] at h
        refine Nat.le_trans ?_ c1
        rw [Nat.le_div_iff_mul_le (Nat.two_pow_pos _), Nat.mul_assoc, ← Nat.pow_add]
        have a2 : (-(place + L - 52)).toNat + (L - 52) = (-place).toNat := by omega
        rw [a2]; exact h
  obtain ⟨k1, k2, k3⟩ := hKb
  -- the word
  have hw : double.nearest s mag place = double.word s (min (((place + L - 52) + 1074).toNat * 4503599627370496 + K) (2047 * 4503599627370496)) := by
    unfold Format.nearest
    rw [if_neg hne]
    have e1 : max (place + (mag.log2 : Int) - (double.fractionBits : Int)) double.leastPlace = place + L - 52 := by
      rw [hL, double_least, show double.fractionBits = 52 from rfl]
      omega
    simp only [e1]
    rw [double_least, double_binade, double_inf, hK]
    rw [show (place + (L : Int) - 52 - -1074) = (place + L - 52) + 1074 by omega]
  obtain ⟨E, hE⟩ : ∃ E : Nat, ((place + L - 52) + 1074).toNat = E := ⟨_, rfl⟩
  have hE' : (E : Int) - 1074 = place + L - 52 := by omega
  rw [hE] at hw
  rw [hw]
  clear hw hK
  have hri := read_inf s
  obtain ⟨T, hT⟩ : ∃ T, 2047 * 4503599627370496 = T := ⟨_, rfl⟩
  obtain ⟨R, hR⟩ : ∃ R, E * 4503599627370496 + K = R := ⟨_, rfl⟩
  rw [hT] at hri
  rw [hT, hR]
  by_cases hi : T ≤ R
  · rw [Nat.min_eq_right hi]
    exact .inl hri
  · rw [Nat.min_eq_left (Nat.le_of_not_le hi), ← hR]
    have hi' : E * 4503599627370496 + K < 2047 * 4503599627370496 := by rw [hR, hT]; exact Nat.lt_of_not_le hi
    clear hri hi hR hT
    by_cases hk : K < 9007199254740992
    · have r := read_word s E K (by omega) k1 hk hi'
      rw [hE'] at r
      refine .inr ⟨_, _, r, ?_⟩
      rcases k3 with k3 | k3
      · have a1 : (-(place + L - 52)).toNat = 0 := by omega
        rw [a1, Nat.pow_zero, Nat.mul_one]
        obtain ⟨u, hu⟩ : ∃ u, (place + L - 52).toNat = u + 1 := ⟨(place + L - 52).toNat - 1, by omega⟩
        rw [hu, Nat.pow_succ]
        have := Nat.two_pow_pos u
        refine Nat.le_trans hn2 ?_
        calc 9007199254740992 = 4503599627370496 * (1 * 2) := by decide
          _ ≤ K * (2 ^ u * 2) := Nat.mul_le_mul k1 (Nat.mul_le_mul_right 2 this)
      · exact Nat.le_trans k3 (Nat.le_mul_of_pos_right _ (Nat.two_pow_pos _))
    · have hk' : K = 9007199254740992 := by omega
      subst hk'
      have r := read_word s (E + 1) 4503599627370496 (by omega) (by omega) (by omega) (by omega)
      have er : (E + 1) * 4503599627370496 + 4503599627370496 = E * 4503599627370496 + 9007199254740992 := by omega
      rw [er] at r
      have e2 : ((E + 1 : Nat) : Int) - 1074 = (place + L - 52) + 1 := by omega
      rw [e2] at r
      refine .inr ⟨_, _, r, ?_⟩
      by_cases hl : 0 ≤ place + L - 52
      · have a1 : (-((place + L - 52) + 1)).toNat = 0 := by omega
        rw [a1, Nat.pow_zero, Nat.mul_one]
        obtain ⟨u, hu⟩ : ∃ u, ((place + L - 52) + 1).toNat = u + 1 := ⟨(place + L - 52).toNat, by omega⟩
        rw [hu, Nat.pow_succ]
        have := Nat.two_pow_pos u
        refine Nat.le_trans hn2 ?_
        calc 9007199254740992 = 4503599627370496 * (1 * 2) := by decide
          _ ≤ 4503599627370496 * (2 ^ u * 2) := Nat.mul_le_mul_left _ (Nat.mul_le_mul_right 2 this)
      · have k4 : n * 2 ^ (-(place + L - 52)).toNat ≤ 9007199254740992 := by
          rcases k3 with k3 | k3
          · omega
          · exact k3
        have a1 : ((place + L - 52) + 1).toNat = 0 := by omega
        rw [a1, Nat.pow_zero, Nat.mul_one]
        have a2 : (-(place + L - 52)).toNat = (-((place + L - 52) + 1)).toNat + 1 := by omega
        rw [a2, Nat.pow_succ, ← Nat.mul_assoc] at k4
        generalize n * 2 ^ (-((place + L - 52) + 1)).toNat = X at k4 ⊢
        omega

theorem big_fl (n : Int) (h : 9007199254740992 ≤ n.natAbs) : AtLeast (decide (n < 0)) (floatOfInt .f64 n) 9007199254740992 := by
  rw [fl_eq]
  exact nearest_ge _ _ _ _ (by decide) (Nat.le_refl _) (by simpa using h)

theorem read_zero : double.read 0 = .number false 0 (-1074) := by decide
theorem read_one : double.read 4607182418800017408 = .number false 4503599627370496 (-52) := by decide

/-- A number's amount at a lower place. -/
theorem at_base (m : Nat) (e base : Int) (h : base ≤ e) (n : Nat) (hn : n * 2 ^ (-e).toNat ≤ m * 2 ^ e.toNat) (hb : base ≤ 0) : n * 2 ^ (-base).toNat ≤ m * 2 ^ (e - base).toNat := by
  by_cases he : 0 ≤ e
  · have a1 : (-e).toNat = 0 := by omega
    rw [a1, Nat.pow_zero, Nat.mul_one] at hn
    have a2 : (e - base).toNat = e.toNat + (-base).toNat := by omega
    rw [a2, Nat.pow_add, ← Nat.mul_assoc]
    exact Nat.mul_le_mul_right _ hn
  · have a1 : e.toNat = 0 := by omega
    rw [a1, Nat.pow_zero, Nat.mul_one] at hn
    have a2 : (-base).toNat = (-e).toNat + (e - base).toNat := by omega
    rw [a2, Nat.pow_add, ← Nat.mul_assoc]
    exact Nat.mul_le_mul_right _ hn

theorem big_sub_zero (s : Bool) (b n : Nat) (h0 : 0 < n) (h1 : n ≤ 9007199254740992) (h : AtLeast s b n) : ∃ r, floatBits .sub .f64 b 0 = some r ∧ AtLeast s r n := by
  show ∃ r, double.sub b 0 = some r ∧ AtLeast s r n
  unfold Format.sub
  rw [read_zero]
  rcases h with h | ⟨m, e, h, hv⟩
  · rw [h]
    exact ⟨_, rfl, .inl (by cases s <;> decide)⟩
  · rw [h]
    unfold Datum.opposite Datum.sum
    simp only [Option.map_some, Format.write]
    refine ⟨_, rfl, ?_⟩
    obtain ⟨base, hbase⟩ : ∃ base, min e (-1074) = base := ⟨_, rfl⟩
    rw [hbase]
    have hz : signed (!false) 0 (-1074 - base).toNat = 0 := by simp [signed]
    rw [hz, Int.add_zero]
    have hv' := at_base m e base (by omega) n hv (by omega)
    have hpos : 0 < m * 2 ^ (e - base).toNat := Nat.lt_of_lt_of_le (Nat.mul_pos h0 (Nat.two_pow_pos _)) hv'
    have hs : signed s m (e - base).toNat = if s then -((m * 2 ^ (e - base).toNat : Nat) : Int) else ((m * 2 ^ (e - base).toNat : Nat) : Int) := by
      unfold signed; rw [Nat.shiftLeft_eq]
    rw [hs]
    generalize m * 2 ^ (e - base).toNat = X at hv' hpos
    have hne : (if s then -((X : Nat) : Int) else ((X : Nat) : Int)) ≠ 0 := by cases s <;> simp <;> omega
    rw [if_neg hne]
    have hsg : decide ((if s then -((X : Nat) : Int) else ((X : Nat) : Int)) < 0) = s := by cases s <;> simp <;> omega
    have hab : (if s then -((X : Nat) : Int) else ((X : Nat) : Int)).natAbs = X := by cases s <;> simp
    rw [hsg, hab]
    refine nearest_ge _ _ _ _ h0 h1 ?_
    have a1 : base.toNat = 0 := by omega
    rw [a1, Nat.pow_zero, Nat.mul_one]
    exact hv'

theorem big_sub_one (b n : Nat) (h0 : 1 < n) (h1 : n ≤ 9007199254740992) (h : AtLeast false b n) : ∃ r, floatBits .sub .f64 b 4607182418800017408 = some r ∧ AtLeast false r (n - 1) := by
  show ∃ r, double.sub b 4607182418800017408 = some r ∧ AtLeast false r (n - 1)
  unfold Format.sub
  rw [read_one]
  rcases h with h | ⟨m, e, h, hv⟩
  · rw [h]
    exact ⟨_, rfl, .inl (by decide)⟩
  · rw [h]
    unfold Datum.opposite Datum.sum
    simp only [Option.map_some, Format.write]
    refine ⟨_, rfl, ?_⟩
    obtain ⟨base, hbase⟩ : ∃ base, min e (-52) = base := ⟨_, rfl⟩
    rw [hbase]
    have hb0 : base ≤ -52 := by omega
    have hz : signed (!false) 4503599627370496 (-52 - base).toNat = -((2 ^ (-base).toNat : Nat) : Int) := by
      unfold signed
      rw [Nat.shiftLeft_eq, ← two52, ← Nat.pow_add]
      simp only [Bool.not_false, if_true]
      rw [show 52 + (-52 - base).toNat = (-base).toNat by omega]
    have hs : signed false m (e - base).toNat = ((m * 2 ^ (e - base).toNat : Nat) : Int) := by
      unfold signed; rw [Nat.shiftLeft_eq]; simp
    rw [hz, hs]
    have hv' := at_base m e base (by omega) n hv (by omega)
    have hp := Nat.two_pow_pos (-base).toNat
    generalize m * 2 ^ (e - base).toNat = X at hv'
    have hle : (n - 1) * 2 ^ (-base).toNat + 2 ^ (-base).toNat ≤ X := by
      have : (n - 1) * 2 ^ (-base).toNat + 2 ^ (-base).toNat = n * 2 ^ (-base).toNat := by
        rw [← Nat.succ_mul]; congr 1; omega
      rw [this]; exact hv'
    have hpos : 0 < (n - 1) * 2 ^ (-base).toNat := Nat.mul_pos (by omega) hp
    have a1 : base.toNat = 0 := by omega
    generalize hY : 2 ^ (-base).toNat = Y at hle hp hpos
    have hne : ((X : Nat) : Int) + -((Y : Nat) : Int) ≠ 0 := by omega
    rw [if_neg hne]
    have hsg : decide (((X : Nat) : Int) + -((Y : Nat) : Int) < 0) = false := decide_eq_false (by omega)
    have hab : (((X : Nat) : Int) + -((Y : Nat) : Int)).natAbs = X - Y := by omega
    rw [hsg, hab]
    refine nearest_ge _ _ _ _ (by omega) (by omega) ?_
    rw [a1, Nat.pow_zero, Nat.mul_one, hY]
    omega

theorem big_order_gt (b n : Nat) (c : Nat) (hc : c < n) (hc2 : c < 9007199254740992) (h : AtLeast false b n) : double.order b (floatOfInt .f64 (c : Int)) = some .gt := by
  obtain ⟨f, hf⟩ := fl_rep (c : Int) (by simpa using hc2)
  unfold Format.order
  rw [hf]
  rcases h with h | ⟨m, e, h, hv⟩
  · rw [h]; rfl
  · rw [h]
    unfold Datum.order
    simp only
    obtain ⟨base, hbase⟩ : ∃ base, min e (-(f : Int)) = base := ⟨_, rfl⟩
    rw [hbase]
    have hv' := at_base m e base (by omega) n hv (by omega)
    have hs : signed false m (e - base).toNat = ((m * 2 ^ (e - base).toNat : Nat) : Int) := by
      unfold signed; rw [Nat.shiftLeft_eq]; simp
    rw [hs, signed_val (c : Int) f _ (-base).toNat (by omega)]
    have h2 : c * 2 ^ (-base).toNat < m * 2 ^ (e - base).toNat := Nat.lt_of_lt_of_le (Nat.mul_lt_mul_of_pos_right hc (Nat.two_pow_pos _)) hv'
    have h3 : (c : Int) * 2 ^ (-base).toNat < ((m * 2 ^ (e - base).toNat : Nat) : Int) := by exact_mod_cast h2
    congr 1
    simp only [compare, compareOfLessAndEq]
    rw [if_neg (Int.not_lt.2 (Int.le_of_lt h3)), if_neg (Int.ne_of_gt h3)]

theorem big_order_lt (b n : Nat) (hn : 0 < n) (h : AtLeast true b n) : double.order b 0 = some .lt := by
  unfold Format.order
  rw [read_zero]
  rcases h with h | ⟨m, e, h, hv⟩
  · rw [h]; rfl
  · rw [h]
    unfold Datum.order
    simp only
    obtain ⟨base, hbase⟩ : ∃ base, min e (-1074) = base := ⟨_, rfl⟩
    rw [hbase]
    have hv' := at_base m e base (by omega) n hv (by omega)
    have hpos : 0 < m * 2 ^ (e - base).toNat := Nat.lt_of_lt_of_le (Nat.mul_pos hn (Nat.two_pow_pos _)) hv'
    have hs : signed true m (e - base).toNat = -((m * 2 ^ (e - base).toNat : Nat) : Int) := by
      unfold signed; rw [Nat.shiftLeft_eq]; simp
    have hz : signed false 0 (-1074 - base).toNat = 0 := by simp [signed]
    rw [hs, hz]
    generalize m * 2 ^ (e - base).toNat = X at hpos
    congr 1
    have h3 : -((X : Nat) : Int) < 0 := by omega
    simp only [compare, compareOfLessAndEq]
    rw [if_pos h3]
end Go.Proofs.Ytagjeckgfjddmaa
