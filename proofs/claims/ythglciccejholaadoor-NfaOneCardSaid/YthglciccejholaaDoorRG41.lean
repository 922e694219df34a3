/- Package regs: the reader's small steps: what comes next. -/
import Derived.Test.YthglciccejholaaDoorProg
import Derived.Test.YthglciccejholaaDoorRG40
import Derived.Test.YthglciccejholaaDoorY15
import Derived.WalkKit
import Derived.WalkLawsBesides
import Derived.WalkSpells
import Derived.Outline
import Derived.Lib.Walk
import Derived.Lib.Hide
import Derived.RegionTactic
import Derived.LoopTactic
import Derived.Below
import Derived.IntWalk
import Derived.Deep.QuietTactic
import Derived.BigQuiet
namespace Go.Proofs.YthglciccejholaaDoor.R5
set_option linter.unusedSimpArgs false
set_option linter.unusedVariables false
set_option maxRecDepth 100000
open Go.RowKit

theorem lay_any {b : Nat} {D : Nat → Prop} (hD : ∀ z, D z → z < b) : ∀ (n : Nat) (t : RT), dep t ≤ n → mayB t = true → okT t → LP b D t
  | 0, .mk k u ps, hn, _, _ => by simp [dep] at hn
  | n + 1, .mk k u ps, hn, hm, hok => by
    have h1 : depL ps ≤ n := by simp only [dep] at hn; omega
    rw [mayB, Bool.and_eq_true, Bool.and_eq_true] at hm
    rw [okT] at hok
    have hI : ∀ i (hi : i < ps.length), LP b D ps[i] := fun i hi =>
      lay_any hD n ps[i] (by have := depL_get ps i hi; omega) (mayL_get ps i hi hm.2) (okL_get ps i hi hok.2)
    have hk := fits_kind hm.1.1
    have hok1 := hok.1
    clear hm hok h1 hn
    refine Lib.hid fun N w v hnet hsz hv => ?_
    simp only [sz] at hsz
    have hL : N.n + szL ps ≤ 512 := by omega
    rcases hk with rfl | rfl | rfl | rfl | rfl | ⟨rfl, hl⟩ | ⟨rfl, hl⟩ | ⟨rfl, hl⟩
    · have e : layN (.mk 0 u ps) N = (N, ⟨false, noS, noS⟩) := by rw [layN]; simp
      rw [e]; exact lay_0 hnet hD hv
    · have e : layN (.mk 1 u ps) N = (N, ⟨true, noS, noS⟩) := by rw [layN]; simp
      rw [e]; exact lay_1 hnet hD hv
    · have e : layN (.mk 2 u ps) N = (N.spot (fOf u), ⟨false, oneS N.n, oneS N.n⟩) := by rw [layN]; simp
      rw [e]; exact lay_2 hnet hD hv (hok1 rfl) (by omega)
    · have e : layN (.mk 3 u ps) N = rowN ps N ⟨true, noS, noS⟩ := by rw [layN]; simp
      rw [e]; exact lay_3 hnet hD hv hL hI
    · have e : layN (.mk 4 u ps) N = choN ps N ⟨false, noS, noS⟩ := by rw [layN]; simp
      rw [e]; exact lay_4 hnet hD hv hL hI
    · have g := lay_5 hnet hD hv hl hL hI _ _ rfl
      have e : layN (.mk 5 u ps) N = ((layN (ps[0]'(by omega)) N).1.link (layN (ps[0]'(by omega)) N).2.l (layN (ps[0]'(by omega)) N).2.f, ⟨(layN (ps[0]'(by omega)) N).2.e || true, (layN (ps[0]'(by omega)) N).2.f, (layN (ps[0]'(by omega)) N).2.l⟩) := by
        rw [layN]
        match ps, hl with
        | [t], _ => simp [lupN]
      rw [e]; exact g
    · have g := lay_6 hnet hD hv hl hL hI _ _ rfl
      have e : layN (.mk 6 u ps) N = ((layN (ps[0]'(by omega)) N).1.link (layN (ps[0]'(by omega)) N).2.l (layN (ps[0]'(by omega)) N).2.f, ⟨(layN (ps[0]'(by omega)) N).2.e || false, (layN (ps[0]'(by omega)) N).2.f, (layN (ps[0]'(by omega)) N).2.l⟩) := by
        rw [layN]
        match ps, hl with
        | [t], _ => simp [lupN]
      rw [e]; exact g
    · have g := lay_7 hnet hD hv hl hL hI _ _ rfl
      have e : layN (.mk 7 u ps) N = ((layN (ps[0]'(by omega)) N).1, ⟨(layN (ps[0]'(by omega)) N).2.e || true, (layN (ps[0]'(by omega)) N).2.f, (layN (ps[0]'(by omega)) N).2.l⟩) := by
        rw [layN]
        match ps, hl with
        | [t], _ => simp [lupN]
      rw [e]; exact g
/-- The lowest bit taken away. -/
theorem low_off (x : Nat) (hx : x ≠ 0) (hx2 : x < 18446744073709551616) : x.testBit (Lib.ctz 64 x) = true ∧ Lib.ctz 64 x < 64 ∧ ∀ j, (x &&& (x - 1)).testBit j = (x.testBit j && !(j == Lib.ctz 64 x)) := by
  have hc : Lib.ctz 64 x = Lib.ctzFrom 64 x := by simp [Lib.ctz, hx]
  obtain ⟨m, hm, hlt⟩ := Lib.ctzFrom_spec 64 x (by omega) (by rw [p64]; exact hx2)
  rw [← hc] at hm hlt
  generalize Lib.ctz 64 x = c at *
  have hxb : ∀ j, x.testBit j = (decide (j ≥ c) && (2 * m + 1).testBit (j - c)) := fun j => by rw [hm, Nat.testBit_two_pow_mul]
  have hpos : 0 < 2 ^ c := Nat.pow_pos (by omega)
  have hx1 : x - 1 = 2 ^ (c + 1) * m + (2 ^ c - 1) := by
    rw [hm, Nat.pow_succ, Nat.mul_add, Nat.mul_one]
    have : 2 ^ c * (2 * m) = 2 ^ c * 2 * m := by rw [Nat.mul_assoc]
    omega
  have hy : ∀ j, (x - 1).testBit j = if j < c + 1 then (2 ^ c - 1).testBit j else m.testBit (j - (c + 1)) := fun j => by
    rw [hx1, Nat.testBit_two_pow_mul_add _ (by rw [Nat.pow_succ]; omega)]
  refine ⟨by rw [hxb]; simp [Nat.testBit_zero], hlt, fun j => ?_⟩
  rw [Nat.testBit_and, hy, hxb]
  by_cases h1 : j < c
  · have : ¬ c ≤ j := by omega
    simp [this]
  · by_cases h2 : j = c
    · subst h2
      rw [if_pos (by omega), Nat.testBit_two_pow_sub_one]
      simp
    · rw [if_neg (by omega)]
      have e : j - c = (j - (c + 1)) + 1 := by omega
      have hb : (2 * m + 1).testBit (j - c) = m.testBit (j - (c + 1)) := by
        rw [e, Nat.testBit_succ]; congr 1; omega
      rw [hb]
      have h3 : (j == c) = false := by simp [h2]
      rw [h3]
      cases m.testBit (j - (c + 1)) <;> simp
/-- What may match behind what some matched. -/
def nxS (N : Net) (S : Nat → Bool) : Nat → Bool := fun j => (List.range 512).any fun i => S i && N.beh i j
/-- The same of those i that are done. -/
def nxD (N : Net) (S : Nat → Bool) (d : Nat → Bool) : Nat → Bool := fun j => (List.range 512).any fun i => S i && d i && N.beh i j
/-- Which are done, when x of the word k is left. -/
def dn (k x : Nat) (i : Nat) : Bool := decide (i < 64 * k) || (decide (i < 64 * (k + 1)) && !x.testBit (i - 64 * k))
theorem nxD_congr {N : Net} {S d e : Nat → Bool} (h : ∀ i, i < 512 → S i = true → d i = e i) : nxD N S d = nxD N S e := by
  funext j
  unfold nxD
  rw [Bool.eq_iff_iff, List.any_eq_true, List.any_eq_true]
  constructor
  · rintro ⟨i, hi, hp⟩
    simp only [Bool.and_eq_true] at hp
    exact ⟨i, hi, by simp only [Bool.and_eq_true]; exact ⟨⟨hp.1.1, by rw [← h i (List.mem_range.1 hi) hp.1.1]; exact hp.1.2⟩, hp.2⟩⟩
  · rintro ⟨i, hi, hp⟩
    simp only [Bool.and_eq_true] at hp
    exact ⟨i, hi, by simp only [Bool.and_eq_true]; exact ⟨⟨hp.1.1, by rw [h i (List.mem_range.1 hi) hp.1.1]; exact hp.1.2⟩, hp.2⟩⟩
theorem nxD_none (N : Net) (S : Nat → Bool) : nxD N S (fun _ => false) = noS := by
  funext j; simp [nxD, noS]
theorem nxD_all (N : Net) (S : Nat → Bool) : nxD N S (fun i => decide (i < 512)) = nxS N S := by
  funext j
  unfold nxD nxS
  rw [Bool.eq_iff_iff, List.any_eq_true, List.any_eq_true]
  constructor
  · rintro ⟨i, hi, hp⟩
    simp only [Bool.and_eq_true] at hp
    exact ⟨i, hi, by simp [hp.1.1, hp.2]⟩
  · rintro ⟨i, hi, hp⟩
    simp only [Bool.and_eq_true] at hp
    exact ⟨i, hi, by simp [hp.1, hp.2, List.mem_range.1 hi]⟩
theorem nxD_more {N : Net} {S d e : Nat → Bool} {q : Nat} (hq : q < 512) (hS : S q = true) (h : ∀ i, e i = (d i || i == q)) : nxD N S e = orS (nxD N S d) (N.beh q) := by
  funext j
  unfold nxD orS
  rw [Bool.eq_iff_iff, List.any_eq_true, Bool.or_eq_true, List.any_eq_true]
  constructor
  · rintro ⟨i, hi, hp⟩
    simp only [Bool.and_eq_true, h, Bool.or_eq_true, beq_iff_eq] at hp
    rcases hp.1.2 with hd | rfl
    · exact .inl ⟨i, hi, by simp [hp.1.1, hd, hp.2]⟩
    · exact .inr hp.2
  · rintro (⟨i, hi, hp⟩ | hp)
    · simp only [Bool.and_eq_true] at hp
      exact ⟨i, hi, by simp [h, hp.1.1, hp.1.2, hp.2]⟩
    · exact ⟨q, List.mem_range.2 hq, by simp [h, hS, hp]⟩
end Go.Proofs.YthglciccejholaaDoor.R5
