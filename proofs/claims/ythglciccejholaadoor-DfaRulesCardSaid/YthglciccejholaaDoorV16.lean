/- Texts of package regs, one behind the other. -/
import Derived.Test.YthglciccejholaaDoorProg
import Derived.Test.YthglciccejholaaDoorRG40
import Derived.Test.YthglciccejholaaDoorV9
import Derived.WalkKit
import Derived.WalkLawsBesides
import Derived.WalkSpells
import Derived.Outline
import Derived.Lib.Walk
import Derived.Lib.Hide
import Derived.RegionTactic
import Derived.LoopTactic
import Derived.Below
import Derived.IntWalk
import Derived.Deep.QuietTactic
import Derived.BigQuiet
import Derived.Test.YthglciccejholaaDoorV3
import Derived.BigFrame
import Derived.WalkMore
import Derived.ScopeJumps
import Derived.StillTailTactics
import Derived.Stop.BytesEq
import Derived.Lib.Slices
import Derived.Lib.Strings
import Derived.Deep.MidRow
import Derived.Maps.AppendAt
import Derived.Laws.Rows
import Derived.Laws.Tables
import Derived.Deep.WholeRow
import Derived.Deep.Cut
import Derived.Deep.CutRange
import Derived.Lib.SliceRun
import Derived.Laws.MakeOwn
import Derived.Deep.RegionLaw
import Derived.Deep.RegionLawGrows
import Derived.Deep.RegionHeld3
import Derived.RegionCalls
import Derived.Deep.RegionWith
import Derived.Deep.Light
import Derived.Laws.CopyOwn
import Derived.Laws.ResultCell
import Derived.RangeFuncNested
import Derived.RangeFuncBound
import Derived.RangeFuncCalls
import Derived.RangeFuncLeaves
import Derived.RangeFuncBox
import Derived.Shelf.Abstract
import Derived.Shelf.RegionOpen
import Derived.OwnWalkIn
import Derived.TacticsInMore
import Derived.LoopNIn
import Derived.LoopIn
section
/- Package regs: the reader's small steps: what comes next. -/
namespace Go.Proofs.YthglciccejholaaDoor.R5
set_option linter.unusedSimpArgs false
set_option linter.unusedVariables false
set_option maxRecDepth 100000
open Go.RowKit

theorem lay_any {b : Nat} {D : Nat → Prop} (hD : ∀ z, D z → z < b) : ∀ (n : Nat) (t : RT), dep t ≤ n → mayB t = true → okT t → LP b D t
  | 0, .mk k u ps, hn, _, _ => by simp [dep] at hn
  | n + 1, .mk k u ps, hn, hm, hok => by
    have h1 : depL ps ≤ n := by simp only [dep] at hn; omega
    rw [mayB, Bool.and_eq_true, Bool.and_eq_true] at hm
    rw [okT] at hok
    have hI : ∀ i (hi : i < ps.length), LP b D ps[i] := fun i hi =>
      lay_any hD n ps[i] (by have := depL_get ps i hi; omega) (mayL_get ps i hi hm.2) (okL_get ps i hi hok.2)
    have hk := fits_kind hm.1.1
    have hok1 := hok.1
    clear hm hok h1 hn
    refine Lib.hid fun N w v hnet hsz hv => ?_
    simp only [sz] at hsz
    have hL : N.n + szL ps ≤ 512 := by omega
    rcases hk with rfl | rfl | rfl | rfl | rfl | ⟨rfl, hl⟩ | ⟨rfl, hl⟩ | ⟨rfl, hl⟩
    · have e : layN (.mk 0 u ps) N = (N, ⟨false, noS, noS⟩) := by rw [layN]; simp
      rw [e]; exact lay_0 hnet hD hv
    · have e : layN (.mk 1 u ps) N = (N, ⟨true, noS, noS⟩) := by rw [layN]; simp
      rw [e]; exact lay_1 hnet hD hv
    · have e : layN (.mk 2 u ps) N = (N.spot (fOf u), ⟨false, oneS N.n, oneS N.n⟩) := by rw [layN]; simp
      rw [e]; exact lay_2 hnet hD hv (hok1 rfl) (by omega)
    · have e : layN (.mk 3 u ps) N = rowN ps N ⟨true, noS, noS⟩ := by rw [layN]; simp
      rw [e]; exact lay_3 hnet hD hv hL hI
    · have e : layN (.mk 4 u ps) N = choN ps N ⟨false, noS, noS⟩ := by rw [layN]; simp
      rw [e]; exact lay_4 hnet hD hv hL hI
    · have g := lay_5 hnet hD hv hl hL hI _ _ rfl
      have e : layN (.mk 5 u ps) N = ((layN (ps[0]'(by omega)) N).1.link (layN (ps[0]'(by omega)) N).2.l (layN (ps[0]'(by omega)) N).2.f, ⟨(layN (ps[0]'(by omega)) N).2.e || true, (layN (ps[0]'(by omega)) N).2.f, (layN (ps[0]'(by omega)) N).2.l⟩) := by
        rw [layN]
        match ps, hl with
        | [t], _ => simp [lupN]
      rw [e]; exact g
    · have g := lay_6 hnet hD hv hl hL hI _ _ rfl
      have e : layN (.mk 6 u ps) N = ((layN (ps[0]'(by omega)) N).1.link (layN (ps[0]'(by omega)) N).2.l (layN (ps[0]'(by omega)) N).2.f, ⟨(layN (ps[0]'(by omega)) N).2.e || false, (layN (ps[0]'(by omega)) N).2.f, (layN (ps[0]'(by omega)) N).2.l⟩) := by
        rw [layN]
        match ps, hl with
        | [t], _ => simp [lupN]
      rw [e]; exact g
    · have g := lay_7 hnet hD hv hl hL hI _ _ rfl
      have e : layN (.mk 7 u ps) N = ((layN (ps[0]'(by omega)) N).1, ⟨(layN (ps[0]'(by omega)) N).2.e || true, (layN (ps[0]'(by omega)) N).2.f, (layN (ps[0]'(by omega)) N).2.l⟩) := by
        rw [layN]
        match ps, hl with
        | [t], _ => simp [lupN]
      rw [e]; exact g
/-- The lowest bit taken away. -/
theorem low_off (x : Nat) (hx : x ≠ 0) (hx2 : x < 18446744073709551616) : x.testBit (Lib.ctz 64 x) = true ∧ Lib.ctz 64 x < 64 ∧ ∀ j, (x &&& (x - 1)).testBit j = (x.testBit j && !(j == Lib.ctz 64 x)) := by
  have hc : Lib.ctz 64 x = Lib.ctzFrom 64 x := by simp [Lib.ctz, hx]
  obtain ⟨m, hm, hlt⟩ := Lib.ctzFrom_spec 64 x (by omega) (by rw [p64]; exact hx2)
  rw [← hc] at hm hlt
  generalize Lib.ctz 64 x = c at *
  have hxb : ∀ j, x.testBit j = (decide (j ≥ c) && (2 * m + 1).testBit (j - c)) := fun j => by rw [hm, Nat.testBit_two_pow_mul]
  have hpos : 0 < 2 ^ c := Nat.pow_pos (by omega)
  have hx1 : x - 1 = 2 ^ (c + 1) * m + (2 ^ c - 1) := by
    rw [hm, Nat.pow_succ, Nat.mul_add, Nat.mul_one]
    have : 2 ^ c * (2 * m) = 2 ^ c * 2 * m := by rw [Nat.mul_assoc]
    omega
  have hy : ∀ j, (x - 1).testBit j = if j < c + 1 then (2 ^ c - 1).testBit j else m.testBit (j - (c + 1)) := fun j => by
    rw [hx1, Nat.testBit_two_pow_mul_add _ (by rw [Nat.pow_succ]; omega)]
  refine ⟨by rw [hxb]; simp [Nat.testBit_zero], hlt, fun j => ?_⟩
  rw [Nat.testBit_and, hy, hxb]
  by_cases h1 : j < c
  · have : ¬ c ≤ j := by omega
    simp [this]
  · by_cases h2 : j = c
    · subst h2
      rw [if_pos (by omega), Nat.testBit_two_pow_sub_one]
      simp
    · rw [if_neg (by omega)]
      have e : j - c = (j - (c + 1)) + 1 := by omega
      have hb : (2 * m + 1).testBit (j - c) = m.testBit (j - (c + 1)) := by
        rw [e, Nat.testBit_succ]; congr 1; omega
      rw [hb]
      have h3 : (j == c) = false := by simp [h2]
      rw [h3]
      cases m.testBit (j - (c + 1)) <;> simp
/-- What may match behind what some matched. -/
def nxS (N : Net) (S : Nat → Bool) : Nat → Bool := fun j => (List.range 512).any fun i => S i && N.beh i j
/-- The same of those i that are done. -/
def nxD (N : Net) (S : Nat → Bool) (d : Nat → Bool) : Nat → Bool := fun j => (List.range 512).any fun i => S i && d i && N.beh i j
/-- Which are done, when x of the word k is left. -/
def dn (k x : Nat) (i : Nat) : Bool := decide (i < 64 * k) || (decide (i < 64 * (k + 1)) && !x.testBit (i - 64 * k))
theorem nxD_congr {N : Net} {S d e : Nat → Bool} (h : ∀ i, i < 512 → S i = true → d i = e i) : nxD N S d = nxD N S e := by
  funext j
  unfold nxD
  rw [Bool.eq_iff_iff, List.any_eq_true, List.any_eq_true]
  constructor
  · rintro ⟨i, hi, hp⟩
    simp only [Bool.and_eq_true] at hp
    exact ⟨i, hi, by simp only [Bool.and_eq_true]; exact ⟨⟨hp.1.1, by rw [← h i (List.mem_range.1 hi) hp.1.1]; exact hp.1.2⟩, hp.2⟩⟩
  · rintro ⟨i, hi, hp⟩
    simp only [Bool.and_eq_true] at hp
    exact ⟨i, hi, by simp only [Bool.and_eq_true]; exact ⟨⟨hp.1.1, by rw [h i (List.mem_range.1 hi) hp.1.1]; exact hp.1.2⟩, hp.2⟩⟩
theorem nxD_none (N : Net) (S : Nat → Bool) : nxD N S (fun _ => false) = noS := by
  funext j; simp [nxD, noS]
theorem nxD_all (N : Net) (S : Nat → Bool) : nxD N S (fun i => decide (i < 512)) = nxS N S := by
  funext j
  unfold nxD nxS
  rw [Bool.eq_iff_iff, List.any_eq_true, List.any_eq_true]
  constructor
  · rintro ⟨i, hi, hp⟩
    simp only [Bool.and_eq_true] at hp
    exact ⟨i, hi, by simp [hp.1.1, hp.2]⟩
  · rintro ⟨i, hi, hp⟩
    simp only [Bool.and_eq_true] at hp
    exact ⟨i, hi, by simp [hp.1, hp.2, List.mem_range.1 hi]⟩
theorem nxD_more {N : Net} {S d e : Nat → Bool} {q : Nat} (hq : q < 512) (hS : S q = true) (h : ∀ i, e i = (d i || i == q)) : nxD N S e = orS (nxD N S d) (N.beh q) := by
  funext j
  unfold nxD orS
  rw [Bool.eq_iff_iff, List.any_eq_true, Bool.or_eq_true, List.any_eq_true]
  constructor
  · rintro ⟨i, hi, hp⟩
    simp only [Bool.and_eq_true, h, Bool.or_eq_true, beq_iff_eq] at hp
    rcases hp.1.2 with hd | rfl
    · exact .inl ⟨i, hi, by simp [hp.1.1, hd, hp.2]⟩
    · exact .inr hp.2
  · rintro (⟨i, hi, hp⟩ | hp)
    · simp only [Bool.and_eq_true] at hp
      exact ⟨i, hi, by simp [h, hp.1.1, hp.1.2, hp.2]⟩
    · exact ⟨q, List.mem_range.2 hq, by simp [h, hS, hp]⟩
end Go.Proofs.YthglciccejholaaDoor.R5
end
section
/- Package dfa. -/
namespace Go.Proofs.YthglciccejholaaDoor
set_option linter.unusedSimpArgs false
set_option linter.unusedVariables false
set_option maxRecDepth 100000
open Go.RowKit
/- A set's states, rising. -/
theorem filt_gap {f : Nat → Bool} {a : Nat} : ∀ (b : Nat), a ≤ b → (∀ j, a ≤ j → j < b → f j = false) → (List.range b).filter f = (List.range a).filter f
  | 0, h, _ => by obtain rfl : a = 0 := by omega
                  rfl
  | b + 1, h, hj => by
    by_cases e : a = b + 1
    · subst e; rfl
    · rw [List.range_succ, List.filter_append, filt_gap b (by omega) (fun j h1 h2 => hj j h1 (by omega))]
      simp [hj b (by omega) (by omega)]
theorem filt_snoc {f : Nat → Bool} {c : Nat} (h : f c = true) : (List.range (c + 1)).filter f = (List.range c).filter f ++ [c] := by
  rw [List.range_succ, List.filter_append]; simp [h]
theorem ctz_low {x : Nat} (hx : x ≠ 0) (hx2 : x < 18446744073709551616) : ∀ j, j < Lib.ctz 64 x → x.testBit j = false := by
  have hc : Lib.ctz 64 x = Lib.ctzFrom 64 x := by simp [Lib.ctz, hx]
  obtain ⟨m, hm, hlt⟩ := Lib.ctzFrom_spec 64 x (by omega) hx2
  rw [← hc] at hm hlt
  generalize Lib.ctz 64 x = c at *
  intro j hj
  rw [hm, Nat.testBit_two_pow_mul]
  have : ¬ c ≤ j := by omega
  simp [this]
/-- What of word k is left from bit p on. -/
def Lf (f : Nat → Bool) (k p X : Nat) : Prop := X < 18446744073709551616 ∧ ∀ j, j < 64 → X.testBit j = (f (64 * k + j) && decide (p ≤ j))
theorem Lf.start (f : Nat → Bool) (k : Nat) : Lf f k 0 (W f k) := ⟨W_lt f k, fun j hj => by rw [W_test f k j hj]; simp⟩
theorem Lf.zero {f : Nat → Bool} {k p : Nat} (h : Lf f k p 0) (hp : p ≤ 64) : (List.range (64 * (k + 1))).filter f = (List.range (64 * k + p)).filter f := by
  refine filt_gap _ (by omega) fun j h1 h2 => ?_
  have := h.2 (j - 64 * k) (by omega)
  rw [Nat.zero_testBit, show 64 * k + (j - 64 * k) = j by omega] at this
  have hd : decide (p ≤ j - 64 * k) = true := by simp; omega
  rw [hd, Bool.and_true] at this
  exact this.symm
theorem Lf.next {f : Nat → Bool} {k p X : Nat} (h : Lf f k p X) (hX : X ≠ 0) : Lib.ctz 64 X < 64 ∧ f (64 * k + Lib.ctz 64 X) = true ∧ (List.range (64 * k + (Lib.ctz 64 X + 1))).filter f = (List.range (64 * k + p)).filter f ++ [64 * k + Lib.ctz 64 X] ∧ Lf f k (Lib.ctz 64 X + 1) (X &&& (X - 1)) := by
  obtain ⟨h1, h2, h3⟩ := R5.low_off X hX h.1
  have h4 := ctz_low hX h.1
  generalize Lib.ctz 64 X = c at *
  have hb := h.2 c h2
  rw [h1] at hb
  have hf : f (64 * k + c) = true := by
    cases hh : f (64 * k + c)
    · rw [hh] at hb; simp at hb
    · rfl
  have hp : p ≤ c := by rw [hf] at hb; simpa using hb.symm
  refine ⟨h2, hf, ?_, Nat.lt_of_le_of_lt Nat.and_le_left h.1, fun j hj => ?_⟩
  · rw [← Nat.add_assoc, filt_snoc hf]
    congr 1
    refine filt_gap _ (by omega) fun j g1 g2 => ?_
    have e := h.2 (j - 64 * k) (by omega)
    rw [h4 _ (by omega), show 64 * k + (j - 64 * k) = j by omega] at e
    have hd : decide (p ≤ j - 64 * k) = true := by simp; omega
    rw [hd, Bool.and_true] at e
    exact e.symm
  · rw [h3, h.2 j hj]
    by_cases hjc : j < c
    · have e := h4 j hjc
      rw [h.2 j hj] at e
      rw [e]
      have : decide (c + 1 ≤ j) = false := by simp; omega
      rw [this]; simp
    · by_cases e : j = c
      · subst e; simp
      · have e1 : decide (p ≤ j) = true := by simp; omega
        have e2 : decide (c + 1 ≤ j) = true := by simp; omega
        have e3 : (j == c) = false := by simp [e]
        rw [e1, e2, e3]; simp
end Go.Proofs.YthglciccejholaaDoor
end
section
/- Package dfa. -/
namespace Go.Proofs.YthglciccejholaaDoor
set_option linter.unusedSimpArgs false
set_option linter.unusedVariables false
set_option maxRecDepth 100000
open Go.RowKit Go.Shelf
/- each. -/
set_option maxHeartbeats 8000000 in
theorem each_in {n b o : Nat} {f : Nat → Bool} (l : Nat) (J : List Nat → World → Prop) (hS : ∀ pre W, J pre W → SW W b o f) (hT : ∀ pre W, J pre W → R5.Tb W) (hD : ∀ pre W, J pre W → J pre W.drew)
    (hY : ∀ pre x W, J pre W → x < 4096 → f x = true → YieldAt Fence.wide (n - 1) Tryd.prog l #[.int .i64 (x : Nat)] W fun e W' => e = .returned (.bool true) ∧ J (pre ++ [x]) W')
    (Wd : World) (h0 : J [] Wd) :
    CallsIn Fence.wide n Tryd.prog 119 #[.pointer (some ⟨b, o, none⟩),   .func (.yield l) #[] #[]] Wd fun e W' => (∃ v, e = .returned v) ∧ J ((List.range 4096).filter f) W' := by
  have HS := Lib.hid hS
  have HT := Lib.hid hT
  have HD := Lib.hid hD
  have HY := Lib.hid hY
  have H0 := Lib.hid h0
  clear hS hT hD hY h0
  refine callsIn_of_wp Tryd.func119 rfl trivial ?_ rfl
  simp only [Tryd.ntmps119, List.size_toArray, List.length_cons, List.length_nil, Nat.reduceAdd, Nat.reduceSub, Array.replicate_succ, Array.replicate_zero, List.push_toArray, List.append_toArray, List.nil_append, List.cons_append]
  gi_wp2
  gi_loopw [7] (fun i wr => ∃ k : Nat, i = .int .i64 (k : Nat) ∧ k ≤ 64 ∧ Hid (J ((List.range (64 * k)).filter f) wr)) (fun i _ => 64 - (intOf i).toNat)
  case atStart => exact ⟨0, rfl, by omega, by simpa using H0⟩
  case round =>
    clear H0
    obtain ⟨k, rfl, hk, HJ⟩ := hrel
    obtain ⟨wo, rfl⟩ : ∃ wo : World, wo = wr := ⟨_, rfl⟩
    by_cases hlt : k < 64
    · have hltI : (k : Int) < 64 := by omega
      have hkI : ¬ (k : Int) < 0 := by omega
      have hkI' : 0 ≤ (k : Int) := by omega
      have c1 := (HS.out _ _ HJ.out) k hlt
      have c1' : wo.drew.cell? ⟨b, o + k, none⟩ = some (.int .u64 (W f k)) := c1
      gi_wp2
      gi_region
      refine at_worldQ (fun z => J ((List.range (64 * k)).filter f) z) (HD.out _ _ HJ.out) fun z hz => ?_
      have HZ := Lib.hid hz
      clear hz HJ c1 c1'
      gi_wp2
      gi_loopw [5] (fun i wr => ∃ (p X : Nat), i = .int .u64 (X : Nat) ∧ p ≤ 64 ∧ Hid (Lf f k p X) ∧ Hid (J ((List.range (64 * k + p)).filter f) wr) ∧ X < 18446744073709551616) (fun i _ => (intOf i).toNat)
      case atStart => exact ⟨0, W f k, rfl, by omega, Lib.hid (Lf.start f k), by simpa using HZ, W_lt f k⟩
      case round =>
        clear HZ
        obtain ⟨p, X, rfl, hp, HL, HJ, hX⟩ := hrel
        obtain ⟨wo, rfl⟩ : ∃ wo : World, wo = wr := ⟨_, rfl⟩
        by_cases hX0 : X = 0
        · subst hX0
          have HJ2 : Hid (J ((List.range (64 * (k + 1))).filter f) wo) := Lib.hid (by rw [HL.out.zero hp]; exact HJ.out)
          clear HJ HL
          gi_wp2
          go_roundw
          case rel => exact ⟨k + 1, by go_num, by omega, HJ2⟩
          case measure => simp [intOf]; omega
        · obtain ⟨hc, hf, hpre, hnx⟩ := HL.out.next hX0
          have htz := Lib.hid (callsIn_wide.2 (R5.tz_any X hX hX0 wo (HT.out _ _ HJ.out)) : CallsIn Fence.wide (n - 1) Tryd.prog 114 #[.int .u64 X] wo _)
          generalize hcc : Lib.ctz 64 X = c at *
          have hXI : ¬ ((X : Int) = 0) := by omega
          have hy := HY.out _ (64 * k + c) wo HJ.out (by omega) hf
          rw [← hpre, show ((64 * k + c : Nat) : Int) = 64 * (k : Int) + (c : Int) by simp] at hy
          have hys := Lib.hid hy
          have hlow : X &&& (X - 1) < X := Nat.lt_of_le_of_lt Nat.and_le_right (by omega)
          have HL2 := Lib.hid hnx
          have hw := hnx.1
          clear hnx hy HL
          gi_wp2
          refine ⟨trivial, fun h => (by cases h), htz.out.mono ?_⟩
          rintro _ _ ⟨rfl, rfl⟩
          obtain ⟨fn, tmps, assign, body, hy, hR⟩ := hys.out
          have hRR := Lib.hid hR
          clear hR hys htz
          gi_wp2
          refine ⟨fun h => (by cases h), hRR.out.mono ?_⟩
          rintro _ W3 ⟨rfl, hJ3⟩
          have HJ3 := Lib.hid hJ3
          have hand := bits_and_u64_nat X (X - 1) hX (by omega)
          rw [show ((X - 1 : Nat) : Int) = (X : Int) - 1 by omega] at hand
          clear hJ3 hRR hy HJ
          gi_wp2
          go_roundw
          case rel => exact ⟨c + 1, X &&& (X - 1), by first | rfl | (rw [hand]), by omega, HL2, HJ3, hw⟩
          case measure => simp [intOf]; omega
    · obtain rfl : k = 64 := by omega
      gi_wp2
      go_end0
      exact ⟨⟨_, rfl⟩, HJ.out⟩
end Go.Proofs.YthglciccejholaaDoor
end
section
/- Package dfa. -/
namespace Go.Proofs.YthglciccejholaaDoor
set_option linter.unusedSimpArgs false
set_option linter.unusedVariables false
set_option maxRecDepth 100000
open Go.RowKit Go.Shelf
/- A range over each. -/
set_option maxHeartbeats 4000000 in
theorem range_each {n : Nat} {g : Operand} {p : Tmp} {assign body : Code} {Q : Exit → Act → World → Prop} {a : Act} {w : World} {b o : Nat} {f : Nat → Bool}
    (hg : a.eval g = .func (.func 119) #[.pointer (some ⟨b, o, none⟩)] #[]) (I : List Nat → World → Prop)
    (hS : ∀ pre W, I pre W → SW W b o f) (hT : ∀ pre W, I pre W → R5.Tb W) (hD : ∀ pre W, I pre W → I pre W.drew) (hI : OwnFrom w.heap.size I) (h0 : I [] w) (a₁ : Nat → Act)
    (hassign : ∀ (l x : Nat) (W : World) (K : Act → World → Prop), K (a₁ x) W →
      assign.wpIn (Fence.wide.inRound l) (n - 1 - 1) Tryd.prog (Exit.then K (fun _ _ _ => False)) { tmps := a.tmps.setIfInBounds p (.int .i64 (x : Nat)), defers := [] } W)
    (hbody : ∀ (l : Nat) (pre : List Nat) (x : Nat) (W : World), I pre W → x < 4096 → f x = true → body.wpIn (Fence.wide.inRound l) (n - 1 - 1) Tryd.prog (fun e _ W' => e = .normal ∧ KeepsFrom w.heap.size W W' ∧ I (pre ++ [x]) W') (a₁ x) W)
    (hdone : ∀ (D : Nat) (W : World), w.heap.size ≤ D → I ((List.range 4096).filter f) W → W.heap[D]? = some (.deferred (some [])) → Q .normal { a with defers := { target := .collected D, args := #[] } :: a.defers } W) :
    (Code.rangeFunc g #[p] assign body).wpIn Fence.wide n Tryd.prog Q a w := by
  refine wpIn_rangeFunc ?_
  intro fn hfn
  obtain ⟨rec, hrec⟩ : ∃ rec : LoopState → Option Code → Loop, rec = fun st pe => { state := st, pending := pe, fn, tmps := a.tmps, params := #[p], assign, body, defers := w.heap.size } := ⟨_, rfl⟩
  obtain ⟨W1, hW1⟩ : ∃ W1, (w.alloc (.deferred (some []))).alloc (.loop (rec .ready none)) = W1 := ⟨_, rfl⟩
  have hL1 : W1.heap[w.heap.size + 1]? = some (.loop (rec .ready none)) := by
    rw [← hW1]; have := World.alloc_heap_new (w.alloc (.deferred (some []))) (.loop (rec .ready none)); rwa [World.size_alloc] at this
  have hK1 : W1.heap[w.heap.size]? = some (.deferred (some [])) := by
    rw [← hW1]; exact (Below.heap_alloc _ _ _ (by simp)).trans (World.alloc_heap_new w _)
  have hI1 : I [] W1 := by rw [← hW1]; exact hI.alloc _ (hI.alloc _ h0)
  refine ⟨w.heap.size + 1, [{ target := .collected w.heap.size, args := #[] }], W1, { target := .fn (.func 119) #[], args := #[.pointer (some ⟨b, o, none⟩), .func (.yield (w.heap.size + 1)) #[] #[]] }, W1, 119,
    #[.pointer (some ⟨b, o, none⟩), .func (.yield (w.heap.size + 1)) #[] #[]], W1, ?_, ?_, ?_, ?_, fun h => (by cases h), ?_⟩
  · rw [← hW1, hrec]; exact run_enterLoop_outer _ _ _ _ _
  · simp only [resolve, hg]
    simp [go_sem]
  · intro f' hf'; trivial
  · simp [invoke, go_sem, enters_of Tryd.func119 (by kernel_rfl) rfl]
  · refine (each_in (w.heap.size + 1) (fun pre W => I pre W ∧ W.heap[w.heap.size + 1]? = some (.loop (rec .ready none)) ∧ W.heap[w.heap.size]? = some (.deferred (some []))) (fun pre W h => hS pre W h.1) (fun pre W h => hT pre W h.1) (fun pre W h => ⟨hD pre W h.1, h.2⟩) ?_ W1 ⟨hI1, hL1, hK1⟩).mono ?_
    · rintro pre x W ⟨hi, hl, hk⟩ hx hf
      have hlt : w.heap.size + 1 < W.heap.size := (Array.getElem?_eq_some_iff.1 hl).1
      have hy := run_yield (P := Tryd.prog) (args := #[.int .i64 (x : Nat)]) hl (by rw [hrec]; rfl)
      rw [hrec] at hy
      refine ⟨fn, _, assign, body, hy, roundIn_of_wpIn hfn ?_⟩
      have ha := hassign (w.heap.size + 1) x W
      have hl2 : (W.putObj (w.heap.size + 1) (.loop { rec .ready none with state := .busy })).heap[w.heap.size + 1]? = some (.loop { rec .ready none with state := .busy }) := World.putObj_heap_same hlt
      have hk2 : (W.putObj (w.heap.size + 1) (.loop { rec .ready none with state := .busy })).heap[w.heap.size]? = some (.deferred (some [])) := (World.putObj_heap_other (by omega)).trans hk
      have ez : ((#[p] : Array Tmp).zip #[Value.int .i64 (x : Nat)]).foldl (fun t (z : Tmp × Value) => t.setIfInBounds z.1 z.2) a.tmps = a.tmps.setIfInBounds p (.int .i64 (x : Nat)) := by simp
      show assign.wpIn _ _ _ _ { tmps := ((#[p] : Array Tmp).zip #[Value.int .i64 (x : Nat)]).foldl (fun t (z : Tmp × Value) => t.setIfInBounds z.1 z.2) a.tmps, defers := [] } W
      rw [ez]
      refine ha _ ⟨_, run_beginRound hl (by rw [hrec]), wpIn_mono (hbody (w.heap.size + 1) pre x _ (hI.putObj _ hi (by omega) hl rfl) hx hf) ?_⟩
      · rintro e a3 W3 ⟨rfl, hk3, hi3⟩
        have hl3 := hk3.same _ _ (by omega) hl2 rfl
        have hr := run_endRound (P := Tryd.prog) none hl3
        rw [hrec] at hr hl3
        refine ⟨_, _, hr, rfl, hI.putObj _ hi3 (by omega) hl3 rfl, ?_, (World.putObj_heap_other (by omega)).trans (hk3.same _ _ (Nat.le_refl _) hk2 rfl)⟩
        rw [hrec]
        exact World.putObj_heap_same (Array.getElem?_eq_some_iff.1 hl3).1
    · rintro e W2 ⟨⟨v, rfl⟩, hi, hl, hk⟩
      exact ⟨none, _, by have := run_endLoop (P := Tryd.prog) hl (by rw [hrec]; simp); rw [hrec] at this; exact this, hdone _ _ (Nat.le_refl _) (hI.putObj _ hi (by omega) hl rfl) ((World.putObj_heap_other (by omega)).trans hk)⟩
end Go.Proofs.YthglciccejholaaDoor
end
