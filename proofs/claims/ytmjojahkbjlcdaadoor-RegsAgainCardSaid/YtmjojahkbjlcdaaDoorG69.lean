import Derived.Test.YtmjojahkbjlcdaaDoorProg
import Derived.Test.YtmjojahkbjlcdaaDoorX3
import Derived.Test.YtmjojahkbjlcdaaDoorX4
import Derived.WalkKit
import Derived.WalkLawsBesides
import Derived.WalkSpells
import Derived.Outline
import Derived.Lib.Walk
import Derived.Lib.Hide
import Derived.RegionTactic
import Derived.LoopTactic
import Derived.Below
import Derived.IntWalk
import Derived.Deep.QuietTactic
import Derived.BigQuiet
import Derived.Test.YtmjojahkbjlcdaaDoorG67
import Derived.Test.YtmjojahkbjlcdaaDoorG68
namespace Go.Proofs.YtmjojahkbjlcdaaDoor
set_option linter.unusedSimpArgs false
set_option linter.unusedVariables false
set_option maxRecDepth 100000
open Go.RowKit

/- RegsAgain, whatever it is called with. -/
theorem lgH_one (t : RT) : LgH [t] = Lg t := by funext w; rw [LgH]
theorem lg_5 (t : RT) (w : List UInt8) : Lg (.mk 5 u0 [t]) w ↔ Sta (Lg t) w := by
  rw [Lg]
  simp only [show ¬ ((5 : Int) = 0) by decide, show ¬ ((5 : Int) = 1) by decide, show ¬ ((5 : Int) = 2) by decide, show ¬ ((5 : Int) = 3) by decide, show ¬ ((5 : Int) = 4) by decide, if_false, if_true, lgH_one]
theorem lg_6 (t : RT) (w : List UInt8) : Lg (.mk 6 u0 [t]) w ↔ ∃ a b, w = a ++ b ∧ Lg t a ∧ Sta (Lg t) b := by
  rw [Lg]
  simp only [show ¬ ((6 : Int) = 0) by decide, show ¬ ((6 : Int) = 1) by decide, show ¬ ((6 : Int) = 2) by decide, show ¬ ((6 : Int) = 3) by decide, show ¬ ((6 : Int) = 4) by decide, show ¬ ((6 : Int) = 5) by decide, if_false, if_true, lgH_one]
theorem lg_7 (t : RT) (w : List UInt8) : Lg (.mk 7 u0 [t]) w ↔ w = [] ∨ Lg t w := by
  rw [Lg]
  simp only [show ¬ ((7 : Int) = 0) by decide, show ¬ ((7 : Int) = 1) by decide, show ¬ ((7 : Int) = 2) by decide, show ¬ ((7 : Int) = 3) by decide, show ¬ ((7 : Int) = 4) by decide, show ¬ ((7 : Int) = 5) by decide, show ¬ ((7 : Int) = 6) by decide, if_false, lgH_one]
theorem lg_1 (w : List UInt8) : Lg (.mk 1 u0 []) w ↔ w = [] := by
  rw [Lg]
  simp only [show ¬ ((1 : Int) = 0) by decide, if_false, if_true]
theorem lg_cat2 (t1 t2 : RT) (w : List UInt8) : Lg (.mk 3 u0 [t1, t2]) w ↔ ∃ a b, w = a ++ b ∧ Lg t1 a ∧ Lg t2 b := by
  rw [lg_two]
  constructor
  · rintro ⟨i, _, h1, h2⟩
    exact ⟨_, _, (List.take_append_drop i w).symm, h1, h2⟩
  · rintro ⟨a, b, rfl, h1, h2⟩
    exact ⟨a.length, by simp, by simpa using h1, by simpa using h2⟩
theorem check_mk {t : RT} (h1 : sz t ≤ 512) (h2 : dep t ≤ 16) (h3 : mayB t = true) : checkE t = 0 := by
  unfold checkE
  rw [if_neg (by omega), if_neg (by omega), if_pos h3]
theorem mat_iff {a b : RT} (ha : checkE a = 0) (hb : checkE b = 0) {x : List UInt8} (h : Lg a x ↔ Lg b x) : matB a x = matB b x := by
  have k1 := checkE_ok ha
  have k2 := checkE_ok hb
  rw [Bool.eq_iff_iff, matB_ok k1.1 k1.2.1, matB_ok k2.1 k2.2.1, h]
theorem again_any {t : RT} (s : ByteArray) {w : World} {ka : Int} {ua : Nat → Int} {pa : Option Addr} {na ca : Nat} (hw0 : 0 < w.heap.size) (hT : Tb w) (V1 : RV (fun b => b < w.heap.size) w t (.agg (nodeC ka ua (.slice pa na ca)))) (o1 : okT t) (d1 : wid t ≤ 9223372036854775806) :
    Calls Tryd.prog 10 #[.agg #[.int .i64 ka, .int .u64 (ua 0), .int .u64 (ua 1), .int .u64 (ua 2), .int .u64 (ua 3), .slice pa na ca], .string s] w fun e w' => e = .returned (.bool true) ∧ Below w.heap.size w w' := by
  rw [← bs_list5 s]
  generalize s.data.toList = x
  by_cases h3 : 80 < x.length
  · exact again_long hw0 hT V1 o1 d1 h3
  · by_cases q1 : 80 < sz t
    · exact again_big hw0 hT V1 o1 d1 (by omega) (by simpa using q1)
    · have q1' : decide (80 < sz t) = false := by simpa using q1
      have O1 : okT (.mk 6 u0 [t]) := ok_one (by decide) o1
      have O5 : okT (.mk 5 u0 [t]) := ok_one (by decide) o1
      have O2 : okT (.mk 3 u0 [t, .mk 5 u0 [t]]) := ok_two (by decide) o1 O5
      have O3 : okT (.mk 7 u0 [t]) := ok_one (by decide) o1
      have O4 : okT (.mk 4 u0 [t, .mk 1 u0 []]) := ok_two (by decide) o1 (by rw [okT, okL]; exact ⟨fun e => absurd e (by decide), trivial⟩)
      have O6 : okT (.mk 7 u0 [.mk 6 u0 [t]]) := ok_one (by decide) O1
      have D1 : wid (.mk 6 u0 [t]) ≤ 9223372036854775806 := wid_one d1
      have D5 : wid (.mk 5 u0 [t]) ≤ 9223372036854775806 := wid_one d1
      have D2 : wid (.mk 3 u0 [t, .mk 5 u0 [t]]) ≤ 9223372036854775806 := wid_two d1 D5
      have D3 : wid (.mk 7 u0 [t]) ≤ 9223372036854775806 := wid_one d1
      have D4 : wid (.mk 4 u0 [t, .mk 1 u0 []]) ≤ 9223372036854775806 := wid_two d1 (by simp [wid, widL])
      have D6 : wid (.mk 7 u0 [.mk 6 u0 [t]]) ≤ 9223372036854775806 := wid_one D1
      have hz : zeroU u0 = true := by decide
      by_cases c2 : checkE (.mk 3 u0 [t, .mk 5 u0 [t]]) = 0
      · by_cases c6 : checkE (.mk 7 u0 [.mk 6 u0 [t]]) = 0
        · obtain ⟨a1, a2, a3⟩ := checkE_ok c2
          have hm : mayB t = true := by
            simp only [mayB.eq_1 3, mayL.eq_2 t, Bool.and_eq_true] at a1
            exact a1.2.1
          simp only [sz, szL] at a2
          simp only [dep, depL] at a3
          have b1 : checkE (.mk 6 u0 [t]) = 0 := check_mk (by simp only [sz, szL]; omega) (by simp only [dep, depL]; omega) (by simp [mayB, mayL, fitsB, hm, hz])
          have b3 : checkE (.mk 7 u0 [t]) = 0 := check_mk (by simp only [sz, szL]; omega) (by simp only [dep, depL]; omega) (by simp [mayB, mayL, fitsB, hm, hz])
          have b4 : checkE (.mk 4 u0 [t, .mk 1 u0 []]) = 0 := check_mk (by simp only [sz, szL]; omega) (by simp only [dep, depL]; omega) (by simp [mayB, mayL, fitsB, hm, hz])
          have b5 : checkE (.mk 5 u0 [t]) = 0 := check_mk (by simp only [sz, szL]; omega) (by simp only [dep, depL]; omega) (by simp [mayB, mayL, fitsB, hm, hz])
          have e2 : matB (.mk 3 u0 [t, .mk 5 u0 [t]]) x = matB (.mk 6 u0 [t]) x := mat_iff c2 b1 (by
            rw [lg_cat2, lg_6]
            simp only [lg_5])
          have e4 : matB (.mk 4 u0 [t, .mk 1 u0 []]) x = matB (.mk 7 u0 [t]) x := mat_iff b4 b3 (by
            rw [lg_or, lg_7, lg_1]
            exact Or.comm)
          have e6 : matB (.mk 7 u0 [.mk 6 u0 [t]]) x = matB (.mk 5 u0 [t]) x := mat_iff c6 b5 (by
            rw [lg_7, lg_6, lg_5]
            constructor
            · rintro (rfl | ⟨a, b, rfl, h1, h2⟩)
              · exact .nil
              · exact .app h1 h2
            · intro h
              cases h with
              | nil => exact .inl rfl
              | app h1 h2 => exact .inr ⟨_, _, rfl, h1, h2⟩)
          exact again_ok hw0 hT V1 o1 d1 (by omega) q1' O1 D1 O2 D2 O3 D3 O4 D4 O5 D5 O6 D6 (match_ok b1 (by omega)) (by rw [match_ok c2 (by omega), e2]) (match_ok b3 (by omega)) (by rw [match_ok b4 (by omega), e4]) (match_ok b5 (by omega)) (by rw [match_ok c6 (by omega), e6])
        · exact again_err hw0 hT V1 o1 d1 (by omega) q1' O1 D1 O2 D2 O3 D3 O4 D4 O5 D5 O6 D6 rfl (match_ok c2 (by omega)) rfl rfl rfl (mtP_err c6) (.inr ⟨rfl, by rw [bne_iff_ne]; exact c6⟩)
      · exact again_err hw0 hT V1 o1 d1 (by omega) q1' O1 D1 O2 D2 O3 D3 O4 D4 O5 D5 O6 D6 rfl (mtP_err c2) rfl rfl rfl rfl (.inl (by rw [bne_iff_ne]; exact c2))
end Go.Proofs.YtmjojahkbjlcdaaDoor
