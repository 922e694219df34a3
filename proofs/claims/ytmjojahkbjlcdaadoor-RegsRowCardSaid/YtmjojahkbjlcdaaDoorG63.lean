import Derived.Test.YtmjojahkbjlcdaaDoorProg
import Derived.Test.YtmjojahkbjlcdaaDoorX3
import Derived.Test.YtmjojahkbjlcdaaDoorX4
import Derived.WalkKit
import Derived.WalkLawsBesides
import Derived.WalkSpells
import Derived.Outline
import Derived.Lib.Walk
import Derived.Lib.Hide
import Derived.RegionTactic
import Derived.LoopTactic
import Derived.Below
import Derived.IntWalk
import Derived.Deep.QuietTactic
import Derived.BigQuiet
import Derived.Test.YtmjojahkbjlcdaaDoorG62
namespace Go.Proofs.YtmjojahkbjlcdaaDoor
set_option linter.unusedSimpArgs false
set_option linter.unusedVariables false
set_option maxRecDepth 100000
open Go.RowKit

/- RegsRow, whatever it is called with. -/
theorem bs_list5 (s : ByteArray) : bs s.data.toList = s := by
  cases s; simp [bs]
theorem cat_two (s1 s2 : ByteArray) : ((⟨#[40]⟩ ++ s1 ++ ⟨#[41, 40]⟩ ++ s2 ++ ⟨#[41]⟩ : ByteArray)).data.toList = 40 :: (s1.data.toList ++ 41 :: 40 :: (s2.data.toList ++ [41])) := by
  simp [ByteArray.data_append]
theorem cat_or (s1 s2 : ByteArray) : ((⟨#[40]⟩ ++ s1 ++ ⟨#[41, 124, 40]⟩ ++ s2 ++ ⟨#[41]⟩ : ByteArray)).data.toList = 40 :: (s1.data.toList ++ 41 :: 124 :: 40 :: (s2.data.toList ++ [41])) := by
  simp [ByteArray.data_append]
theorem cat_two_sz (s1 s2 : ByteArray) : ((⟨#[40]⟩ ++ s1 ++ ⟨#[41, 40]⟩ ++ s2 ++ ⟨#[41]⟩ : ByteArray)).size = s1.size + s2.size + 4 := by
  simp only [ByteArray.size_append]
  show 1 + s1.size + 2 + s2.size + 1 = _
  omega
theorem cat_or_sz (s1 s2 : ByteArray) : ((⟨#[40]⟩ ++ s1 ++ ⟨#[41, 124, 40]⟩ ++ s2 ++ ⟨#[41]⟩ : ByteArray)).size = s1.size + s2.size + 5 := by
  simp only [ByteArray.size_append]
  show 1 + s1.size + 3 + s2.size + 1 = _
  omega
theorem two_mat {t1 t2 : RT} (c : checkE (.mk 3 u0 [t1, t2]) = 0) (c1 : checkE t1 = 0) (c2 : checkE t2 = 0) (x : List UInt8) : matB (.mk 3 u0 [t1, t2]) x = pty t1 t2 x (x.length + 1) := by
  have k := checkE_ok c
  have k1 := checkE_ok c1
  have k2 := checkE_ok c2
  rw [Bool.eq_iff_iff, matB_ok k.1 k.2.1, lg_two, pty_true]
  constructor
  · rintro ⟨i, hi, h1, h2⟩
    exact ⟨i, by omega, (matB_ok k1.1 k1.2.1 _).2 h1, (matB_ok k2.1 k2.2.1 _).2 h2⟩
  · rintro ⟨i, hi, h1, h2⟩
    exact ⟨i, by omega, (matB_ok k1.1 k1.2.1 _).1 h1, (matB_ok k2.1 k2.2.1 _).1 h2⟩
theorem or_mat {t1 t2 : RT} (c : checkE (.mk 4 u0 [t1, t2]) = 0) (c1 : checkE t1 = 0) (c2 : checkE t2 = 0) (x : List UInt8) : matB (.mk 4 u0 [t1, t2]) x = (matB t1 x || matB t2 x) := by
  have k := checkE_ok c
  have k1 := checkE_ok c1
  have k2 := checkE_ok c2
  rw [Bool.eq_iff_iff, matB_ok k.1 k.2.1, lg_or, Bool.or_eq_true, matB_ok k1.1 k1.2.1, matB_ok k2.1 k2.2.1]
theorem row_any (s1 s2 s3 : ByteArray) (w : World) (hw0 : 0 < w.heap.size) (hT : Tb w) :
    Calls Tryd.prog 12 #[.string s1, .string s2, .string s3] w fun e w' => e = .returned (.bool true) ∧ Below w.heap.size w w' := by
  by_cases hl : 40 < s1.size ∨ 40 < s2.size ∨ 40 < s3.size
  · exact row_long hl
  · obtain ⟨⟨t1, m1, E1⟩, e1⟩ : ∃ p, prsR s1.data.toList = p := ⟨_, rfl⟩
    obtain ⟨⟨t2, m2, E2⟩, e2⟩ : ∃ p, prsR s2.data.toList = p := ⟨_, rfl⟩
    obtain ⟨⟨t3, m3, E3⟩, e3⟩ : ∃ p, prsR (⟨#[40]⟩ ++ s1 ++ ⟨#[41, 40]⟩ ++ s2 ++ ⟨#[41]⟩ : ByteArray).data.toList = p := ⟨_, rfl⟩
    obtain ⟨⟨t4, m4, E4⟩, e4⟩ : ∃ p, prsR (⟨#[40]⟩ ++ s1 ++ ⟨#[41, 124, 40]⟩ ++ s2 ++ ⟨#[41]⟩ : ByteArray).data.toList = p := ⟨_, rfl⟩
    have P1 := prs_hid s1 (by omega) e1
    have P2 := prs_hid s2 (by omega) e2
    have P3 := prs_hid _ (by rw [cat_two_sz]; omega) e3
    have P4 := prs_hid _ (by rw [cat_or_sz]; omega) e4
    by_cases h1 : E1 = 0
    · by_cases h2 : E2 = 0
      · subst h1 h2
        obtain ⟨w1, d1, _, _⟩ := prs_ok e1
        obtain ⟨w2, d2, _, _⟩ := prs_ok e2
        have l1 : s1.data.toList.length = s1.size := Array.length_toList
        have l2 : s2.data.toList.length = s2.size := Array.length_toList
        have w3 := whole_two w1 w2
        have w4 := whole_or w1 w2
        rw [← cat_two] at w3
        rw [← cat_or] at w4
        have l3 : (⟨#[40]⟩ ++ s1 ++ ⟨#[41, 40]⟩ ++ s2 ++ ⟨#[41]⟩ : ByteArray).data.toList.length = s1.size + s2.size + 4 := by rw [Array.length_toList]; exact cat_two_sz s1 s2
        have l4 : (⟨#[40]⟩ ++ s1 ++ ⟨#[41, 124, 40]⟩ ++ s2 ++ ⟨#[41]⟩ : ByteArray).data.toList.length = s1.size + s2.size + 5 := by rw [Array.length_toList]; exact cat_or_sz s1 s2
        have p3 := prs_of w3 (by omega)
        have p4 := prs_of w4 (by omega)
        rw [e3] at p3
        rw [e4] at p4
        by_cases hd : 16 < dep (.mk 3 u0 [t1, t2])
        · have hd4 : 16 < dep (.mk 4 u0 [t1, t2]) := hd
          rw [if_pos hd] at p3
          rw [if_pos hd4] at p4
          simp only [Prod.mk.injEq] at p3 p4
          exact row_err (by omega) (by omega) (by omega) hw0 hT P1 P2 P3 P4 (.inr (.inr ⟨rfl, rfl, .inl ⟨p3.2.2, .inr p4.2.2⟩⟩))
        · have hd4 : ¬ 16 < dep (.mk 4 u0 [t1, t2]) := hd
          rw [if_neg hd] at p3
          rw [if_neg hd4] at p4
          simp only [Prod.mk.injEq] at p3 p4
          obtain ⟨rfl, rfl, rfl⟩ := p3
          obtain ⟨rfl, rfl, rfl⟩ := p4
          have k1 := gd_check w1 (by omega) d1
          have k2 := gd_check w2 (by omega) d2
          have k3 := gd_check w3 (by omega) (by omega)
          have k4 := gd_check w4 (by omega) (by omega)
          have l5 : s3.data.toList.length = s3.size := Array.length_toList
          have := rowb_ok (x := s3.data.toList) (by omega) (by omega) (by omega) hw0 hT P1 P2 P3 P4 k1 k2 k3 k4 (two_mat k3.1 k1.1 k2.1 _) (or_mat k4.1 k1.1 k2.1 _)
          rwa [bs_list5] at this
      · exact row_err (by omega) (by omega) (by omega) hw0 hT P1 P2 P3 P4 (.inr (.inl ⟨h1, by rw [bne_iff_ne]; exact h2⟩))
    · exact row_err (by omega) (by omega) (by omega) hw0 hT P1 P2 P3 P4 (.inl (by rw [bne_iff_ne]; exact h1))
end Go.Proofs.YtmjojahkbjlcdaaDoor
