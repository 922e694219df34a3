import Derived.Test.YtmjojahkbjlcdaaDoorProg
import Derived.Test.YtmjojahkbjlcdaaDoorX3
import Derived.Test.YtmjojahkbjlcdaaDoorX4
import Derived.WalkKit
import Derived.WalkLawsBesides
import Derived.WalkSpells
import Derived.Outline
import Derived.Lib.Walk
import Derived.Lib.Hide
import Derived.RegionTactic
import Derived.LoopTactic
import Derived.Below
import Derived.IntWalk
import Derived.Deep.QuietTactic
import Derived.BigQuiet
import Derived.Test.YtmjojahkbjlcdaaDoorG70
import Derived.Test.YtmjojahkbjlcdaaDoorG69
namespace Go.Proofs.YtmjojahkbjlcdaaDoor
set_option linter.unusedSimpArgs false
set_option linter.unusedVariables false
set_option maxRecDepth 100000
open Go.RowKit

/- What a tree's own text is read as matches what the tree matches, and is no greater. -/
theorem fOf_lt {u v : Nat → Int} (h : ∀ i, i < 4 → u i = v i) (c : Nat) (hc : c < 256) : fOf u c = fOf v c := by
  unfold fOf
  rw [h (c / 64) (by omega)]
theorem okU_none : ∀ i, i < 4 → rdU noS i = u0 i := by
  have h := rdU_is okU_u0
  have e : fOf u0 = noS := by funext b; simp [fOf, u0, noS]
  rw [e] at h
  exact h
theorem lg_set (u : Nat → Int) (w : List UInt8) : Lg (setT u) w ↔ ∃ c, w = [c] ∧ fOf u c.toNat = true := by
  unfold setT
  rw [Lg]
  simp only [show ¬ ((2 : Int) = 0) by decide, show ¬ ((2 : Int) = 1) by decide, if_false, if_true]
theorem lg_mk3 (u : Nat → Int) (ps : List RT) (w : List UInt8) : Lg (.mk 3 u ps) w ↔ LgR ps w := by
  rw [Lg]
  simp only [show ¬ ((3 : Int) = 0) by decide, show ¬ ((3 : Int) = 1) by decide, show ¬ ((3 : Int) = 2) by decide, if_false, if_true]
theorem lg_mk4 (u : Nat → Int) (ps : List RT) (w : List UInt8) : Lg (.mk 4 u ps) w ↔ LgC ps w := by
  rw [Lg]
  simp only [show ¬ ((4 : Int) = 0) by decide, show ¬ ((4 : Int) = 1) by decide, show ¬ ((4 : Int) = 2) by decide, show ¬ ((4 : Int) = 3) by decide, if_false, if_true]
theorem lgR_one (t : RT) (w : List UInt8) : LgR [t] w ↔ Lg t w := by
  rw [LgR]
  constructor
  · rintro ⟨a, b, rfl, h1, h2⟩
    rw [LgR] at h2
    subst h2
    simpa using h1
  · intro h
    exact ⟨w, [], by simp, h, by rw [LgR]⟩
theorem lgC_one (t : RT) (w : List UInt8) : LgC [t] w ↔ Lg t w := by
  rw [LgC, LgC]; simp
theorem lg_join3 {ts : List RT} (h : 1 ≤ ts.length) (w : List UInt8) : Lg (joinT 3 ts) w ↔ LgR ts w := by
  match ts, h with
  | [t], _ => exact (lgR_one t w).symm
  | a :: b :: ts, _ => exact lg_mk3 u0 _ w
theorem lg_join4 {ts : List RT} (h : 1 ≤ ts.length) (w : List UInt8) : Lg (joinT 4 ts) w ↔ LgC ts w := by
  match ts, h with
  | [t], _ => exact (lgC_one t w).symm
  | a :: b :: ts, _ => exact lg_mk4 u0 _ w
mutual
theorem rd_lg : ∀ (t : RT), mfT t → okT t → ∀ w, Lg (rdT t) w ↔ Lg t w
  | .mk k u ps, hm, ho, w => by
    rw [mfT] at hm
    rw [okT] at ho
    have hR := rdL_lg ps hm.2 ho.2
    rcases hm.1 with ⟨rfl | rfl | rfl, rfl⟩ | ⟨rfl | rfl, hl⟩ | ⟨hk, hl⟩
    · rw [rd_0, lg_set, Lg, if_pos rfl]
      constructor
      · rintro ⟨c, _, h⟩
        rw [fOf_lt okU_none c.toNat c.toNat_lt] at h
        simp [fOf, u0] at h
      · intro h; exact h.elim
    · rw [rd_1, Lg, Lg]
      simp only [show ¬ ((1 : Int) = 0) by decide, if_false, if_true]
    · rw [rd_2, lg_set, show RT.mk 2 u [] = setT u from rfl, lg_set]
      constructor
      · rintro ⟨c, h1, h⟩
        exact ⟨c, h1, by rw [← fOf_lt (rdU_is (ho.1 rfl)) c.toNat c.toNat_lt]; exact h⟩
      · rintro ⟨c, h1, h⟩
        exact ⟨c, h1, by rw [fOf_lt (rdU_is (ho.1 rfl)) c.toNat c.toNat_lt]; exact h⟩
    · rw [rd_3, lg_join3 (by rw [rdL_len]; exact hl), lg_mk3]
      exact hR.1 w
    · rw [rd_4, lg_join4 (by rw [rdL_len]; exact hl), lg_mk4]
      exact hR.2.1 w
    · rw [rd_5 hk]
      have he : LgH (rdL ps) = LgH ps := by
        funext x
        exact propext (hR.2.2 x)
      rw [Lg, Lg, he]
      rcases hk with rfl | rfl | rfl <;> simp
theorem rdL_lg : ∀ (ts : List RT), mfL ts → okL ts → (∀ w, LgR (rdL ts) w ↔ LgR ts w) ∧ (∀ w, LgC (rdL ts) w ↔ LgC ts w) ∧ ∀ w, LgH (rdL ts) w ↔ LgH ts w
  | [], _, _ => by rw [rdL]; exact ⟨fun _ => Iff.rfl, fun _ => Iff.rfl, fun _ => Iff.rfl⟩
  | t :: ts, hm, ho => by
    rw [mfL] at hm
    rw [okL] at ho
    have h1 := rd_lg t hm.1 ho.1
    have h2 := rdL_lg ts hm.2 ho.2
    rw [rdL]
    refine ⟨fun w => ?_, fun w => ?_, fun w => ?_⟩
    · rw [LgR, LgR]
      constructor
      · rintro ⟨a, b, e, ha, hb⟩
        exact ⟨a, b, e, (h1 a).1 ha, (h2.1 b).1 hb⟩
      · rintro ⟨a, b, e, ha, hb⟩
        exact ⟨a, b, e, (h1 a).2 ha, (h2.1 b).2 hb⟩
    · rw [LgC, LgC, h1 w, h2.2.1 w]
    · rw [LgH, LgH, h1 w]
end
theorem join_sz (k : Int) {ts : List RT} (h : 1 ≤ ts.length) : sz (joinT k ts) ≤ szL ts + 1 ∧ dep (joinT k ts) ≤ depL ts + 1 := by
  match ts, h with
  | [t], _ =>
    show sz t ≤ szL [t] + 1 ∧ dep t ≤ depL [t] + 1
    simp only [szL, depL]; omega
  | a :: b :: ts, _ =>
    show sz (.mk k u0 (a :: b :: ts)) ≤ _ ∧ dep (.mk k u0 (a :: b :: ts)) ≤ _
    simp only [sz, dep]; omega
mutual
theorem rd_sz : ∀ (t : RT), mfT t → sz (rdT t) ≤ sz t ∧ dep (rdT t) ≤ dep t
  | .mk k u ps, hm => by
    rw [mfT] at hm
    have hR := rdL_sz ps hm.2
    rcases hm.1 with ⟨rfl | rfl | rfl, rfl⟩ | ⟨rfl | rfl, hl⟩ | ⟨hk, hl⟩
    · rw [rd_0]; unfold setT; simp only [sz, szL, dep, depL]; omega
    · rw [rd_1]; simp only [rdL, sz, szL, dep, depL]; omega
    · rw [rd_2]; unfold setT; simp only [sz, szL, dep, depL]; omega
    · rw [rd_3]
      have := join_sz 3 (ts := rdL ps) (by rw [rdL_len]; exact hl)
      simp only [sz, dep]; omega
    · rw [rd_4]
      have := join_sz 4 (ts := rdL ps) (by rw [rdL_len]; exact hl)
      simp only [sz, dep]; omega
    · rw [rd_5 hk]
      simp only [sz, dep]; omega
theorem rdL_sz : ∀ (ts : List RT), mfL ts → szL (rdL ts) ≤ szL ts ∧ depL (rdL ts) ≤ depL ts
  | [], _ => by rw [rdL]; exact ⟨Nat.le_refl _, Nat.le_refl _⟩
  | t :: ts, hm => by
    rw [mfL] at hm
    have h1 := rd_sz t hm.1
    have h2 := rdL_sz ts hm.2
    rw [rdL]
    simp only [szL, depL]; omega
end
end Go.Proofs.YtmjojahkbjlcdaaDoor
