/- The first and the last leaf of a tree. -/
import Derived.Test.YtagjeckgfjddmaaJoin
import Derived.Deep.LoopGhost
namespace Go.Proofs.Ytagjeckgfjddmaa
set_option linter.unusedSimpArgs false
set_option linter.unusedVariables false
open Go.RowKit

theorem Rep.leafOf {w : World} {t : T} (h : Rep w t) {x : Lf} (hx : x ∈ t.leaves) : Rep w (.leaf x.1 x.2) := by
  induction t with
  | leaf b s => simp [T.leaves] at hx; subst hx; exact h
  | fork b l r hl hr =>
    simp only [T.leaves, List.mem_append] at hx
    rcases hx with hx | hx
    · exact hl h.2.1 hx
    · exact hr h.2.2 hx

theorem last_any (t : T) (x : Lf) (p : List Lf) (w : World) (h : Rep w t) (hx : t.leaves = p ++ [x]) :
    Calls Try.prog 74 #[ptr t.blk] w fun e w' => e = .returned (ptr x.1) ∧ w = w' := by
  have h' := Lib.hid h
  have hx' := Lib.hid hx
  clear h hx
  go_enter Try.func74, Try.ntmps74
  go_wp2_with fail
  go_loopg [0] t.hgt (fun k v wr => wr = w ∧ ∃ u : T, u.hgt ≤ k ∧ v = ptr u.blk ∧ Rep w u ∧ ∃ p, u.leaves = p ++ [x])
  case atStart => exact ⟨rfl, t, Nat.le_refl _, rfl, h'.out, _, hx'.out⟩
  case round =>
    obtain ⟨rfl, u, hu, rfl, hr, p', hp⟩ := hrel
    have hp' := Lib.hid hp
    clear hp
    cases u with
    | leaf b s =>
      obtain ⟨a0, a1, a2, a3, a4, a5, a6, az⟩ := hr.1
      have eb : (T.leaf b s).blk = b := rfl
      go_wp2
      go_ret
      have := hp'.out
      simp only [T.leaves] at this
      have h2 := congrArg List.getLast? this
      simp at h2
      exact ⟨by rw [← h2]; rfl, rfl⟩
    | fork b l r =>
      obtain ⟨⟨a0, a1, a2, a3, a4, a5, a6, az⟩, hl, hr⟩ := hr
      have hr' := Lib.hid hr
      clear hl hr
      have eb : (T.fork b l r).blk = b := rfl
      go_wp2
      go_roundg r.hgt
      case measure => simp only [T.hgt] at hu; omega
      case rel =>
        refine ⟨rfl, r, Nat.le_refl _, rfl, hr'.out, ?_⟩
        have h2 := hp'.out
        simp only [T.leaves] at h2
        rcases List.eq_nil_or_concat r.leaves with h3 | ⟨q, z, h3⟩
        · exact absurd h3 r.leaves_ne
        · rw [h3, List.concat_eq_append] at h2 ⊢
          have := congrArg List.getLast? h2
          simp at this
          exact ⟨q, by rw [this]⟩
theorem first_any (t : T) (x : Lf) (p : List Lf) (w : World) (h : Rep w t) (hx : t.leaves = x :: p) :
    Calls Try.prog 75 #[ptr t.blk] w fun e w' => e = .returned (ptr x.1) ∧ w = w' := by
  have h' := Lib.hid h
  have hx' := Lib.hid hx
  clear h hx
  go_enter Try.func75, Try.ntmps75
  go_wp2_with fail
  go_loopg [0] t.hgt (fun k v wr => wr = w ∧ ∃ u : T, u.hgt ≤ k ∧ v = ptr u.blk ∧ Rep w u ∧ ∃ p, u.leaves = x :: p)
  case atStart => exact ⟨rfl, t, Nat.le_refl _, rfl, h'.out, _, hx'.out⟩
  case round =>
    obtain ⟨rfl, u, hu, rfl, hr, p', hp⟩ := hrel
    have hp' := Lib.hid hp
    clear hp
    cases u with
    | leaf b s =>
      obtain ⟨a0, a1, a2, a3, a4, a5, a6, az⟩ := hr.1
      have eb : (T.leaf b s).blk = b := rfl
      go_wp2
      go_ret
      have := hp'.out
      simp only [T.leaves] at this
      have h2 := congrArg List.head? this
      simp at h2
      exact ⟨by rw [← h2]; rfl, rfl⟩
    | fork b l r =>
      obtain ⟨⟨a0, a1, a2, a3, a4, a5, a6, az⟩, hl, hr⟩ := hr
      have hl' := Lib.hid hl
      clear hl hr
      have eb : (T.fork b l r).blk = b := rfl
      go_wp2
      go_roundg l.hgt
      case measure => simp only [T.hgt] at hu; omega
      case rel =>
        refine ⟨rfl, l, Nat.le_refl _, rfl, hl'.out, ?_⟩
        have h2 := hp'.out
        simp only [T.leaves] at h2
        cases h3 : l.leaves with
        | nil => exact absurd h3 l.leaves_ne
        | cons z q =>
          rw [h3] at h2
          simp at h2
          exact ⟨q, by rw [h2.1]⟩
end Go.Proofs.Ytagjeckgfjddmaa
