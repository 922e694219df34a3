/- Package grams. -/
import Derived.Test.YtpmkdpjcpimhkaaProg
import Derived.Test.YtpmkdpjcpimhkaaIj
import Derived.Test.YtpmkdpjcpimhkaaIi
import Derived.Deep.SlicePairs
import Derived.Deep.Slices
import Derived.Laws.IdiomArrays
import Derived.OpenShut
import Derived.WideBlind
import Derived.Great.BuildSlice
import Derived.WalkKit
import Derived.Maps.OwnSet
import Derived.Maps.OwnOps
import Derived.Maps.Own
import Derived.DeepKeys5
import Derived.BigFrame
import Derived.WalkMore
import Derived.ScopeJumps
import Derived.StillTailTactics
import Derived.Stop.BytesEq
import Derived.WalkLawsBesides
import Derived.WalkSpells
import Derived.Outline
import Derived.Lib.Walk
import Derived.Lib.Hide
import Derived.Lib.Slices
import Derived.Lib.Strings
import Derived.RegionTactic
import Derived.LoopTactic
import Derived.Below
import Derived.IntWalk
import Derived.Deep.QuietTactic
import Derived.BigQuiet
import Derived.Deep.MidRow
import Derived.Maps.AppendAt
import Derived.Laws.Rows
import Derived.Laws.Tables
import Derived.Deep.WholeRow
import Derived.Deep.Cut
import Derived.Deep.CutRange
import Derived.Lib.SliceRun
import Derived.Laws.MakeOwn
import Derived.Deep.RegionLaw
import Derived.Deep.RegionLawGrows
import Derived.Deep.RegionHeld3
import Derived.RegionCalls
import Derived.Deep.RegionWith
import Derived.Deep.Light
import Derived.Laws.CopyOwn
import Derived.Laws.ResultCell
namespace Go.Proofs.Ytpmkdpjcpimhkaa
set_option linter.unusedSimpArgs false
set_option linter.unusedVariables false
set_option maxRecDepth 100000
open Go.RowKit
/- The chapter's grammar: what it tells. -/
open Go.Maps
theorem gK_ps {p : Pr} (h : p ∈ gK.ps) : p = ⟨4, [4, 0, 5], false⟩ ∨ p = ⟨4, [5], false⟩ ∨ p = ⟨5, [1], false⟩ ∨ p = ⟨5, [2, 4, 3], false⟩ := by
  simpa [gK] using h
theorem kp1 : (⟨4, [4, 0, 5], false⟩ : Pr) ∈ gK.ps := by simp [gK]
theorem kp2 : (⟨4, [5], false⟩ : Pr) ∈ gK.ps := by simp [gK]
theorem kp3 : (⟨5, [1], false⟩ : Pr) ∈ gK.ps := by simp [gK]
theorem kp4 : (⟨5, [2, 4, 3], false⟩ : Pr) ∈ gK.ps := by simp [gK]
theorem bK_sound {s x : Int} (h : Beg gK s x) : (0 ≤ s ∧ s < 4 ∧ x = s) ∨ ((s = 4 ∨ s = 5) ∧ (x = 1 ∨ x = 2)) := by
  induction h with
  | tm h0 h1 => exact .inl ⟨h0, h1, rfl⟩
  | @go p y x l hp e h ih =>
    have hh : p.hd = 4 ∨ p.hd = 5 := by rcases gK_ps hp with rfl | rfl | rfl | rfl <;> simp
    have hy : y = 4 ∨ y = 5 ∨ y = 1 ∨ y = 2 := by
      rcases gK_ps hp with rfl | rfl | rfl | rfl
      · exact .inl (List.cons.inj e).1.symm
      · exact .inr (.inl (List.cons.inj e).1.symm)
      · exact .inr (.inr (.inl (List.cons.inj e).1.symm))
      · exact .inr (.inr (.inr (List.cons.inj e).1.symm))
    exact .inr ⟨hh, by omega⟩
theorem bK51 : Beg gK 5 1 := .go kp3 rfl (.tm (by decide) (by decide))
theorem bK52 : Beg gK 5 2 := .go kp4 rfl (.tm (by decide) (by decide))
theorem bK41 : Beg gK 4 1 := .go kp2 rfl bK51
theorem bK42 : Beg gK 4 2 := .go kp2 rfl bK52
theorem two_of {l1 l2 : List Int} {a b : Int} : ([5] : List Int) = l1 ++ a :: b :: l2 → False := fun e => by have := congrArg List.length e; simp at this; omega
theorem two_of' {l1 l2 : List Int} {a b : Int} : ([1] : List Int) = l1 ++ a :: b :: l2 → False := fun e => by have := congrArg List.length e; simp at this; omega
theorem three_of {x y z a b : Int} {l1 l2 : List Int} (e : [x, y, z] = l1 ++ a :: b :: l2) : (a = x ∧ b = y) ∨ (a = y ∧ b = z) := by
  rcases l1 with _ | ⟨c, _ | ⟨d, l1⟩⟩
  · simp at e; exact .inl ⟨e.1.symm, e.2.1.symm⟩
  · simp at e; exact .inr ⟨e.2.1.symm, e.2.2.1.symm⟩
  · have := congrArg List.length e; simp at this; omega
theorem last_of {l l1 : List Int} {a : Int} (e : l = l1 ++ [a]) : a = l.getLastD 0 := by rw [e]; simp
theorem fK_sound {s x : Int} (h : Fol gK s x) : ((s = 0 ∨ s = 2) ∧ (x = 1 ∨ x = 2)) ∨ ((s = 1 ∨ s = 3 ∨ s = 4 ∨ s = 5) ∧ (x = 0 ∨ x = 3 ∨ x = 4)) := by
  induction h with
  | fin => right; exact ⟨.inr (.inr (.inl rfl)), .inr (.inr rfl)⟩
  | nx hp e hb =>
    have hb := bK_sound hb
    rcases gK_ps hp with rfl | rfl | rfl | rfl <;> simp only at e
    · have := three_of e; omega
    · exact (two_of e).elim
    · exact (two_of' e).elim
    · have := three_of e; omega
  | last hp e h ih =>
    have hl := last_of e
    rcases gK_ps hp with rfl | rfl | rfl | rfl <;> simp at hl ih <;> omega
theorem fK44 : Fol gK 4 4 := .fin
theorem fK40 : Fol gK 4 0 := .nx (l1 := []) kp1 rfl (.tm (by decide) (by decide))
theorem fK43 : Fol gK 4 3 := .nx (l1 := [2]) kp4 rfl (.tm (by decide) (by decide))
theorem fK5 {x : Int} (h : Fol gK 4 x) : Fol gK 5 x := .last (l1 := []) kp2 rfl h
theorem one_of {p : Pr} {b : Int} (hp : p ∈ gK.ps) (e : p.bd = [b]) : (p.hd = 4 ∧ b = 5) ∨ (p.hd = 5 ∧ b = 1) := by
  rcases gK_ps hp with rfl | rfl | rfl | rfl
  · have := congrArg List.length e; simp at this
  · exact .inl ⟨rfl, (List.cons.inj e).1.symm⟩
  · exact .inr ⟨rfl, (List.cons.inj e).1.symm⟩
  · have := congrArg List.length e; simp at this
theorem rK_sound {s x : Int} (h : Rnd gK s x) : (s = 4 ∧ (x = 5 ∨ x = 1)) ∨ (s = 5 ∧ x = 1) := by
  induction h with
  | one hp e => have := one_of hp e; omega
  | go hp e h ih => have := one_of hp e; omega
theorem gK_ok : GrOk gK := by
  have c4 : Come gK 4 := .st
  have c5 : Come gK 5 := .go kp2 c4 (by simp)
  have g1 : Good gK 1 := .tm (by decide) (by decide)
  have g5 : Good gK 5 := Good.go kp3 (fun x hx => by simp at hx; subst hx; exact g1)
  have g4 : Good gK 4 := Good.go kp2 (fun x hx => by simp at hx; subst hx; exact g5)
  have h45 : ∀ x, gK.t ≤ x → x < gK.s → x = 4 ∨ x = 5 := fun x h1 h2 => by
    have h1 : (4 : Int) ≤ x := h1
    have h2 : x < (6 : Int) := h2
    omega
  refine ⟨⟨by decide, by decide, by decide, by decide, by decide, by decide, by decide, by decide, fun p hp => ?_, fun p hp => ?_⟩, ?_, fun p hp => ?_, fun p hp => ?_, fun x h1 h2 => ?_, fun x h1 h2 => ?_, fun x h1 h2 => ?_⟩
  · rcases gK_ps hp with rfl | rfl | rfl | rfl <;> exact ⟨by decide, by decide⟩
  · rcases gK_ps hp with rfl | rfl | rfl | rfl <;> intro x hx <;> simp at hx <;> show 0 ≤ x ∧ x < 6 <;> omega
  · unfold Twins
    rw [Classical.not_not]
    simp [gK]
  · rcases gK_ps hp with rfl | rfl | rfl | rfl <;> simp
  · rcases gK_ps hp with rfl | rfl | rfl | rfl <;> simp
  · rcases h45 x h1 h2 with rfl | rfl
    · exact c4
    · exact c5
  · rcases h45 x h1 h2 with rfl | rfl
    · exact g4
    · exact g5
  · intro h
    have := rK_sound h
    omega
theorem chkK : chk gK = 0 := (chk_ok gK).2 gK_ok
theorem askK (s : Int) (h0 : 0 ≤ s) (h1 : s < 6) : askV gK s 0 = 0 := by
  unfold askV
  rw [if_neg (by rw [chkK]; simp), if_pos ⟨h0, h1⟩]
theorem firK : firL gK 4 = [1, 2] := by
  unfold firL
  rw [if_pos (askK 4 (by decide) (by decide))]
  have e : (wd fun k => Beg gK 4 k) = 6 := by
    refine (wd_eq (by decide) fun k hk => ?_).symm
    constructor
    · intro h
      have : ∀ k, k < 64 → (6 : Nat).testBit k = true → k = 1 ∨ k = 2 := by decide
      rcases this k hk h with rfl | rfl
      · exact bK41
      · exact bK42
    · intro h
      have := bK_sound h
      rcases (by omega : k = 1 ∨ k = 2) with rfl | rfl <;> rfl
  rw [e]
  decide +kernel
theorem folK : folL gK 5 = [0, 3, 4] := by
  unfold folL
  rw [if_pos (askK 5 (by decide) (by decide))]
  have e : (wd fun k => Fol gK 5 k) = 25 := by
    refine (wd_eq (by decide) fun k hk => ?_).symm
    constructor
    · intro h
      have : ∀ k, k < 64 → (25 : Nat).testBit k = true → k = 0 ∨ k = 3 ∨ k = 4 := by decide
      rcases this k hk h with rfl | rfl | rfl
      · exact fK5 fK40
      · exact fK5 fK43
      · exact fK5 fK44
    · intro h
      have := fK_sound h
      rcases (by omega : k = 0 ∨ k = 3 ∨ k = 4) with rfl | rfl | rfl <;> rfl
  rw [e]
  decide +kernel
def g0 : Gr := ⟨0, 0, 0, []⟩
theorem chk0 : chk g0 = 2 := by
  unfold chk
  rw [if_pos (.inl fun h => by have := h.t1; simp [g0] at this)]
end Go.Proofs.Ytpmkdpjcpimhkaa
