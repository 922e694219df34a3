/- Texts of package regs, one behind the other. -/
import Derived.Test.YtnhfeakndofokaaY35
import Derived.WalkKit
import Derived.Below
import Derived.Laws.AppendOwn
import Derived.Laws.OwnMore
import Derived.Lib.Hide
import Derived.Lib.Walk
import Derived.Test.YtnhfeakndofokaaProg
import Derived.WalkLawsBesides
import Derived.WalkSpells
import Derived.Outline
import Derived.Lib.Slices
import Derived.Lib.Strings
import Derived.RegionTactic
import Derived.LoopTactic
import Derived.IntWalk
import Derived.Deep.QuietTactic
import Derived.BigQuiet
import Derived.Deep.MidRow
import Derived.Maps.AppendAt
import Derived.Laws.Rows
import Derived.Laws.Tables
import Derived.Deep.WholeRow
import Derived.Deep.Cut
import Derived.Deep.CutRange
import Derived.Lib.SliceRun
import Derived.Laws.MakeOwn
import Derived.Deep.RegionLaw
import Derived.Deep.RegionLawGrows
import Derived.Deep.RegionHeld3
import Derived.RegionCalls
import Derived.Deep.RegionWith
import Derived.Deep.Light
section
/- Package nfa, plain. -/
namespace Go.Proofs.Ytnhfeakndofokaa
set_option linter.unusedSimpArgs false
set_option linter.unusedVariables false
set_option maxRecDepth 100000
open Go.RowKit
/- What laid states lead to: the patterns' languages. -/
/-- Any number of texts, one behind the other. -/
inductive Sta (P : List UInt8 → Prop) : List UInt8 → Prop where
  | nil : Sta P []
  | app {a b : List UInt8} : P a → Sta P b → Sta P (a ++ b)
mutual
/-- A pattern matches a text. -/
def Lt : RT → List UInt8 → Prop
  | .mk k u ps, w => if k = 1 then w = [] else if k = 2 then ∃ c, w = [c] ∧ hasU u c = true else if k = 3 then LtR ps w else if k = 4 then LtC ps w else if k = 5 then Sta (LtR ps) w
    else if k = 6 then ∃ a b, w = a ++ b ∧ LtR ps a ∧ Sta (LtR ps) b else if k = 7 then w = [] ∨ LtR ps w else False
def LtR : List RT → List UInt8 → Prop
  | [], w => w = []
  | t :: ts, w => ∃ a b, w = a ++ b ∧ Lt t a ∧ LtR ts b
def LtC : List RT → List UInt8 → Prop
  | [], _ => False
  | t :: ts, w => Lt t w ∨ LtC ts w
end
/-- From a state by so many steps and a text to another. -/
inductive Pt (ss : List Nst) : Nat → List UInt8 → Nat → Nat → Prop where
  | nil (a : Nat) : Pt ss 0 [] a a
  | free {k : Nat} {w : List UInt8} {a e : Nat} (x : Int) (hx : x ∈ frOf ss a) (h : Pt ss k w x.toNat e) : Pt ss (k + 1) w a e
  | byte {k : Nat} {c : UInt8} {w : List UInt8} {a t e : Nat} (ht : toOf hasU ss c a = some t) (h : Pt ss k w t e) : Pt ss (k + 1) (c :: w) a e
theorem Pt.inv {ss : List Nst} {k : Nat} {w : List UInt8} {a e : Nat} (h : Pt ss k w a e) (hne : a ≠ e) {s : Nst} (hs : ss[a]? = some s) :
    ∃ k', k = k' + 1 ∧ ((∃ x ∈ s.fr, Pt ss k' w x.toNat e) ∨ ∃ c w', w = c :: w' ∧ 0 ≤ s.to ∧ hasU s.u c = true ∧ Pt ss k' w' s.to.toNat e) := by
  cases h with
  | nil => exact absurd rfl hne
  | free x hx h => exact ⟨_, rfl, .inl ⟨x, by unfold frOf at hx; rw [hs] at hx; exact hx, h⟩⟩
  | byte ht h =>
    unfold toOf at ht
    rw [hs] at ht
    simp only at ht
    split at ht
    · rename_i h5
      cases ht
      exact ⟨_, rfl, .inr ⟨_, _, rfl, h5.1, h5.2, h⟩⟩
    · cases ht
theorem Pt.stop {ss : List Nst} {k : Nat} {w : List UInt8} {a e : Nat} (h : Pt ss k w a e) {s : Nst} (hs : ss[a]? = some s) (hf : s.fr = []) (ht : s.to < 0) : w = [] ∧ e = a := by
  cases h with
  | nil => exact ⟨rfl, rfl⟩
  | free x hx h => unfold frOf at hx; rw [hs] at hx; simp only [hf] at hx; cases hx
  | byte ht' h =>
    unfold toOf at ht'
    rw [hs] at ht'
    simp only at ht'
    split at ht'
    · omega
    · cases ht'
theorem Pt.append {ss : List Nst} {k : Nat} {x : List UInt8} {a b : Nat} (h : Pt ss k x a b) {m : Nat} {y : List UInt8} {c : Nat} (g : Pt ss m y b c) : ∃ k', Pt ss k' (x ++ y) a c := by
  induction h with
  | nil a => exact ⟨m, g⟩
  | free x hx _ ih => obtain ⟨k', h'⟩ := ih g; exact ⟨k' + 1, .free x hx h'⟩
  | byte ht _ ih => obtain ⟨k', h'⟩ := ih g; exact ⟨k' + 1, .byte ht h'⟩
theorem Pt.go {ss : List Nst} {k : Nat} {w : List UInt8} {a e : Nat} {s : Nst} (hs : ss[a]? = some s) {x : Int} (hx : x ∈ s.fr) (h : Pt ss k w x.toNat e) : Pt ss (k + 1) w a e := .free x (by unfold frOf; rw [hs]; exact hx) h
theorem Pt.one {ss : List Nst} {a : Nat} {s : Nst} (hs : ss[a]? = some s) {c : UInt8} (h0 : 0 ≤ s.to) (hu : hasU s.u c = true) : Pt ss 1 [c] a s.to.toNat := .byte (by unfold toOf; rw [hs]; simp only; rw [if_pos ⟨h0, hu⟩]) (.nil _)
theorem acc_pt {ss : List Nst} : ∀ (x : List UInt8) (a b : Nat), Go.Proofs.Ytnhfeakndofokaa.Acc hasU ss x a b ↔ ∃ k, Pt ss k x a b := by
  have hrt : ∀ a b, Rt ss a b → ∃ k, Pt ss k [] a b := fun a b h => by
    induction h with
    | refl => exact ⟨0, .nil a⟩
    | step _ x hx hc ih =>
      obtain ⟨k, hk⟩ := ih
      subst hc
      exact hk.append (.free x hx (.nil _))
  intro x a b
  constructor
  · induction x generalizing a with
    | nil => exact hrt a b
    | cons c r ih =>
      rintro ⟨s, t, h1, h2, h3⟩
      obtain ⟨k1, g1⟩ := hrt a s h1
      obtain ⟨k2, g2⟩ := ih t h3
      exact g1.append (.byte h2 g2)
  · rintro ⟨k, h⟩
    induction h with
    | nil a => exact Rt.refl a
    | free x hx _ ih => exact Acc.of (.step (.refl _) x hx rfl) ih
    | byte ht _ ih => exact ⟨_, _, .refl _, ht, ih⟩
/-- So much of the states lies there. -/
def AtL (ss : List Nst) (n : Nat) (l : List Nst) : Prop := ∀ i s, l[i]? = some s → ss[n + i]? = some s
theorem AtL.left {ss : List Nst} {n : Nat} {a b : List Nst} (h : AtL ss n (a ++ b)) : AtL ss n a := fun i s hs => h i s (by rw [List.getElem?_append_left (by obtain ⟨h, _⟩ := List.getElem?_eq_some_iff.1 hs; exact h)]; exact hs)
theorem AtL.right {ss : List Nst} {n : Nat} {a b : List Nst} (h : AtL ss n (a ++ b)) : AtL ss (n + a.length) b := fun i s hs => by
  have := h (a.length + i) s (by rw [List.getElem?_append_right (by omega)]; rw [show a.length + i - a.length = i by omega]; exact hs)
  rw [show n + a.length + i = n + (a.length + i) by omega]; exact this
theorem AtL.head {ss : List Nst} {n : Nat} {a : Nst} {b : List Nst} (h : AtL ss n (a :: b)) : ss[n]? = some a := h 0 a rfl
theorem AtL.tail {ss : List Nst} {n : Nat} {a : Nst} {b : List Nst} (h : AtL ss n (a :: b)) : AtL ss (n + 1) b := AtL.right (a := [a]) h
theorem AtL.last {ss : List Nst} {n : Nat} {a : List Nst} {s : Nst} (h : AtL ss n (a ++ [s])) : ss[n + a.length]? = some s := h.right.head
/-- What is behind, once that was read. -/
def Bh (ss : List Nst) (k : Nat) (x : List UInt8) (b e : Nat) (P : List UInt8 → Prop) : Prop := ∃ y z k', k' ≤ k ∧ x = y ++ z ∧ P y ∧ Pt ss k' z b e
theorem Bh.imp {ss : List Nst} {k m : Nat} {x : List UInt8} {b e : Nat} {P Q : List UInt8 → Prop} (h : Bh ss k x b e P) (hk : k ≤ m) (hp : ∀ y, P y → Q y) : Bh ss m x b e Q := by
  obtain ⟨y, z, k', h1, h2, h3, h4⟩ := h
  exact ⟨y, z, k', by omega, h2, hp y h3, h4⟩
theorem star_s {ss : List Nst} {n e : Nat} {b s : Int} {P : List UInt8 → Prop} (hs : ss[n]? = some ⟨uZ, -1, [b, s], -1⟩) (hne : n ≠ e) (hin : ∀ k x, Pt ss k x s.toNat e → Bh ss k x n e P) : ∀ m k x, k ≤ m → Pt ss k x n e → Bh ss k x b.toNat e (Sta P)
  | 0, k, x, hk, h => by obtain ⟨k', h1, _⟩ := h.inv hne hs; omega
  | m + 1, k, x, hk, h => by
    obtain ⟨k', rfl, h1⟩ := h.inv hne hs
    rcases h1 with ⟨f, hf, h1⟩ | ⟨_, _, _, h0, _⟩
    · simp only [List.mem_cons, List.not_mem_nil, or_false] at hf
      rcases hf with rfl | rfl
      · exact ⟨[], x, k', by omega, rfl, .nil, h1⟩
      · obtain ⟨y, z, k2, h2, rfl, h3, h4⟩ := hin _ _ h1
        obtain ⟨y', z', k3, h5, rfl, h6, h7⟩ := star_s hs hne hin m k2 z (by omega) h4
        exact ⟨y ++ y', z', k3, by omega, by simp, .app h3 h6, h7⟩
    · simp at h0
mutual
theorem sF (ss : List Nst) (e : Nat) : ∀ (t : RT) (b : Int) (n : Nat), AtL ss n (layF t b n).1 → (e < n ∨ n + (layF t b n).1.length ≤ e) → ∀ k x, Pt ss k x (layF t b n).2.toNat e → Bh ss k x b.toNat e (Lt t)
  | .mk kd u ps, b, n => by
    rw [layF]
    by_cases h1 : kd = 1
    · rw [if_pos h1]
      intro _ _ k x h
      exact ⟨[], x, k, Nat.le_refl _, rfl, by rw [Lt, if_pos h1], h⟩
    rw [if_neg h1]
    by_cases h2 : kd = 2
    · rw [if_pos h2]
      intro ha he k x h
      have hs := ha.head
      simp only [List.length_singleton, Int.toNat_natCast] at he h
      obtain ⟨k', rfl, hf | ⟨c, w', rfl, h3, h4, h5⟩⟩ := h.inv (by omega) hs
      · obtain ⟨f, hf, _⟩ := hf; simp at hf
      · exact ⟨[c], w', k', by omega, rfl, by rw [Lt, if_neg h1, if_pos h2]; exact ⟨c, rfl, h4⟩, h5⟩
    rw [if_neg h2]
    by_cases h3 : kd = 3
    · rw [if_pos h3]
      intro ha he k x h
      exact (sC ss e ps b n ha he k x h).imp (Nat.le_refl _) fun y hy => by rw [Lt, if_neg h1, if_neg h2, if_pos h3]; exact hy
    rw [if_neg h3]
    by_cases h4 : kd = 4
    · rw [if_pos h4]
      intro ha he k x h
      have hs := ha.last
      simp only [List.length_append, List.length_singleton, Int.toNat_natCast] at he h
      obtain ⟨k', rfl, hf | ⟨c, w', rfl, h6, _⟩⟩ := h.inv (by omega) hs
      · obtain ⟨f, hf, hp⟩ := hf
        exact (sA ss e ps b n ha.left (by omega) f hf k' x hp).imp (by omega) fun y hy => by rw [Lt, if_neg h1, if_neg h2, if_neg h3, if_pos h4]; exact hy
      · simp at h6
    rw [if_neg h4]
    by_cases h5 : kd = 5
    · rw [if_pos h5]
      intro ha he k x h
      have hs := ha.head
      simp only [List.length_cons, Int.toNat_natCast] at he h
      exact (star_s hs (by omega) (fun k x h => by simpa using sC ss e ps (n : Nat) (n + 1) ha.tail (by omega) k x h) k k x (Nat.le_refl _) h).imp (Nat.le_refl _) fun y hy => by rw [Lt, if_neg h1, if_neg h2, if_neg h3, if_neg h4, if_pos h5]; exact hy
    rw [if_neg h5]
    by_cases h6 : kd = 6
    · rw [if_pos h6]
      intro ha he k x h
      have hs := ha.head
      simp only [List.length_cons] at he h
      have hin : ∀ k x, Pt ss k x (layC ps (n : Nat) (n + 1)).2.toNat e → Bh ss k x n e (LtR ps) := fun k x h => by simpa using sC ss e ps (n : Nat) (n + 1) ha.tail (by omega) k x h
      obtain ⟨y, z, k2, g1, rfl, g2, g3⟩ := hin k x h
      obtain ⟨y', z', k3, g4, rfl, g5, g6⟩ := star_s hs (by omega) hin k2 k2 z (Nat.le_refl _) g3
      exact ⟨y ++ y', z', k3, by omega, by simp, by rw [Lt, if_neg h1, if_neg h2, if_neg h3, if_neg h4, if_neg h5, if_pos h6]; exact ⟨y, y', rfl, g2, g5⟩, g6⟩
    rw [if_neg h6]
    by_cases h7 : kd = 7
    · rw [if_pos h7]
      intro ha he k x h
      have hs := ha.last
      simp only [List.length_append, List.length_singleton, Int.toNat_natCast] at he h
      obtain ⟨k', rfl, hf | ⟨c, w', rfl, h8, _⟩⟩ := h.inv (by omega) hs
      · obtain ⟨f, hf, hp⟩ := hf
        simp only [List.mem_cons, List.not_mem_nil, or_false] at hf
        rcases hf with rfl | rfl
        · exact (sC ss e ps b n ha.left (by omega) k' x hp).imp (by omega) fun y hy => by rw [Lt, if_neg h1, if_neg h2, if_neg h3, if_neg h4, if_neg h5, if_neg h6, if_pos h7]; exact .inr hy
        · exact ⟨[], x, k', by omega, rfl, by rw [Lt, if_neg h1, if_neg h2, if_neg h3, if_neg h4, if_neg h5, if_neg h6, if_pos h7]; exact .inl rfl, hp⟩
      · simp at h8
    rw [if_neg h7]
    intro ha he k x h
    have hs := ha.head
    simp only [List.length_singleton, Int.toNat_natCast] at he h
    have := (h.stop hs rfl (by simp)).2
    omega
theorem sC (ss : List Nst) (e : Nat) : ∀ (ps : List RT) (b : Int) (n : Nat), AtL ss n (layC ps b n).1 → (e < n ∨ n + (layC ps b n).1.length ≤ e) → ∀ k x, Pt ss k x (layC ps b n).2.toNat e → Bh ss k x b.toNat e (LtR ps)
  | [], b, n => by
    rw [layC]
    intro _ _ k x h
    exact ⟨[], x, k, Nat.le_refl _, rfl, by rw [LtR], h⟩
  | p :: r, b, n => by
    rw [layC]
    intro ha he k x h
    simp only [List.length_append] at he
    obtain ⟨y, z, k2, g1, rfl, g2, g3⟩ := sF ss e p _ _ ha.right (by omega) k x h
    obtain ⟨y', z', k3, g4, rfl, g5, g6⟩ := sC ss e r b n ha.left (by omega) k2 z g3
    exact ⟨y ++ y', z', k3, by omega, by simp, by rw [LtR]; exact ⟨y, y', rfl, g2, g5⟩, g6⟩
theorem sA (ss : List Nst) (e : Nat) : ∀ (ps : List RT) (b : Int) (n : Nat), AtL ss n (layA ps b n).1 → (e < n ∨ n + (layA ps b n).1.length ≤ e) → ∀ s ∈ (layA ps b n).2, ∀ k x, Pt ss k x s.toNat e → Bh ss k x b.toNat e (LtC ps)
  | [], b, n => by
    rw [layA]
    intro _ _ s hs
    cases hs
  | p :: r, b, n => by
    rw [layA]
    intro ha he s hs k x h
    simp only [List.length_append] at he
    rcases List.mem_cons.1 hs with rfl | hs
    · exact (sF ss e p _ _ ha.left (by omega) k x h).imp (Nat.le_refl _) fun y hy => by rw [LtC]; exact .inl hy
    · exact (sA ss e r b _ ha.right (by omega) s hs k x h).imp (Nat.le_refl _) fun y hy => by rw [LtC]; exact .inr hy
end
end Go.Proofs.Ytnhfeakndofokaa
end
section
/- Package nfa, plain. -/
namespace Go.Proofs.Ytnhfeakndofokaa
set_option linter.unusedSimpArgs false
set_option linter.unusedVariables false
set_option maxRecDepth 100000
open Go.RowKit
/- What a pattern matches, as layer 5 has it. -/
/-- A set's letters, by their bits. -/
def fOf (u : Nat → Int) (b : Nat) : Bool := (u (b / 64)).toNat.testBit (b % 64)
mutual
/-- A pattern matches a text. -/
def Lg : RT → List UInt8 → Prop
  | .mk k u ps, w => if k = 0 then False else if k = 1 then w = [] else if k = 2 then ∃ c, w = [c] ∧ fOf u c.toNat = true
    else if k = 3 then LgR ps w else if k = 4 then LgC ps w else if k = 5 then Sta (LgH ps) w else if k = 6 then ∃ a b, w = a ++ b ∧ LgH ps a ∧ Sta (LgH ps) b else w = [] ∨ LgH ps w
def LgH : List RT → List UInt8 → Prop
  | [], _ => False
  | t :: _, w => Lg t w
def LgR : List RT → List UInt8 → Prop
  | [], w => w = []
  | t :: ts, w => ∃ a b, w = a ++ b ∧ Lg t a ∧ LgR ts b
def LgC : List RT → List UInt8 → Prop
  | [], _ => False
  | t :: ts, w => Lg t w ∨ LgC ts w
end
end Go.Proofs.Ytnhfeakndofokaa
end
section
/- Package nfa. -/
namespace Go.Proofs.Ytnhfeakndofokaa
set_option linter.unusedSimpArgs false
set_option linter.unusedVariables false
set_option maxRecDepth 100000
open Go.RowKit

/- Where what a pattern matches may end. -/
theorem lgR_one (t : RT) (w : List UInt8) : LgR [t] w ↔ Lg t w := by
  rw [LgR]
  constructor
  · rintro ⟨a, b, rfl, h1, h2⟩
    rw [LgR] at h2
    subst h2
    simpa using h1
  · intro h
    exact ⟨w, [], by simp, h, by rw [LgR]⟩
theorem lgC_one (t : RT) (w : List UInt8) : LgC [t] w ↔ Lg t w := by
  rw [LgC, LgC]; simp
def segL (x : List UInt8) (i j : Nat) : List UInt8 := (x.drop i).take (j - i)
def EdP (P : List UInt8 → Prop) (x : List UInt8) (f : Nat → Bool) (j : Nat) : Prop := ∃ i, f i = true ∧ i ≤ j ∧ j ≤ x.length ∧ P (segL x i j)
open Classical in
noncomputable def edG (P : List UInt8 → Prop) (x : List UInt8) (f : Nat → Bool) (j : Nat) : Bool := decide (EdP P x f j)
noncomputable def edF (t : RT) (x : List UInt8) (f : Nat → Bool) : Nat → Bool := edG (Lg t) x f
noncomputable def stF (t : RT) (x : List UInt8) (f : Nat → Bool) : Nat → Bool := edG (Sta (Lg t)) x f
theorem edG_iff {P : List UInt8 → Prop} {x : List UInt8} {f : Nat → Bool} {j : Nat} : edG P x f j = true ↔ EdP P x f j := by simp [edG]
theorem segL_self (x : List UInt8) (i : Nat) : segL x i i = [] := by simp [segL]
theorem segL_len {x : List UInt8} {i j : Nat} (h1 : i ≤ j) (h2 : j ≤ x.length) : (segL x i j).length = j - i := by
  simp [segL]; omega
theorem segL_app {x : List UInt8} {i j k : Nat} (h1 : i ≤ j) (h2 : j ≤ k) : segL x i k = segL x i j ++ segL x j k := by
  unfold segL
  rw [show k - i = (j - i) + (k - j) by omega, List.take_add, List.drop_drop, show i + (j - i) = j by omega]
theorem segL_split {x a b : List UInt8} {i k : Nat} (h1 : i ≤ k) (h2 : k ≤ x.length) (h : segL x i k = a ++ b) : i + a.length ≤ k ∧ segL x i (i + a.length) = a ∧ segL x (i + a.length) k = b := by
  have hl := segL_len h1 h2
  rw [h, List.length_append] at hl
  have e := segL_app (x := x) (i := i) (j := i + a.length) (k := k) (by omega) (by omega)
  rw [h] at e
  have h3 := segL_len (x := x) (i := i) (j := i + a.length) (by omega) (by omega)
  have := List.append_inj e (by rw [h3]; omega)
  exact ⟨by omega, this.1.symm, this.2.symm⟩
theorem edG_congr {P Q : List UInt8 → Prop} (h : ∀ w, P w ↔ Q w) (x : List UInt8) (f : Nat → Bool) : edG P x f = edG Q x f := by
  funext j
  rw [Bool.eq_iff_iff, edG_iff, edG_iff]
  simp only [EdP, h]
theorem edG_f {P : List UInt8 → Prop} {x : List UInt8} {f g : Nat → Bool} (h : ∀ j, j ≤ x.length → f j = g j) : edG P x f = edG P x g := by
  funext j
  rw [Bool.eq_iff_iff, edG_iff, edG_iff]
  constructor
  · rintro ⟨i, h1, h2, h3, h4⟩; exact ⟨i, by rw [← h i (by omega)]; exact h1, h2, h3, h4⟩
  · rintro ⟨i, h1, h2, h3, h4⟩; exact ⟨i, by rw [h i (by omega)]; exact h1, h2, h3, h4⟩
theorem ed_0 (u : Nat → Int) (ps : List RT) (x : List UInt8) (f : Nat → Bool) (j : Nat) : edF (.mk 0 u ps) x f j = false := by
  rw [Bool.eq_false_iff]
  intro h
  obtain ⟨i, _, _, _, h4⟩ := edG_iff.1 h
  rw [Lg, if_pos rfl] at h4
  exact h4
theorem ed_nil {P : List UInt8 → Prop} (hP : ∀ w, P w ↔ w = []) (x : List UInt8) (f : Nat → Bool) (j : Nat) (hj : j ≤ x.length) : edG P x f j = f j := by
  rw [Bool.eq_iff_iff, edG_iff]
  constructor
  · rintro ⟨i, h1, h2, h3, h4⟩
    have hl := segL_len h2 h3
    rw [(hP _).1 h4] at hl
    simp at hl
    rw [show j = i by omega]; exact h1
  · intro h
    exact ⟨j, h, Nat.le_refl _, hj, (hP _).2 (segL_self x j)⟩
theorem ed_1 (u : Nat → Int) (x : List UInt8) (f : Nat → Bool) (j : Nat) (hj : j ≤ x.length) : edF (.mk 1 u []) x f j = f j := ed_nil (fun w => by
  rw [Lg]
  simp only [show ¬ ((1 : Int) = 0) by decide, if_false, if_true]) x f j hj
theorem ed_cat {P Q : List UInt8 → Prop} (x : List UInt8) (f : Nat → Bool) : edG (fun w => ∃ a b, w = a ++ b ∧ P a ∧ Q b) x f = edG Q x (edG P x f) := by
  funext k
  rw [Bool.eq_iff_iff, edG_iff, edG_iff]
  constructor
  · rintro ⟨i, h1, h2, h3, a, b, e, hp, hq⟩
    obtain ⟨h4, h5, h6⟩ := segL_split h2 h3 e
    exact ⟨i + a.length, edG_iff.2 ⟨i, h1, by omega, by omega, by rw [h5]; exact hp⟩, h4, h3, by rw [h6]; exact hq⟩
  · rintro ⟨j, h1, h2, h3, hq⟩
    obtain ⟨i, h4, h5, h6, hp⟩ := edG_iff.1 h1
    exact ⟨i, h4, by omega, h3, segL x i j, segL x j k, segL_app h5 h2, hp, hq⟩
theorem ed_or {P Q : List UInt8 → Prop} (x : List UInt8) (f : Nat → Bool) (j : Nat) : edG (fun w => P w ∨ Q w) x f j = (edG P x f j || edG Q x f j) := by
  rw [Bool.eq_iff_iff, Bool.or_eq_true, edG_iff, edG_iff, edG_iff]
  constructor
  · rintro ⟨i, h1, h2, h3, hp | hq⟩
    · exact .inl ⟨i, h1, h2, h3, hp⟩
    · exact .inr ⟨i, h1, h2, h3, hq⟩
  · rintro (⟨i, h1, h2, h3, hp⟩ | ⟨i, h1, h2, h3, hq⟩)
    · exact ⟨i, h1, h2, h3, .inl hp⟩
    · exact ⟨i, h1, h2, h3, .inr hq⟩
theorem lgR_snoc (t : RT) : ∀ (ts : List RT) (w : List UInt8), LgR (ts ++ [t]) w ↔ ∃ a b, w = a ++ b ∧ LgR ts a ∧ Lg t b
  | [], w => by
    rw [List.nil_append, lgR_one]
    constructor
    · intro h; exact ⟨[], w, rfl, by rw [LgR], h⟩
    · rintro ⟨a, b, rfl, h1, h2⟩
      rw [LgR] at h1
      subst h1; exact h2
  | s :: ts, w => by
    rw [List.cons_append, LgR]
    constructor
    · rintro ⟨a, b, rfl, h1, h2⟩
      obtain ⟨c, d, rfl, h3, h4⟩ := (lgR_snoc t ts b).1 h2
      exact ⟨a ++ c, d, by simp, by rw [LgR]; exact ⟨a, c, rfl, h1, h3⟩, h4⟩
    · rintro ⟨a, b, rfl, h1, h2⟩
      rw [LgR] at h1
      obtain ⟨c, d, rfl, h3, h4⟩ := h1
      exact ⟨c, d ++ b, by simp, h3, (lgR_snoc t ts _).2 ⟨d, b, rfl, h4, h2⟩⟩
theorem lgC_snoc (t : RT) : ∀ (ts : List RT) (w : List UInt8), LgC (ts ++ [t]) w ↔ LgC ts w ∨ Lg t w
  | [], w => by rw [List.nil_append, lgC_one, LgC]; simp
  | s :: ts, w => by rw [List.cons_append, LgC, LgC, lgC_snoc t ts w]; simp [or_assoc]
theorem Sta.snoc {P : List UInt8 → Prop} {a b : List UInt8} (h : Sta P a) (hb : P b) : Sta P (a ++ b) := by
  induction h with
  | nil => have := Sta.app hb (Sta.nil (P := P)); simpa using this
  | app h1 h2 ih => rw [List.append_assoc]; exact .app h1 ih
/-- What is closed, and begins so, is what any number of times leads to. -/
theorem st_of {t : RT} {x : List UInt8} {f h : Nat → Bool} (h1 : ∀ j, j ≤ x.length → f j = true → h j = true) (h2 : ∀ j, j ≤ x.length → h j = true → stF t x f j = true) (h3 : ∀ j, j ≤ x.length → edF t x h j = true → h j = true) : ∀ j, j ≤ x.length → h j = stF t x f j := by
  intro j hj
  rw [Bool.eq_iff_iff]
  refine ⟨h2 j hj, fun hs => ?_⟩
  obtain ⟨i, h4, h5, h6, hsta⟩ := edG_iff.1 hs
  have key : ∀ w, Sta (Lg t) w → ∀ i, h i = true → i ≤ j → segL x i j = w → h j = true := by
    intro w hw
    induction hw with
    | nil =>
      intro i hi hij e
      have := segL_len hij hj
      rw [e] at this
      simp at this
      rw [show j = i by omega]; exact hi
    | app ha _ ih =>
      rename_i a b _
      intro i hi hij e
      obtain ⟨h7, h8, h9⟩ := segL_split hij hj e
      exact ih (i + a.length) (h3 _ (by omega) (edG_iff.2 ⟨i, hi, by omega, by omega, by rw [h8]; exact ha⟩)) h7 h9
  exact key _ hsta i (h1 i (by omega) h4) h5 rfl
theorem st_step {t : RT} {x : List UInt8} {f h : Nat → Bool} (h2 : ∀ j, j ≤ x.length → h j = true → stF t x f j = true) : ∀ j, j ≤ x.length → (h j || edF t x h j) = true → stF t x f j = true := by
  intro j hj hh
  rcases Bool.or_eq_true .. ▸ hh with hh | hh
  · exact h2 j hj hh
  · obtain ⟨i, h3, h4, h5, h6⟩ := edG_iff.1 hh
    obtain ⟨k, h7, h8, h9, h10⟩ := edG_iff.1 (h2 i (by omega) h3)
    exact edG_iff.2 ⟨k, h7, by omega, hj, by rw [segL_app h8 h4]; exact Sta.snoc h10 h6⟩
theorem st_from {t : RT} {x : List UInt8} {f : Nat → Bool} : ∀ j, j ≤ x.length → f j = true → stF t x f j = true := fun j hj h =>
  edG_iff.2 ⟨j, h, Nat.le_refl _, hj, by rw [segL_self]; exact .nil⟩
theorem cntF_lt {f g : Nat → Bool} : ∀ (N : Nat), (∀ j, j < N → f j = true → g j = true) → (∃ j, j < N ∧ f j ≠ g j) → cntF f N < cntF g N := by
  have mono : ∀ N, (∀ j, j < N → f j = true → g j = true) → cntF f N ≤ cntF g N := by
    intro N
    induction N with
    | zero => intro _; exact Nat.le_refl _
    | succ N ih =>
      intro h
      have h1 := ih fun j hj => h j (by omega)
      have h2 := h N (by omega)
      simp only [cntF]
      cases hf : f N <;> cases hg : g N <;> simp_all <;> omega
  intro N
  induction N with
  | zero => rintro _ ⟨j, hj, _⟩; omega
  | succ N ih =>
    rintro h ⟨j, hj, hne⟩
    simp only [cntF]
    have h2 := h N (by omega)
    by_cases hjN : j = N
    · subst hjN
      have h1 := mono j fun i hi => h i (by omega)
      cases hf : f j <;> cases hg : g j <;> simp_all <;> omega
    · have h1 := ih (fun i hi => h i (by omega)) ⟨j, by omega, hne⟩
      cases hf : f N <;> cases hg : g N <;> simp_all <;> omega
theorem cntF_max (f : Nat → Bool) : ∀ N, cntF f N ≤ N
  | 0 => Nat.le_refl _
  | N + 1 => by
    have := cntF_max f N
    simp only [cntF]
    cases f N <;> simp <;> omega
end Go.Proofs.Ytnhfeakndofokaa
end
section
/- Package nfa. -/
namespace Go.Proofs.Ytnhfeakndofokaa
set_option linter.unusedSimpArgs false
set_option linter.unusedVariables false
set_option maxRecDepth 100000
open Go.RowKit
abbrev bs (l : List UInt8) : ByteArray := ⟨l.toArray⟩

/- The document's again: the walk. -/
/-- What Ends answers of the pattern t. -/
def EnC (D : Nat → Prop) (t : RT) (x : List UInt8) : Prop := Hid (∀ v sl f w, RV D w t v → (∀ b, D b → b < w.heap.size) → BL (x.length + 1) f sl w → Calls Try.prog 59 #[v, .string (bs x), sl] w (EiP (x.length + 1) (edF t x f) w))
def bcnt (N : Nat) (s : Value) (w : World) : Nat := match s with
  | .slice (some a) _ _ => cntF (fun j => match w.cell? ⟨a.block, j, none⟩ with | some (.bool b) => b | _ => false) N
  | _ => 0
theorem BL.cell {N : Nat} {f : Nat → Bool} {g n c : Nat} {w : World} (h : BL N f (.slice (some ⟨g, 0, none⟩) n c) w) (j : Nat) (hj : j < N) : w.cell? ⟨g, j, none⟩ = some (.bool (f j)) := by
  obtain ⟨g', h1, h2⟩ := h
  simp only [Value.slice.injEq, Option.some.injEq, Addr.mk.injEq] at h1
  obtain ⟨⟨rfl, -, -⟩, -, -⟩ := h1
  rw [cell_of_row w g j _ 4 (0, 0) h2, fbA_get N f j hj]
theorem BL.cnt {N : Nat} {f : Nat → Bool} {s : Value} {w : World} (h : BL N f s w) : bcnt N s w = cntF f N := by
  have h' := h
  obtain ⟨g, rfl, h2⟩ := h
  unfold bcnt
  exact cnt_congr fun j hj => by rw [h'.cell j hj]
theorem BL.form {N : Nat} {f : Nat → Bool} {s : Value} {w : World} (h : BL N f s w) : ∃ g, s = .slice (some ⟨g, 0, none⟩) N N ∧ g < w.heap.size := by
  obtain ⟨g, rfl, h2⟩ := h
  exact ⟨g, rfl, (Array.getElem?_eq_some_iff.1 h2).1⟩
set_option maxHeartbeats 8000000 in
theorem again_walk {D : Nat → Prop} {t : RT} {x : List UInt8} {v sl : Value} {f : Nat → Bool} {w : World} (hx : x.length ≤ 900) (hD : ∀ b, D b → b < w.heap.size) (h : RV D w t v) (hf : BL (x.length + 1) f sl w) (hI : EnC D t x) :
    Calls Try.prog 70 #[v, .string (bs x), sl] w (EiP (x.length + 1) (stF t x f) w) := by
  obtain ⟨k, u, p, n, c, rfl⟩ := h.form2
  obtain ⟨N, hN⟩ : ∃ N, x.length + 1 = N := ⟨_, rfl⟩
  rw [hN] at hf ⊢
  have HV := Lib.hid h
  have S0 := Lib.hid ((Sb.start w).alloc (.cells #[.int .i64 k, .int .u64 (u 0), .int .u64 (u 1), .int .u64 (u 2), .int .u64 (u 3), .slice p n c] 56))
  have HF := Lib.hid (hf.up ((Below.refl _ _).alloc (Nat.le_refl _) (.cells #[.int .i64 k, .int .u64 (u 0), .int .u64 (u 1), .int .u64 (u 2), .int .u64 (u 3), .slice p n c] 56)))
  obtain ⟨gs, rfl, hgs⟩ := hf.form
  clear hf h
  go_enter Try.func70, Try.ntmps70
  go_wp2_with fail
  go_loopw [7] (fun s wr => ∃ h : Nat → Bool, Hid (BL N h s wr) ∧ Hid ((∀ j, j ≤ x.length → f j = true → h j = true) ∧ ∀ j, j ≤ x.length → h j = true → stF t x f j = true) ∧ Hid (Sb w wr [(w.heap.size, .cells #[.int .i64 k, .int .u64 (u 0), .int .u64 (u 1), .int .u64 (u 2), .int .u64 (u 3), .slice p n c] 56)])) (fun s wr => N - bcnt N s wr)
  case atStart => exact ⟨f, HF, Lib.hid ⟨fun j _ h => h, st_from⟩, S0⟩
  case round =>
    obtain ⟨h, HB, HP, HS⟩ := hrel
    clear S0 HF
    obtain ⟨g1, hsl, hg1⟩ := HB.out.form
    subst hsl
    have HC0 := Lib.hid HB.out.cnt
    have Q := HS.out
    have a0 := Q.cell 0
    have a1 := Q.cell 1
    have a2 := Q.cell 2
    have a3 := Q.cell 3
    have a4 := Q.cell 4
    have a5 := Q.cell 5
    have HC := Lib.hid (hI.out (.agg #[.int .i64 k, .int .u64 (u 0), .int .u64 (u 1), .int .u64 (u 2), .int .u64 (u 3), .slice p n c]) (.slice (some ⟨g1, 0, none⟩) N N) h wr (RV.mono (fun b h => h) (fun b hb _ => Q.1.block b (hD b hb)) HV.out) (fun b hb => Nat.lt_of_lt_of_le (hD b hb) Q.1.size) (by rw [hN]; exact HB.out))
    rw [hN] at HC
    clear Q
    go_wp2_with fail
    refine HC.out.mono ?_
    rintro _ w1 ⟨⟨v1, rfl, hv1⟩, hb⟩
    have HB1 := Lib.hid (HB.out.up hb)
    have HS1 := Lib.hid (HS.out.up hb)
    have HE := Lib.hid (eith5_any (by omega) HB1.out hv1)
    obtain ⟨g2, rfl, hg2⟩ := hv1.form
    clear hb hv1 HB HS HC a0 a1 a2 a3 a4 a5
    go_wp2_with fail
    refine HE.out.mono ?_
    rintro _ w2 ⟨⟨v2, rfl, hv2⟩, hb⟩
    obtain ⟨h', hh'⟩ : ∃ h' : Nat → Bool, (fun j => h j || edF t x h j) = h' := ⟨_, rfl⟩
    rw [hh'] at hv2
    have HH := Lib.hid hh'
    have HB2 := Lib.hid (HB1.out.up hb)
    have HS2 := Lib.hid (HS1.out.up hb)
    have HN := Lib.hid hv2
    obtain ⟨g3, rfl, hg3⟩ := hv2.form
    clear hb hv2 HB1 HS1 HE hh'
    go_wp2_with fail
    go_loopw [9, 10] (fun sb i wr => ∃ (m : Nat) (b : Bool), m ≤ N ∧ i = .int .i64 (m : Nat) ∧ sb = .bool b ∧ Hid (b = true ↔ ∀ j, j < m → h j = h' j) ∧ Hid (BL N h (.slice (some ⟨g1, 0, none⟩) N N) wr) ∧ Hid (BL N h' (.slice (some ⟨g3, 0, none⟩) N N) wr) ∧ Hid (Sb w wr [(w.heap.size, .cells #[.int .i64 k, .int .u64 (u 0), .int .u64 (u 1), .int .u64 (u 2), .int .u64 (u 3), .slice p n c] 56)])) (fun _ i _ => N - (intOf i).toNat)
    case atStart => exact ⟨0, true, by omega, rfl, rfl, Lib.hid (by simp), HB2, HN, HS2⟩
    clear HB2 HN HS2
    case round =>
      obtain ⟨m, b, hm, rfl, rfl, HQ, HB, HN, HS⟩ := hrel
      by_cases hlt : m < N
      · have hlt' : (m : Int) < (N : Int) := by omega
        have c1 : wr.cell? ⟨g1, m, none⟩ = some (.bool (h m)) := HB.out.cell m hlt
        have c3 : wr.cell? ⟨g3, m, none⟩ = some (.bool (h' m)) := HN.out.cell m hlt
        have HQ2 : Hid ((b && (h m == h' m)) = true ↔ ∀ j, j < m + 1 → h j = h' j) := Lib.hid (by
          rw [Bool.and_eq_true, HQ.out, beq_iff_eq]
          constructor
          · rintro ⟨h1, h2⟩ j hj
            by_cases e : j = m
            · subst e; exact h2
            · exact h1 j (by omega)
          · intro h1
            exact ⟨fun j hj => h1 j (by omega), h1 m (by omega)⟩)
        generalize h m = hm1 at *
        generalize h' m = hm2 at *
        clear HQ
        cases b <;> cases hm1 <;> cases hm2
        all_goals
          go_wp2_with fail
          go_quiet (fail)
          go_wp2_with fail
          go_roundw
          case rel => exact ⟨m + 1, _, by omega, by go_num, rfl, HQ2, HB, HN, Lib.hid (HS.out.drewN _)⟩
          case measure => simp [intOf]; omega
      · obtain rfl : m = N := by omega
        have hlt' : ¬ (m : Int) < (m : Int) := by omega
        cases b with
        | true =>
          have hall := HQ.out.1 rfl
          have HR : Hid (BL m (stF t x f) (.slice (some ⟨g1, 0, none⟩) m m) wr) := Lib.hid (HB.out.congr fun j hj => st_of HP.out.1 HP.out.2 (fun i hi he => by
            have h1 := hall i (by omega)
            rw [← HH.out] at h1
            simp only [he, Bool.or_true] at h1
            exact h1) j (by omega))
          clear HB HN HQ hall
          go_wp2_with fail
          go_ret
          exact ⟨⟨_, rfl, HR.out⟩, HS.out.1⟩
        | false =>
          have hne : ¬ ∀ j, j < m → h j = h' j := fun e => by have := HQ.out.2 e; cases this
          have hmono : ∀ j, j < m → h j = true → h' j = true := fun j _ hj => by rw [← HH.out]; simp [hj]
          have hlt2 : cntF h m < cntF h' m := cntF_lt m hmono (by
            by_cases e : ∃ j, j < m ∧ h j ≠ h' j
            · exact e
            · exact absurd (fun j hj => by by_cases e2 : h j = h' j; exact e2; exact absurd ⟨j, hj, e2⟩ e) hne)
          have hmax := cntF_max h' m
          have HCN := Lib.hid HN.out.cnt
          have HP2 : Hid ((∀ j, j ≤ x.length → f j = true → h' j = true) ∧ ∀ j, j ≤ x.length → h' j = true → stF t x f j = true) := Lib.hid ⟨fun j hj hf => hmono j (by omega) (HP.out.1 j hj hf), fun j hj hh => by
            rw [← HH.out] at hh
            exact st_step HP.out.2 j hj hh⟩
          clear HB HQ hne hmono
          go_wp2_with fail
          go_roundw
          case rel => exact ⟨h', HN, HP2, HS⟩
          case measure => rw [HCN.out, HC0.out]; omega
end Go.Proofs.Ytnhfeakndofokaa
end
