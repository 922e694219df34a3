/- Texts of package regs, one behind the other. -/
import Derived.Test.YthglciccejholaaDoorMd
import Derived.WalkKit
import Derived.Below
import Derived.Laws.AppendOwn
import Derived.Laws.OwnMore
import Derived.Lib.Hide
import Derived.Lib.Walk
section
/- Package nfa, plain. -/
namespace Go.Proofs.YthglciccejholaaDoor
set_option linter.unusedSimpArgs false
set_option linter.unusedVariables false
set_option maxRecDepth 100000
open Go.RowKit
/- What laid states lead to: the patterns' languages. -/
/-- Any number of texts, one behind the other. -/
inductive Sta (P : List UInt8 → Prop) : List UInt8 → Prop where
  | nil : Sta P []
  | app {a b : List UInt8} : P a → Sta P b → Sta P (a ++ b)
mutual
/-- A pattern matches a text. -/
def Lt : RT → List UInt8 → Prop
  | .mk k u ps, w => if k = 1 then w = [] else if k = 2 then ∃ c, w = [c] ∧ hasU u c = true else if k = 3 then LtR ps w else if k = 4 then LtC ps w else if k = 5 then Sta (LtR ps) w
    else if k = 6 then ∃ a b, w = a ++ b ∧ LtR ps a ∧ Sta (LtR ps) b else if k = 7 then w = [] ∨ LtR ps w else False
def LtR : List RT → List UInt8 → Prop
  | [], w => w = []
  | t :: ts, w => ∃ a b, w = a ++ b ∧ Lt t a ∧ LtR ts b
def LtC : List RT → List UInt8 → Prop
  | [], _ => False
  | t :: ts, w => Lt t w ∨ LtC ts w
end
/-- From a state by so many steps and a text to another. -/
inductive Pt (ss : List Nst) : Nat → List UInt8 → Nat → Nat → Prop where
  | nil (a : Nat) : Pt ss 0 [] a a
  | free {k : Nat} {w : List UInt8} {a e : Nat} (x : Int) (hx : x ∈ frOf ss a) (h : Pt ss k w x.toNat e) : Pt ss (k + 1) w a e
  | byte {k : Nat} {c : UInt8} {w : List UInt8} {a t e : Nat} (ht : toOf hasU ss c a = some t) (h : Pt ss k w t e) : Pt ss (k + 1) (c :: w) a e
theorem Pt.inv {ss : List Nst} {k : Nat} {w : List UInt8} {a e : Nat} (h : Pt ss k w a e) (hne : a ≠ e) {s : Nst} (hs : ss[a]? = some s) :
    ∃ k', k = k' + 1 ∧ ((∃ x ∈ s.fr, Pt ss k' w x.toNat e) ∨ ∃ c w', w = c :: w' ∧ 0 ≤ s.to ∧ hasU s.u c = true ∧ Pt ss k' w' s.to.toNat e) := by
  cases h with
  | nil => exact absurd rfl hne
  | free x hx h => exact ⟨_, rfl, .inl ⟨x, by unfold frOf at hx; rw [hs] at hx; exact hx, h⟩⟩
  | byte ht h =>
    unfold toOf at ht
    rw [hs] at ht
    simp only at ht
    split at ht
    · rename_i h5
      cases ht
      exact ⟨_, rfl, .inr ⟨_, _, rfl, h5.1, h5.2, h⟩⟩
    · cases ht
theorem Pt.stop {ss : List Nst} {k : Nat} {w : List UInt8} {a e : Nat} (h : Pt ss k w a e) {s : Nst} (hs : ss[a]? = some s) (hf : s.fr = []) (ht : s.to < 0) : w = [] ∧ e = a := by
  cases h with
  | nil => exact ⟨rfl, rfl⟩
  | free x hx h => unfold frOf at hx; rw [hs] at hx; simp only [hf] at hx; cases hx
  | byte ht' h =>
    unfold toOf at ht'
    rw [hs] at ht'
    simp only at ht'
    split at ht'
    · omega
    · cases ht'
theorem Pt.append {ss : List Nst} {k : Nat} {x : List UInt8} {a b : Nat} (h : Pt ss k x a b) {m : Nat} {y : List UInt8} {c : Nat} (g : Pt ss m y b c) : ∃ k', Pt ss k' (x ++ y) a c := by
  induction h with
  | nil a => exact ⟨m, g⟩
  | free x hx _ ih => obtain ⟨k', h'⟩ := ih g; exact ⟨k' + 1, .free x hx h'⟩
  | byte ht _ ih => obtain ⟨k', h'⟩ := ih g; exact ⟨k' + 1, .byte ht h'⟩
theorem Pt.go {ss : List Nst} {k : Nat} {w : List UInt8} {a e : Nat} {s : Nst} (hs : ss[a]? = some s) {x : Int} (hx : x ∈ s.fr) (h : Pt ss k w x.toNat e) : Pt ss (k + 1) w a e := .free x (by unfold frOf; rw [hs]; exact hx) h
theorem Pt.one {ss : List Nst} {a : Nat} {s : Nst} (hs : ss[a]? = some s) {c : UInt8} (h0 : 0 ≤ s.to) (hu : hasU s.u c = true) : Pt ss 1 [c] a s.to.toNat := .byte (by unfold toOf; rw [hs]; simp only; rw [if_pos ⟨h0, hu⟩]) (.nil _)
theorem acc_pt {ss : List Nst} : ∀ (x : List UInt8) (a b : Nat), Go.Proofs.YthglciccejholaaDoor.Acc hasU ss x a b ↔ ∃ k, Pt ss k x a b := by
  have hrt : ∀ a b, Rt ss a b → ∃ k, Pt ss k [] a b := fun a b h => by
    induction h with
    | refl => exact ⟨0, .nil a⟩
    | step _ x hx hc ih =>
      obtain ⟨k, hk⟩ := ih
      subst hc
      exact hk.append (.free x hx (.nil _))
  intro x a b
  constructor
  · induction x generalizing a with
    | nil => exact hrt a b
    | cons c r ih =>
      rintro ⟨s, t, h1, h2, h3⟩
      obtain ⟨k1, g1⟩ := hrt a s h1
      obtain ⟨k2, g2⟩ := ih t h3
      exact g1.append (.byte h2 g2)
  · rintro ⟨k, h⟩
    induction h with
    | nil a => exact Rt.refl a
    | free x hx _ ih => exact Acc.of (.step (.refl _) x hx rfl) ih
    | byte ht _ ih => exact ⟨_, _, .refl _, ht, ih⟩
/-- So much of the states lies there. -/
def AtL (ss : List Nst) (n : Nat) (l : List Nst) : Prop := ∀ i s, l[i]? = some s → ss[n + i]? = some s
theorem AtL.left {ss : List Nst} {n : Nat} {a b : List Nst} (h : AtL ss n (a ++ b)) : AtL ss n a := fun i s hs => h i s (by rw [List.getElem?_append_left (by obtain ⟨h, _⟩ := List.getElem?_eq_some_iff.1 hs; exact h)]; exact hs)
theorem AtL.right {ss : List Nst} {n : Nat} {a b : List Nst} (h : AtL ss n (a ++ b)) : AtL ss (n + a.length) b := fun i s hs => by
  have := h (a.length + i) s (by rw [List.getElem?_append_right (by omega)]; rw [show a.length + i - a.length = i by omega]; exact hs)
  rw [show n + a.length + i = n + (a.length + i) by omega]; exact this
theorem AtL.head {ss : List Nst} {n : Nat} {a : Nst} {b : List Nst} (h : AtL ss n (a :: b)) : ss[n]? = some a := h 0 a rfl
theorem AtL.tail {ss : List Nst} {n : Nat} {a : Nst} {b : List Nst} (h : AtL ss n (a :: b)) : AtL ss (n + 1) b := AtL.right (a := [a]) h
theorem AtL.last {ss : List Nst} {n : Nat} {a : List Nst} {s : Nst} (h : AtL ss n (a ++ [s])) : ss[n + a.length]? = some s := h.right.head
/-- What is behind, once that was read. -/
def Bh (ss : List Nst) (k : Nat) (x : List UInt8) (b e : Nat) (P : List UInt8 → Prop) : Prop := ∃ y z k', k' ≤ k ∧ x = y ++ z ∧ P y ∧ Pt ss k' z b e
theorem Bh.imp {ss : List Nst} {k m : Nat} {x : List UInt8} {b e : Nat} {P Q : List UInt8 → Prop} (h : Bh ss k x b e P) (hk : k ≤ m) (hp : ∀ y, P y → Q y) : Bh ss m x b e Q := by
  obtain ⟨y, z, k', h1, h2, h3, h4⟩ := h
  exact ⟨y, z, k', by omega, h2, hp y h3, h4⟩
theorem star_s {ss : List Nst} {n e : Nat} {b s : Int} {P : List UInt8 → Prop} (hs : ss[n]? = some ⟨uZ, -1, [b, s], -1⟩) (hne : n ≠ e) (hin : ∀ k x, Pt ss k x s.toNat e → Bh ss k x n e P) : ∀ m k x, k ≤ m → Pt ss k x n e → Bh ss k x b.toNat e (Sta P)
  | 0, k, x, hk, h => by obtain ⟨k', h1, _⟩ := h.inv hne hs; omega
  | m + 1, k, x, hk, h => by
    obtain ⟨k', rfl, h1⟩ := h.inv hne hs
    rcases h1 with ⟨f, hf, h1⟩ | ⟨_, _, _, h0, _⟩
    · simp only [List.mem_cons, List.not_mem_nil, or_false] at hf
      rcases hf with rfl | rfl
      · exact ⟨[], x, k', by omega, rfl, .nil, h1⟩
      · obtain ⟨y, z, k2, h2, rfl, h3, h4⟩ := hin _ _ h1
        obtain ⟨y', z', k3, h5, rfl, h6, h7⟩ := star_s hs hne hin m k2 z (by omega) h4
        exact ⟨y ++ y', z', k3, by omega, by simp, .app h3 h6, h7⟩
    · simp at h0
mutual
theorem sF (ss : List Nst) (e : Nat) : ∀ (t : RT) (b : Int) (n : Nat), AtL ss n (layF t b n).1 → (e < n ∨ n + (layF t b n).1.length ≤ e) → ∀ k x, Pt ss k x (layF t b n).2.toNat e → Bh ss k x b.toNat e (Lt t)
  | .mk kd u ps, b, n => by
    rw [layF]
    by_cases h1 : kd = 1
    · rw [if_pos h1]
      intro _ _ k x h
      exact ⟨[], x, k, Nat.le_refl _, rfl, by rw [Lt, if_pos h1], h⟩
    rw [if_neg h1]
    by_cases h2 : kd = 2
    · rw [if_pos h2]
      intro ha he k x h
      have hs := ha.head
      simp only [List.length_singleton, Int.toNat_natCast] at he h
      obtain ⟨k', rfl, hf | ⟨c, w', rfl, h3, h4, h5⟩⟩ := h.inv (by omega) hs
      · obtain ⟨f, hf, _⟩ := hf; simp at hf
      · exact ⟨[c], w', k', by omega, rfl, by rw [Lt, if_neg h1, if_pos h2]; exact ⟨c, rfl, h4⟩, h5⟩
    rw [if_neg h2]
    by_cases h3 : kd = 3
    · rw [if_pos h3]
      intro ha he k x h
      exact (sC ss e ps b n ha he k x h).imp (Nat.le_refl _) fun y hy => by rw [Lt, if_neg h1, if_neg h2, if_pos h3]; exact hy
    rw [if_neg h3]
    by_cases h4 : kd = 4
    · rw [if_pos h4]
      intro ha he k x h
      have hs := ha.last
      simp only [List.length_append, List.length_singleton, Int.toNat_natCast] at he h
      obtain ⟨k', rfl, hf | ⟨c, w', rfl, h6, _⟩⟩ := h.inv (by omega) hs
      · obtain ⟨f, hf, hp⟩ := hf
        exact (sA ss e ps b n ha.left (by omega) f hf k' x hp).imp (by omega) fun y hy => by rw [Lt, if_neg h1, if_neg h2, if_neg h3, if_pos h4]; exact hy
      · simp at h6
    rw [if_neg h4]
    by_cases h5 : kd = 5
    · rw [if_pos h5]
      intro ha he k x h
      have hs := ha.head
      simp only [List.length_cons, Int.toNat_natCast] at he h
      exact (star_s hs (by omega) (fun k x h => by simpa using sC ss e ps (n : Nat) (n + 1) ha.tail (by omega) k x h) k k x (Nat.le_refl _) h).imp (Nat.le_refl _) fun y hy => by rw [Lt, if_neg h1, if_neg h2, if_neg h3, if_neg h4, if_pos h5]; exact hy
    rw [if_neg h5]
    by_cases h6 : kd = 6
    · rw [if_pos h6]
      intro ha he k x h
      have hs := ha.head
      simp only [List.length_cons] at he h
      have hin : ∀ k x, Pt ss k x (layC ps (n : Nat) (n + 1)).2.toNat e → Bh ss k x n e (LtR ps) := fun k x h => by simpa using sC ss e ps (n : Nat) (n + 1) ha.tail (by omega) k x h
      obtain ⟨y, z, k2, g1, rfl, g2, g3⟩ := hin k x h
      obtain ⟨y', z', k3, g4, rfl, g5, g6⟩ := star_s hs (by omega) hin k2 k2 z (Nat.le_refl _) g3
      exact ⟨y ++ y', z', k3, by omega, by simp, by rw [Lt, if_neg h1, if_neg h2, if_neg h3, if_neg h4, if_neg h5, if_pos h6]; exact ⟨y, y', rfl, g2, g5⟩, g6⟩
    rw [if_neg h6]
    by_cases h7 : kd = 7
    · rw [if_pos h7]
      intro ha he k x h
      have hs := ha.last
      simp only [List.length_append, List.length_singleton, Int.toNat_natCast] at he h
      obtain ⟨k', rfl, hf | ⟨c, w', rfl, h8, _⟩⟩ := h.inv (by omega) hs
      · obtain ⟨f, hf, hp⟩ := hf
        simp only [List.mem_cons, List.not_mem_nil, or_false] at hf
        rcases hf with rfl | rfl
        · exact (sC ss e ps b n ha.left (by omega) k' x hp).imp (by omega) fun y hy => by rw [Lt, if_neg h1, if_neg h2, if_neg h3, if_neg h4, if_neg h5, if_neg h6, if_pos h7]; exact .inr hy
        · exact ⟨[], x, k', by omega, rfl, by rw [Lt, if_neg h1, if_neg h2, if_neg h3, if_neg h4, if_neg h5, if_neg h6, if_pos h7]; exact .inl rfl, hp⟩
      · simp at h8
    rw [if_neg h7]
    intro ha he k x h
    have hs := ha.head
    simp only [List.length_singleton, Int.toNat_natCast] at he h
    have := (h.stop hs rfl (by simp)).2
    omega
theorem sC (ss : List Nst) (e : Nat) : ∀ (ps : List RT) (b : Int) (n : Nat), AtL ss n (layC ps b n).1 → (e < n ∨ n + (layC ps b n).1.length ≤ e) → ∀ k x, Pt ss k x (layC ps b n).2.toNat e → Bh ss k x b.toNat e (LtR ps)
  | [], b, n => by
    rw [layC]
    intro _ _ k x h
    exact ⟨[], x, k, Nat.le_refl _, rfl, by rw [LtR], h⟩
  | p :: r, b, n => by
    rw [layC]
    intro ha he k x h
    simp only [List.length_append] at he
    obtain ⟨y, z, k2, g1, rfl, g2, g3⟩ := sF ss e p _ _ ha.right (by omega) k x h
    obtain ⟨y', z', k3, g4, rfl, g5, g6⟩ := sC ss e r b n ha.left (by omega) k2 z g3
    exact ⟨y ++ y', z', k3, by omega, by simp, by rw [LtR]; exact ⟨y, y', rfl, g2, g5⟩, g6⟩
theorem sA (ss : List Nst) (e : Nat) : ∀ (ps : List RT) (b : Int) (n : Nat), AtL ss n (layA ps b n).1 → (e < n ∨ n + (layA ps b n).1.length ≤ e) → ∀ s ∈ (layA ps b n).2, ∀ k x, Pt ss k x s.toNat e → Bh ss k x b.toNat e (LtC ps)
  | [], b, n => by
    rw [layA]
    intro _ _ s hs
    cases hs
  | p :: r, b, n => by
    rw [layA]
    intro ha he s hs k x h
    simp only [List.length_append] at he
    rcases List.mem_cons.1 hs with rfl | hs
    · exact (sF ss e p _ _ ha.left (by omega) k x h).imp (Nat.le_refl _) fun y hy => by rw [LtC]; exact .inl hy
    · exact (sA ss e r b _ ha.right (by omega) s hs k x h).imp (Nat.le_refl _) fun y hy => by rw [LtC]; exact .inr hy
end
end Go.Proofs.YthglciccejholaaDoor
end
section
/- Package nfa, plain. -/
namespace Go.Proofs.YthglciccejholaaDoor
set_option linter.unusedSimpArgs false
set_option linter.unusedVariables false
set_option maxRecDepth 100000
open Go.RowKit
/- What a pattern matches, the laid states read; they may be; the rules' automaton. -/
mutual
theorem pF : ∀ (t : RT) (b : Int) (n : Nat), 0 ≤ b → 0 ≤ (layF t b n).2
  | .mk kd u ps, b, n, hb => by
    have hC := pC ps b n hb
    have hC2 := pC ps (n : Nat) (n + 1) (by omega)
    rw [layF]
    repeat' split
    all_goals first | exact hb | exact hC | exact hC2 | (simp only; omega)
theorem pC : ∀ (ps : List RT) (b : Int) (n : Nat), 0 ≤ b → 0 ≤ (layC ps b n).2
  | [], b, n, hb => by rw [layC]; exact hb
  | p :: r, b, n, hb => by rw [layC]; exact pF p _ _ (pC r b n hb)
end
theorem star_c {ss : List Nst} {n : Nat} {b s : Int} {P : List UInt8 → Prop} (hs : ss[n]? = some ⟨uZ, -1, [b, s], -1⟩) (hin : ∀ y, P y → ∃ k, Pt ss k y s.toNat n) {y : List UInt8} (h : Sta P y) : ∃ k, Pt ss k y n b.toNat := by
  induction h with
  | nil => exact ⟨1, Pt.go hs (by simp) (.nil _)⟩
  | app ha _ ih =>
    obtain ⟨k1, h1⟩ := hin _ ha
    obtain ⟨k2, h2⟩ := ih
    exact (Pt.go hs (x := s) (by simp) h1).append h2
mutual
theorem cF (ss : List Nst) : ∀ (t : RT) (b : Int) (n : Nat), 0 ≤ b → AtL ss n (layF t b n).1 → ∀ y, Lt t y → ∃ k, Pt ss k y (layF t b n).2.toNat b.toNat
  | .mk kd u ps, b, n, hb => by
    rw [layF]
    by_cases h1 : kd = 1
    · rw [if_pos h1]
      intro _ y hy
      rw [Lt, if_pos h1] at hy
      subst hy; exact ⟨0, .nil _⟩
    rw [if_neg h1]
    by_cases h2 : kd = 2
    · rw [if_pos h2]
      intro ha y hy
      rw [Lt, if_neg h1, if_pos h2] at hy
      obtain ⟨c, rfl, hc⟩ := hy
      exact ⟨1, by simpa using Pt.one ha.head hb hc⟩
    rw [if_neg h2]
    by_cases h3 : kd = 3
    · rw [if_pos h3]
      intro ha y hy
      rw [Lt, if_neg h1, if_neg h2, if_pos h3] at hy
      exact cC ss ps b n hb ha y hy
    rw [if_neg h3]
    by_cases h4 : kd = 4
    · rw [if_pos h4]
      intro ha y hy
      rw [Lt, if_neg h1, if_neg h2, if_neg h3, if_pos h4] at hy
      obtain ⟨s, hs, k, hk⟩ := cA ss ps b n hb ha.left y hy
      exact ⟨k + 1, by rw [Int.toNat_natCast]; exact Pt.go ha.last hs hk⟩
    rw [if_neg h4]
    by_cases h5 : kd = 5
    · rw [if_pos h5]
      intro ha y hy
      rw [Lt, if_neg h1, if_neg h2, if_neg h3, if_neg h4, if_pos h5] at hy
      have := star_c ha.head (fun y hy => by simpa using cC ss ps (n : Nat) (n + 1) (by omega) ha.tail y hy) hy
      simpa using this
    rw [if_neg h5]
    by_cases h6 : kd = 6
    · rw [if_pos h6]
      intro ha y hy
      rw [Lt, if_neg h1, if_neg h2, if_neg h3, if_neg h4, if_neg h5, if_pos h6] at hy
      obtain ⟨a, c, rfl, ha2, hc⟩ := hy
      have hin : ∀ y, LtR ps y → ∃ k, Pt ss k y (layC ps (n : Nat) (n + 1)).2.toNat n := fun y hy => by simpa using cC ss ps (n : Nat) (n + 1) (by omega) ha.tail y hy
      obtain ⟨k1, g1⟩ := hin a ha2
      obtain ⟨k2, g2⟩ := star_c ha.head hin hc
      exact g1.append g2
    rw [if_neg h6]
    by_cases h7 : kd = 7
    · rw [if_pos h7]
      intro ha y hy
      rw [Lt, if_neg h1, if_neg h2, if_neg h3, if_neg h4, if_neg h5, if_neg h6, if_pos h7] at hy
      rcases hy with rfl | hy
      · exact ⟨1, by rw [Int.toNat_natCast]; exact Pt.go ha.last (x := b) (by simp) (.nil _)⟩
      · obtain ⟨k, hk⟩ := cC ss ps b n hb ha.left y hy
        exact ⟨k + 1, by rw [Int.toNat_natCast]; exact Pt.go ha.last (x := (layC ps b n).2) (by simp) hk⟩
    rw [if_neg h7]
    intro ha y hy
    rw [Lt, if_neg h1, if_neg h2, if_neg h3, if_neg h4, if_neg h5, if_neg h6, if_neg h7] at hy
    exact hy.elim
theorem cC (ss : List Nst) : ∀ (ps : List RT) (b : Int) (n : Nat), 0 ≤ b → AtL ss n (layC ps b n).1 → ∀ y, LtR ps y → ∃ k, Pt ss k y (layC ps b n).2.toNat b.toNat
  | [], b, n, hb => by
    rw [layC]
    intro _ y hy
    rw [LtR] at hy
    subst hy; exact ⟨0, .nil _⟩
  | p :: r, b, n, hb => by
    rw [layC]
    intro ha y hy
    rw [LtR] at hy
    obtain ⟨a, c, rfl, h1, h2⟩ := hy
    obtain ⟨k1, g1⟩ := cF ss p _ _ (pC r b n hb) ha.right a h1
    obtain ⟨k2, g2⟩ := cC ss r b n hb ha.left c h2
    exact g1.append g2
theorem cA (ss : List Nst) : ∀ (ps : List RT) (b : Int) (n : Nat), 0 ≤ b → AtL ss n (layA ps b n).1 → ∀ y, LtC ps y → ∃ s ∈ (layA ps b n).2, ∃ k, Pt ss k y s.toNat b.toNat
  | [], b, n, hb => by
    intro _ y hy
    rw [LtC] at hy
    exact hy.elim
  | p :: r, b, n, hb => by
    rw [layA]
    intro ha y hy
    rw [LtC] at hy
    rcases hy with hy | hy
    · exact ⟨_, by simp, cF ss p b n hb ha.left y hy⟩
    · obtain ⟨s, hs, k, hk⟩ := cA ss r b _ hb ha.right y hy
      exact ⟨s, by simp [hs], k, hk⟩
end
/-- A laid state may be. -/
def okS (N : Nat) (s : Nst) : Prop := s.to < N ∧ s.rl = -1 ∧ ∀ x ∈ s.fr, 0 ≤ x ∧ x < N
mutual
theorem oF : ∀ (t : RT) (b : Int) (n N : Nat), 0 ≤ b → b < N → n + (layF t b n).1.length ≤ N → (∀ s ∈ (layF t b n).1, okS N s) ∧ 0 ≤ (layF t b n).2 ∧ (layF t b n).2 < N
  | .mk kd u ps, b, n, N, hb, hbN => by
    rw [layF]
    split
    · intro _; exact ⟨by simp, hb, hbN⟩
    split
    · intro h
      simp only [List.length_singleton] at h
      exact ⟨fun s hs => by simp only [List.mem_singleton] at hs; subst hs; exact ⟨hbN, rfl, by simp⟩, by simp only; omega, by simp only; omega⟩
    split
    · exact oC ps b n N hb hbN
    split
    · intro h
      simp only [List.length_append, List.length_singleton] at h
      obtain ⟨g1, g2⟩ := oA ps b n N hb hbN (by omega)
      refine ⟨fun s hs => ?_, by simp only; omega, by simp only; omega⟩
      rcases List.mem_append.1 hs with hs | hs
      · exact g1 s hs
      · simp only [List.mem_singleton] at hs; subst hs; exact ⟨by simp only; omega, rfl, g2⟩
    split
    · intro h
      simp only [List.length_cons] at h
      obtain ⟨g1, g2, g3⟩ := oC ps (n : Nat) (n + 1) N (by omega) (by omega) (by omega)
      refine ⟨fun s hs => ?_, by simp only; omega, by simp only; omega⟩
      rcases List.mem_cons.1 hs with rfl | hs
      · exact ⟨by simp only; omega, rfl, by simp only [List.mem_cons, List.not_mem_nil, or_false]; rintro x (rfl | rfl) <;> exact ⟨by assumption, by assumption⟩⟩
      · exact g1 s hs
    split
    · intro h
      simp only [List.length_cons] at h
      obtain ⟨g1, g2, g3⟩ := oC ps (n : Nat) (n + 1) N (by omega) (by omega) (by omega)
      refine ⟨fun s hs => ?_, g2, g3⟩
      rcases List.mem_cons.1 hs with rfl | hs
      · exact ⟨by simp only; omega, rfl, by simp only [List.mem_cons, List.not_mem_nil, or_false]; rintro x (rfl | rfl) <;> exact ⟨by assumption, by assumption⟩⟩
      · exact g1 s hs
    split
    · intro h
      simp only [List.length_append, List.length_singleton] at h
      obtain ⟨g1, g2, g3⟩ := oC ps b n N hb hbN (by omega)
      refine ⟨fun s hs => ?_, by simp only; omega, by simp only; omega⟩
      rcases List.mem_append.1 hs with hs | hs
      · exact g1 s hs
      · simp only [List.mem_singleton] at hs; subst hs
        exact ⟨by simp only; omega, rfl, by simp only [List.mem_cons, List.not_mem_nil, or_false]; rintro x (rfl | rfl) <;> exact ⟨by assumption, by assumption⟩⟩
    · intro h
      simp only [List.length_singleton] at h
      exact ⟨fun s hs => by simp only [List.mem_singleton] at hs; subst hs; exact ⟨by simp only; omega, rfl, by simp⟩, by simp only; omega, by simp only; omega⟩
theorem oC : ∀ (ps : List RT) (b : Int) (n N : Nat), 0 ≤ b → b < N → n + (layC ps b n).1.length ≤ N → (∀ s ∈ (layC ps b n).1, okS N s) ∧ 0 ≤ (layC ps b n).2 ∧ (layC ps b n).2 < N
  | [], b, n, N, hb, hbN => by rw [layC]; exact fun _ => ⟨by simp, hb, hbN⟩
  | p :: r, b, n, N, hb, hbN => by
    rw [layC]
    intro h
    simp only [List.length_append] at h
    obtain ⟨g1, g2, g3⟩ := oC r b n N hb hbN (by omega)
    obtain ⟨g4, g5, g6⟩ := oF p _ (n + (layC r b n).1.length) N g2 g3 (by omega)
    exact ⟨fun s hs => (List.mem_append.1 hs).elim (g1 s) (g4 s), g5, g6⟩
theorem oA : ∀ (ps : List RT) (b : Int) (n N : Nat), 0 ≤ b → b < N → n + (layA ps b n).1.length ≤ N → (∀ s ∈ (layA ps b n).1, okS N s) ∧ ∀ x ∈ (layA ps b n).2, 0 ≤ x ∧ x < N
  | [], b, n, N, hb, hbN => by rw [layA]; exact fun _ => ⟨by simp, by simp⟩
  | p :: r, b, n, N, hb, hbN => by
    rw [layA]
    intro h
    simp only [List.length_append] at h
    obtain ⟨g4, g5, g6⟩ := oF p b n N hb hbN (by omega)
    obtain ⟨g1, g2⟩ := oA r b (n + (layF p b n).1.length) N hb hbN (by omega)
    exact ⟨fun s hs => (List.mem_append.1 hs).elim (g4 s) (g1 s), fun x hx => (List.mem_cons.1 hx).elim (fun e => e ▸ ⟨g5, g6⟩) (g2 x)⟩
end
mutual
theorem fF : ∀ (t : RT) (b : Int) (n : Nat), frees (layF t b n).1 + 1 ≤ 3 * sz t
  | .mk kd u ps, b, n => by
    have hA := fA ps b n
    have hC := fC ps b n
    have hC2 := fC ps (n : Nat) (n + 1)
    rw [layF, sz]
    repeat' split
    all_goals (first | omega | (simp [frees_app, frees]; omega))
theorem fC : ∀ (ps : List RT) (b : Int) (n : Nat), frees (layC ps b n).1 ≤ 3 * szL ps
  | [], b, n => by simp [layC, frees]
  | p :: r, b, n => by
    have h1 := fC r b n
    have h2 := fF p (layC r b n).2 (n + (layC r b n).1.length)
    rw [layC, szL]; simp only [frees_app]; omega
theorem fA : ∀ (ps : List RT) (b : Int) (n : Nat), frees (layA ps b n).1 + (layA ps b n).2.length ≤ 3 * szL ps
  | [], b, n => by simp [layA, frees]
  | p :: r, b, n => by
    have h1 := fF p b n
    have h2 := fA r b (n + (layF p b n).1.length)
    rw [layA, szL]; simp only [frees_app, List.length_cons]; omega
end
end Go.Proofs.YthglciccejholaaDoor
end
