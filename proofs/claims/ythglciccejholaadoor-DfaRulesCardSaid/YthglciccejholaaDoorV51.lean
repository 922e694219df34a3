/- Texts of package regs, one behind the other. -/
import Derived.Test.YthglciccejholaaDoorV50
import Derived.WalkKit
import Derived.Below
import Derived.Laws.AppendOwn
import Derived.Laws.OwnMore
import Derived.Lib.Hide
import Derived.Lib.Walk
import Derived.Test.YthglciccejholaaDoorProg
import Derived.Test.YthglciccejholaaDoorV42
import Derived.BigFrame
import Derived.WalkMore
import Derived.ScopeJumps
import Derived.StillTailTactics
import Derived.Stop.BytesEq
import Derived.WalkLawsBesides
import Derived.WalkSpells
import Derived.Outline
import Derived.Lib.Slices
import Derived.Lib.Strings
import Derived.RegionTactic
import Derived.LoopTactic
import Derived.IntWalk
import Derived.Deep.QuietTactic
import Derived.BigQuiet
import Derived.Deep.MidRow
import Derived.Maps.AppendAt
import Derived.Laws.Rows
import Derived.Laws.Tables
import Derived.Deep.WholeRow
import Derived.Deep.Cut
import Derived.Deep.CutRange
import Derived.Lib.SliceRun
import Derived.Laws.MakeOwn
import Derived.Deep.RegionLaw
import Derived.Deep.RegionLawGrows
import Derived.Deep.RegionHeld3
import Derived.RegionCalls
import Derived.Deep.RegionWith
import Derived.Deep.Light
import Derived.Laws.CopyOwn
import Derived.Laws.ResultCell
section
/- Package nfa, plain. -/
namespace Go.Proofs.YthglciccejholaaDoor
set_option linter.unusedSimpArgs false
set_option linter.unusedVariables false
set_option maxRecDepth 100000
open Go.RowKit
/- What a pattern matches, the laid states read; they may be; the rules' automaton. -/
mutual
theorem pF : ∀ (t : RT) (b : Int) (n : Nat), 0 ≤ b → 0 ≤ (layF t b n).2
  | .mk kd u ps, b, n, hb => by
    have hC := pC ps b n hb
    have hC2 := pC ps (n : Nat) (n + 1) (by omega)
    rw [layF]
    repeat' split
    all_goals first | exact hb | exact hC | exact hC2 | (simp only; omega)
theorem pC : ∀ (ps : List RT) (b : Int) (n : Nat), 0 ≤ b → 0 ≤ (layC ps b n).2
  | [], b, n, hb => by rw [layC]; exact hb
  | p :: r, b, n, hb => by rw [layC]; exact pF p _ _ (pC r b n hb)
end
theorem star_c {ss : List Nst} {n : Nat} {b s : Int} {P : List UInt8 → Prop} (hs : ss[n]? = some ⟨uZ, -1, [b, s], -1⟩) (hin : ∀ y, P y → ∃ k, Pt ss k y s.toNat n) {y : List UInt8} (h : Sta P y) : ∃ k, Pt ss k y n b.toNat := by
  induction h with
  | nil => exact ⟨1, Pt.go hs (by simp) (.nil _)⟩
  | app ha _ ih =>
    obtain ⟨k1, h1⟩ := hin _ ha
    obtain ⟨k2, h2⟩ := ih
    exact (Pt.go hs (x := s) (by simp) h1).append h2
mutual
theorem n6_cF (ss : List Nst) : ∀ (t : RT) (b : Int) (n : Nat), 0 ≤ b → AtL ss n (layF t b n).1 → ∀ y, Lt t y → ∃ k, Pt ss k y (layF t b n).2.toNat b.toNat
  | .mk kd u ps, b, n, hb => by
    rw [layF]
    by_cases h1 : kd = 1
    · rw [if_pos h1]
      intro _ y hy
      rw [Lt, if_pos h1] at hy
      subst hy; exact ⟨0, .nil _⟩
    rw [if_neg h1]
    by_cases h2 : kd = 2
    · rw [if_pos h2]
      intro ha y hy
      rw [Lt, if_neg h1, if_pos h2] at hy
      obtain ⟨c, rfl, hc⟩ := hy
      exact ⟨1, by simpa using Pt.one ha.head hb hc⟩
    rw [if_neg h2]
    by_cases h3 : kd = 3
    · rw [if_pos h3]
      intro ha y hy
      rw [Lt, if_neg h1, if_neg h2, if_pos h3] at hy
      exact cC ss ps b n hb ha y hy
    rw [if_neg h3]
    by_cases h4 : kd = 4
    · rw [if_pos h4]
      intro ha y hy
      rw [Lt, if_neg h1, if_neg h2, if_neg h3, if_pos h4] at hy
      obtain ⟨s, hs, k, hk⟩ := n6_cA ss ps b n hb ha.left y hy
      exact ⟨k + 1, by rw [Int.toNat_natCast]; exact Pt.go ha.last hs hk⟩
    rw [if_neg h4]
    by_cases h5 : kd = 5
    · rw [if_pos h5]
      intro ha y hy
      rw [Lt, if_neg h1, if_neg h2, if_neg h3, if_neg h4, if_pos h5] at hy
      have := star_c ha.head (fun y hy => by simpa using cC ss ps (n : Nat) (n + 1) (by omega) ha.tail y hy) hy
      simpa using this
    rw [if_neg h5]
    by_cases h6 : kd = 6
    · rw [if_pos h6]
      intro ha y hy
      rw [Lt, if_neg h1, if_neg h2, if_neg h3, if_neg h4, if_neg h5, if_pos h6] at hy
      obtain ⟨a, c, rfl, ha2, hc⟩ := hy
      have hin : ∀ y, LtR ps y → ∃ k, Pt ss k y (layC ps (n : Nat) (n + 1)).2.toNat n := fun y hy => by simpa using cC ss ps (n : Nat) (n + 1) (by omega) ha.tail y hy
      obtain ⟨k1, g1⟩ := hin a ha2
      obtain ⟨k2, g2⟩ := star_c ha.head hin hc
      exact g1.append g2
    rw [if_neg h6]
    by_cases h7 : kd = 7
    · rw [if_pos h7]
      intro ha y hy
      rw [Lt, if_neg h1, if_neg h2, if_neg h3, if_neg h4, if_neg h5, if_neg h6, if_pos h7] at hy
      rcases hy with rfl | hy
      · exact ⟨1, by rw [Int.toNat_natCast]; exact Pt.go ha.last (x := b) (by simp) (.nil _)⟩
      · obtain ⟨k, hk⟩ := cC ss ps b n hb ha.left y hy
        exact ⟨k + 1, by rw [Int.toNat_natCast]; exact Pt.go ha.last (x := (layC ps b n).2) (by simp) hk⟩
    rw [if_neg h7]
    intro ha y hy
    rw [Lt, if_neg h1, if_neg h2, if_neg h3, if_neg h4, if_neg h5, if_neg h6, if_neg h7] at hy
    exact hy.elim
theorem cC (ss : List Nst) : ∀ (ps : List RT) (b : Int) (n : Nat), 0 ≤ b → AtL ss n (layC ps b n).1 → ∀ y, LtR ps y → ∃ k, Pt ss k y (layC ps b n).2.toNat b.toNat
  | [], b, n, hb => by
    rw [layC]
    intro _ y hy
    rw [LtR] at hy
    subst hy; exact ⟨0, .nil _⟩
  | p :: r, b, n, hb => by
    rw [layC]
    intro ha y hy
    rw [LtR] at hy
    obtain ⟨a, c, rfl, h1, h2⟩ := hy
    obtain ⟨k1, g1⟩ := n6_cF ss p _ _ (pC r b n hb) ha.right a h1
    obtain ⟨k2, g2⟩ := cC ss r b n hb ha.left c h2
    exact g1.append g2
theorem n6_cA (ss : List Nst) : ∀ (ps : List RT) (b : Int) (n : Nat), 0 ≤ b → AtL ss n (layA ps b n).1 → ∀ y, LtC ps y → ∃ s ∈ (layA ps b n).2, ∃ k, Pt ss k y s.toNat b.toNat
  | [], b, n, hb => by
    intro _ y hy
    rw [LtC] at hy
    exact hy.elim
  | p :: r, b, n, hb => by
    rw [layA]
    intro ha y hy
    rw [LtC] at hy
    rcases hy with hy | hy
    · exact ⟨_, by simp, n6_cF ss p b n hb ha.left y hy⟩
    · obtain ⟨s, hs, k, hk⟩ := n6_cA ss r b _ hb ha.right y hy
      exact ⟨s, by simp [hs], k, hk⟩
end
/-- A laid state may be. -/
def okS (N : Nat) (s : Nst) : Prop := s.to < N ∧ s.rl = -1 ∧ ∀ x ∈ s.fr, 0 ≤ x ∧ x < N
mutual
theorem oF : ∀ (t : RT) (b : Int) (n N : Nat), 0 ≤ b → b < N → n + (layF t b n).1.length ≤ N → (∀ s ∈ (layF t b n).1, okS N s) ∧ 0 ≤ (layF t b n).2 ∧ (layF t b n).2 < N
  | .mk kd u ps, b, n, N, hb, hbN => by
    rw [layF]
    split
    · intro _; exact ⟨by simp, hb, hbN⟩
    split
    · intro h
      simp only [List.length_singleton] at h
      exact ⟨fun s hs => by simp only [List.mem_singleton] at hs; subst hs; exact ⟨hbN, rfl, by simp⟩, by simp only; omega, by simp only; omega⟩
    split
    · exact oC ps b n N hb hbN
    split
    · intro h
      simp only [List.length_append, List.length_singleton] at h
      obtain ⟨g1, g2⟩ := oA ps b n N hb hbN (by omega)
      refine ⟨fun s hs => ?_, by simp only; omega, by simp only; omega⟩
      rcases List.mem_append.1 hs with hs | hs
      · exact g1 s hs
      · simp only [List.mem_singleton] at hs; subst hs; exact ⟨by simp only; omega, rfl, g2⟩
    split
    · intro h
      simp only [List.length_cons] at h
      obtain ⟨g1, g2, g3⟩ := oC ps (n : Nat) (n + 1) N (by omega) (by omega) (by omega)
      refine ⟨fun s hs => ?_, by simp only; omega, by simp only; omega⟩
      rcases List.mem_cons.1 hs with rfl | hs
      · exact ⟨by simp only; omega, rfl, by simp only [List.mem_cons, List.not_mem_nil, or_false]; rintro x (rfl | rfl) <;> exact ⟨by assumption, by assumption⟩⟩
      · exact g1 s hs
    split
    · intro h
      simp only [List.length_cons] at h
      obtain ⟨g1, g2, g3⟩ := oC ps (n : Nat) (n + 1) N (by omega) (by omega) (by omega)
      refine ⟨fun s hs => ?_, g2, g3⟩
      rcases List.mem_cons.1 hs with rfl | hs
      · exact ⟨by simp only; omega, rfl, by simp only [List.mem_cons, List.not_mem_nil, or_false]; rintro x (rfl | rfl) <;> exact ⟨by assumption, by assumption⟩⟩
      · exact g1 s hs
    split
    · intro h
      simp only [List.length_append, List.length_singleton] at h
      obtain ⟨g1, g2, g3⟩ := oC ps b n N hb hbN (by omega)
      refine ⟨fun s hs => ?_, by simp only; omega, by simp only; omega⟩
      rcases List.mem_append.1 hs with hs | hs
      · exact g1 s hs
      · simp only [List.mem_singleton] at hs; subst hs
        exact ⟨by simp only; omega, rfl, by simp only [List.mem_cons, List.not_mem_nil, or_false]; rintro x (rfl | rfl) <;> exact ⟨by assumption, by assumption⟩⟩
    · intro h
      simp only [List.length_singleton] at h
      exact ⟨fun s hs => by simp only [List.mem_singleton] at hs; subst hs; exact ⟨by simp only; omega, rfl, by simp⟩, by simp only; omega, by simp only; omega⟩
theorem oC : ∀ (ps : List RT) (b : Int) (n N : Nat), 0 ≤ b → b < N → n + (layC ps b n).1.length ≤ N → (∀ s ∈ (layC ps b n).1, okS N s) ∧ 0 ≤ (layC ps b n).2 ∧ (layC ps b n).2 < N
  | [], b, n, N, hb, hbN => by rw [layC]; exact fun _ => ⟨by simp, hb, hbN⟩
  | p :: r, b, n, N, hb, hbN => by
    rw [layC]
    intro h
    simp only [List.length_append] at h
    obtain ⟨g1, g2, g3⟩ := oC r b n N hb hbN (by omega)
    obtain ⟨g4, g5, g6⟩ := oF p _ (n + (layC r b n).1.length) N g2 g3 (by omega)
    exact ⟨fun s hs => (List.mem_append.1 hs).elim (g1 s) (g4 s), g5, g6⟩
theorem oA : ∀ (ps : List RT) (b : Int) (n N : Nat), 0 ≤ b → b < N → n + (layA ps b n).1.length ≤ N → (∀ s ∈ (layA ps b n).1, okS N s) ∧ ∀ x ∈ (layA ps b n).2, 0 ≤ x ∧ x < N
  | [], b, n, N, hb, hbN => by rw [layA]; exact fun _ => ⟨by simp, by simp⟩
  | p :: r, b, n, N, hb, hbN => by
    rw [layA]
    intro h
    simp only [List.length_append] at h
    obtain ⟨g4, g5, g6⟩ := oF p b n N hb hbN (by omega)
    obtain ⟨g1, g2⟩ := oA r b (n + (layF p b n).1.length) N hb hbN (by omega)
    exact ⟨fun s hs => (List.mem_append.1 hs).elim (g4 s) (g1 s), fun x hx => (List.mem_cons.1 hx).elim (fun e => e ▸ ⟨g5, g6⟩) (g2 x)⟩
end
mutual
theorem fF : ∀ (t : RT) (b : Int) (n : Nat), frees (layF t b n).1 + 1 ≤ 3 * sz t
  | .mk kd u ps, b, n => by
    have hA := fA ps b n
    have hC := fC ps b n
    have hC2 := fC ps (n : Nat) (n + 1)
    rw [layF, sz]
    repeat' split
    all_goals (first | omega | (simp [frees_app, frees]; omega))
theorem fC : ∀ (ps : List RT) (b : Int) (n : Nat), frees (layC ps b n).1 ≤ 3 * szL ps
  | [], b, n => by simp [layC, frees]
  | p :: r, b, n => by
    have h1 := fC r b n
    have h2 := fF p (layC r b n).2 (n + (layC r b n).1.length)
    rw [layC, szL]; simp only [frees_app]; omega
theorem fA : ∀ (ps : List RT) (b : Int) (n : Nat), frees (layA ps b n).1 + (layA ps b n).2.length ≤ 3 * szL ps
  | [], b, n => by simp [layA, frees]
  | p :: r, b, n => by
    have h1 := fF p b n
    have h2 := fA r b (n + (layF p b n).1.length)
    rw [layA, szL]; simp only [frees_app, List.length_cons]; omega
end
end Go.Proofs.YthglciccejholaaDoor
end
section
/- Package nfa, plain. -/
namespace Go.Proofs.YthglciccejholaaDoor
set_option linter.unusedSimpArgs false
set_option linter.unusedVariables false
set_option maxRecDepth 100000
open Go.RowKit
/- The rules' automaton: it may be, and what it accepts. -/
def foldL : Nat → List RT → Nat → List Nst × List Int
  | _, [], _ => ([], [])
  | i, t :: r, n => ((⟨uZ, -1, [], (i : Nat)⟩ :: (layF t (n : Nat) (n + 1)).1) ++ (foldL (i + 1) r (n + ((layF t (n : Nat) (n + 1)).1.length + 1))).1, (layF t (n : Nat) (n + 1)).2 :: (foldL (i + 1) r (n + ((layF t (n : Nat) (n + 1)).1.length + 1))).2)
theorem foldF_L : ∀ (ts : List RT) (i : Nat) (ss : List Nst) (fs : List Int), foldF i ts ss fs = (ss ++ (foldL i ts ss.length).1, fs ++ (foldL i ts ss.length).2)
  | [], i, ss, fs => by simp [foldF, foldL]
  | t :: r, i, ss, fs => by
    rw [foldF, foldL, foldF_L r]
    simp only [List.length_append, List.length_singleton, List.length_cons, List.append_assoc, List.singleton_append, List.cons_append, List.nil_append]
theorem ofF_L (ts : List RT) : n6_ofF ts = (foldL 0 ts 0).1 ++ [⟨uZ, -1, (foldL 0 ts 0).2, -1⟩] := by unfold n6_ofF; rw [foldF_L]; rfl
theorem foldL_len : ∀ (ts : List RT) (i n : Nat), (foldL i ts n).1.length ≤ 2 * szL ts ∧ (foldL i ts n).2.length = ts.length ∧ frees (foldL i ts n).1 ≤ 3 * szL ts
  | [], i, n => by simp [foldL, frees]
  | t :: r, i, n => by
    have h1 := foldL_len r (i + 1) (n + ((layF t (n : Nat) (n + 1)).1.length + 1))
    have h2 := layF_len t (n : Nat) (n + 1)
    have h3 := fF t (n : Nat) (n + 1)
    rw [foldL, szL]
    simp only [List.length_append, List.length_cons, frees_app, frees, List.length_nil]
    omega
def okL (N M : Nat) (s : Nst) : Prop := s.to < N ∧ s.rl < M ∧ ∀ x ∈ s.fr, 0 ≤ x ∧ x < N
theorem oL : ∀ (ts : List RT) (i n N : Nat), n + (foldL i ts n).1.length ≤ N → (∀ s ∈ (foldL i ts n).1, okL N (i + ts.length) s) ∧ ∀ x ∈ (foldL i ts n).2, 0 ≤ x ∧ x < N
  | [], i, n, N => by rw [foldL]; exact fun _ => ⟨by simp, by simp⟩
  | t :: r, i, n, N => by
    rw [foldL]
    intro h
    simp only [List.length_append, List.length_cons] at h
    obtain ⟨g1, g2⟩ := oL r (i + 1) (n + ((layF t (n : Nat) (n + 1)).1.length + 1)) N (by omega)
    obtain ⟨g3, g4⟩ := oF t (n : Nat) (n + 1) N (by omega) (by omega) (by omega)
    refine ⟨fun s hs => ?_, fun x hx => (List.mem_cons.1 hx).elim (fun e => e ▸ g4) (g2 x)⟩
    rcases List.mem_append.1 hs with hs | hs
    · rcases List.mem_cons.1 hs with rfl | hs
      · exact ⟨by simp only; omega, by simp only [List.length_cons]; omega, by simp⟩
      · obtain ⟨k1, k2, k3⟩ := g3 s hs
        exact ⟨k1, by rw [k2]; omega, k3⟩
    · obtain ⟨k1, k2, k3⟩ := g1 s hs
      exact ⟨k1, by simp only [List.length_cons]; omega, k3⟩
theorem sL {ss : List Nst} {e : Nat} {r : Int} (hr : 0 ≤ r) (he : rlOf ss e = r) : ∀ (ts : List RT) (i n : Nat), AtL ss n (foldL i ts n).1 → ∀ s ∈ (foldL i ts n).2, ∀ k x, Pt ss k x s.toNat e → ∃ j t, ts[j]? = some t ∧ r = (i + j : Nat) ∧ Lt t x
  | [], i, n => by
    rw [foldL]; intro _ s hs; cases hs
  | t :: q, i, n => by
    rw [foldL]
    intro ha s hs k x h
    rcases List.mem_cons.1 hs with rfl | hs
    · have ha1 : AtL ss (n + 1) (layF t (n : Nat) (n + 1)).1 := ha.left.tail
      have hd := ha.left.head
      have hout : e < n + 1 ∨ n + 1 + (layF t (n : Nat) (n + 1)).1.length ≤ e := by
        by_cases h1 : e < n + 1
        · exact .inl h1
        · by_cases h2 : n + 1 + (layF t (n : Nat) (n + 1)).1.length ≤ e
          · exact .inr h2
          · exfalso
            have h3 : e - (n + 1) < (layF t (n : Nat) (n + 1)).1.length := by omega
            have h4 := ha1 (e - (n + 1)) _ (List.getElem?_eq_getElem h3)
            rw [show n + 1 + (e - (n + 1)) = e by omega] at h4
            have h5 := ((oF t (n : Nat) (n + 1) (n + 1 + (layF t (n : Nat) (n + 1)).1.length) (by omega) (by omega) (by omega)).1 _ (List.getElem_mem h3)).2.1
            unfold rlOf at he
            rw [h4] at he
            simp only at he
            omega
      obtain ⟨y, z, k', _, rfl, h1, h2⟩ := sF ss e t (n : Nat) (n + 1) ha1 hout k x h
      rw [Int.toNat_natCast] at h2
      obtain ⟨rfl, rfl⟩ := h2.stop hd rfl (by simp)
      refine ⟨0, t, rfl, ?_, by simpa using h1⟩
      unfold rlOf at he
      rw [hd] at he
      simpa using he.symm
    · have ha2 : AtL ss (n + ((layF t (n : Nat) (n + 1)).1.length + 1)) (foldL (i + 1) q (n + ((layF t (n : Nat) (n + 1)).1.length + 1))).1 := by
        have := ha.right
        rwa [List.length_cons] at this
      obtain ⟨j, t', h1, h2, h3⟩ := sL hr he q (i + 1) _ ha2 s hs k x h
      exact ⟨j + 1, t', by simpa using h1, by omega, h3⟩
theorem cL {ss : List Nst} {x : List UInt8} : ∀ (ts : List RT) (i n : Nat), AtL ss n (foldL i ts n).1 → ∀ j t, ts[j]? = some t → Lt t x → ∃ s ∈ (foldL i ts n).2, ∃ k e, Pt ss k x s.toNat e ∧ rlOf ss e = (i + j : Nat)
  | [], i, n => by intro _ j t h; simp at h
  | t :: q, i, n => by
    rw [foldL]
    intro ha j t' hj hx
    cases j with
    | zero =>
      have e : t = t' := by simpa using hj
      subst e
      obtain ⟨k, hk⟩ := n6_cF ss t (n : Nat) (n + 1) (by omega) ha.left.tail x hx
      rw [Int.toNat_natCast] at hk
      exact ⟨_, by simp, k, n, hk, by unfold rlOf; rw [ha.left.head]; simp⟩
    | succ j =>
      have ha2 : AtL ss (n + ((layF t (n : Nat) (n + 1)).1.length + 1)) (foldL (i + 1) q (n + ((layF t (n : Nat) (n + 1)).1.length + 1))).1 := by
        have := ha.right
        rwa [List.length_cons] at this
      obtain ⟨s, hs, k, e, h1, h2⟩ := cL q (i + 1) _ ha2 j t' (by simpa using hj) hx
      exact ⟨s, by simp [hs], k, e, h1, by rw [h2]; omega⟩
open Classical in
/-- The rules whose patterns match. -/
noncomputable def accT (ts : List RT) (x : List UInt8) : List Int := ((List.range ts.length).filter fun r => decide (∃ t, ts[r]? = some t ∧ Lt t x)).map fun (r : Nat) => (r : Int)
theorem ofF_chk {ts : List RT} (hlen : ts.length ≤ 48) (hs : szL ts ≤ 2047) : chkN (((n6_ofF ts).length - 1 : Nat) : Int) (n6_ofF ts) = 0 ∧ (n6_ofF ts).length ≤ 4095 := by
  have h1 := foldL_len ts 0 0
  have h2 := oL ts 0 0 (n6_ofF ts).length (by rw [ofF_L]; simp)
  have hl : (n6_ofF ts).length = (foldL 0 ts 0).1.length + 1 := by rw [ofF_L]; simp
  refine ⟨?_, by omega⟩
  have hf : frees (n6_ofF ts) ≤ 16384 := by rw [ofF_L, frees_app]; simp [frees]; omega
  have ht : tooM (n6_ofF ts) = false := by unfold tooM; simp; omega
  have hm : mayN (((n6_ofF ts).length - 1 : Nat) : Int) (n6_ofF ts) = true := by
    unfold mayN
    simp only [Bool.and_eq_true, decide_eq_true_eq, List.all_eq_true]
    refine ⟨⟨by omega, by omega⟩, fun s hs => ?_⟩
    have hs' : okL (n6_ofF ts).length (0 + ts.length) s := by
      rw [ofF_L] at hs
      rcases List.mem_append.1 hs with hs | hs
      · exact h2.1 s hs
      · simp only [List.mem_singleton] at hs; subst hs; exact ⟨by simp only; omega, by simp only; omega, h2.2⟩
    obtain ⟨k1, k2, k3⟩ := hs'
    unfold stOk
    simp only [Bool.and_eq_true, decide_eq_true_eq, List.all_eq_true]
    exact ⟨k1, by omega, fun x hx => k3 x hx⟩
  unfold chkN
  rw [ht, hm]; simp
theorem ofF_acc {ts : List RT} (hlen : ts.length ≤ 48) (hs : szL ts ≤ 2047) (x : List UInt8) : accL hasU (((n6_ofF ts).length - 1 : Nat) : Int) (n6_ofF ts) x = accT ts x := by
  have hl : (n6_ofF ts).length - 1 = (foldL 0 ts 0).1.length := by rw [ofF_L]; simp
  have hl2 : (n6_ofF ts).length = (foldL 0 ts 0).1.length + 1 := by rw [ofF_L]; simp
  have hc := (ofF_chk hlen hs).1
  have hm : mayN (((n6_ofF ts).length - 1 : Nat) : Int) (n6_ofF ts) = true := by
    unfold chkN at hc
    split at hc
    · cases hc
    · split at hc
      · assumption
      · cases hc
  have hfine := (mayN_fine hm).1
  have hat : AtL (n6_ofF ts) 0 (foldL 0 ts 0).1 := fun i s hi => by rw [ofF_L]; rw [Nat.zero_add, List.getElem?_append_left (List.getElem?_eq_some_iff.1 hi).1]; exact hi
  have hst : (n6_ofF ts)[(foldL 0 ts 0).1.length]? = some ⟨uZ, -1, (foldL 0 ts 0).2, -1⟩ := by rw [ofF_L]; simp
  have key : ∀ r : Nat, r < 48 → ((runB hasU (n6_ofF ts) x (goF (n6_ofF ts) ((n6_ofF ts).length + 1) 0 [(((n6_ofF ts).length - 1 : Nat) : Int).toNat])).any (fun s => decide (rlOf (n6_ofF ts) s = (r : Int))) = true ↔ ∃ t, ts[r]? = some t ∧ Lt t x) := by
    intro r hr
    rw [List.any_eq_true, Int.toNat_natCast]
    constructor
    · rintro ⟨e, he, hre⟩
      have hre' := of_decide_eq_true hre
      obtain ⟨k, hk⟩ := (acc_pt x _ _).1 ((mem_acc hfine (by omega) x e).1 he)
      rw [hl] at hk
      obtain ⟨k', rfl, hf | ⟨c, w', rfl, h6, _⟩⟩ := hk.inv (fun h => by
        subst h
        unfold rlOf at hre'
        rw [hst] at hre'
        simp only at hre'
        omega) hst
      · obtain ⟨f, hf, hp⟩ := hf
        obtain ⟨j, t, h1, h2, h3⟩ := sL (r := (r : Int)) (by omega) hre' ts 0 0 hat f hf k' x hp
        obtain rfl : r = j := by omega
        exact ⟨t, h1, h3⟩
      · simp at h6
    · rintro ⟨t, ht, hx⟩
      obtain ⟨s, hs', k, e, h1, h2⟩ := cL (x := x) ts 0 0 hat r t ht hx
      exact ⟨e, (mem_acc hfine (by omega) x e).2 ((acc_pt x _ _).2 ⟨k + 1, by rw [hl]; exact Pt.go hst hs' h1⟩), decide_eq_true (by rw [h2]; omega)⟩
  unfold accL rulesOf accT
  congr 1
  have e48 : List.range 48 = List.range ts.length ++ (List.range (48 - ts.length)).map (ts.length + ·) := by rw [← List.range_add]; congr 1; omega
  rw [e48, List.filter_append]
  have e2 : (List.filter (fun r : Nat => (runB hasU (n6_ofF ts) x (goF (n6_ofF ts) ((n6_ofF ts).length + 1) 0 [(((n6_ofF ts).length - 1 : Nat) : Int).toNat])).any fun s => decide (rlOf (n6_ofF ts) s = (r : Int))) ((List.range (48 - ts.length)).map (ts.length + ·))) = [] := by
    rw [List.filter_eq_nil_iff]
    intro r hr hh
    obtain ⟨z, hz, rfl⟩ := List.mem_map.1 hr
    have := List.mem_range.1 hz
    obtain ⟨t, ht, _⟩ := (key _ (by omega)).1 hh
    rw [List.getElem?_eq_none (by omega)] at ht
    cases ht
  rw [e2, List.append_nil]
  refine List.filter_congr fun r hr => ?_
  have hr' := List.mem_range.1 hr
  have := key r (by omega)
  by_cases h : ∃ t, ts[r]? = some t ∧ Lt t x
  · rw [this.2 h]; simp [h]
  · rw [Bool.eq_false_iff.2 fun h9 => h (this.1 h9)]; simp [h]
end Go.Proofs.YthglciccejholaaDoor
end
section
/- Package regs, taken over. -/
namespace Go.Proofs.YthglciccejholaaDoor.R5
set_option linter.unusedSimpArgs false
set_option linter.unusedVariables false
set_option maxRecDepth 100000
open Go.RowKit
/- What the automaton tells and what the net matches is one. -/
theorem ltR_one (t : RT) : LtR [t] = Lt t := by
  funext w
  rw [LtR]
  apply propext
  constructor
  · rintro ⟨a, b, rfl, h1, h2⟩
    rw [LtR] at h2
    subst h2; simpa using h1
  · intro h; exact ⟨w, [], by simp, h, by rw [LtR]⟩
theorem lgH_one (t : RT) : LgH [t] = Lg t := by funext w; rw [LgH]
theorem lgR_one (t : RT) (w : List UInt8) : LgR [t] w ↔ Lg t w := by
  rw [LgR]
  constructor
  · rintro ⟨a, b, rfl, h1, h2⟩
    rw [LgR] at h2
    subst h2; simpa using h1
  · intro h; exact ⟨w, [], by simp, h, by rw [LgR]⟩
theorem sta_eq {P : List UInt8 → Prop} {w : List UInt8} : _root_.Go.Proofs.YthglciccejholaaDoor.Sta P w ↔ Sta P w := by
  constructor
  · intro h; induction h with
    | nil => exact .nil
    | app h1 _ ih => exact .app h1 ih
  · intro h; induction h with
    | nil => exact .nil
    | app h1 _ ih => exact .app h1 ih
mutual
theorem lt_lg : ∀ (t : RT) (w : List UInt8), mayB t = true → (Lt t w ↔ Lg t w)
  | .mk k u ps, w, hm => by
    rw [mayB, Bool.and_eq_true, Bool.and_eq_true] at hm
    have hR := lt_lgR ps
    have hC := lt_lgC ps
    have hone : ps.length = 1 → LtR ps = LgH ps := fun h1 => by
      match ps, h1 with
      | [t], _ =>
        rw [ltR_one, lgH_one]
        funext w
        have := hR w hm.2
        rw [ltR_one, lgR_one] at this
        exact propext this
    rw [Lt, Lg]
    rcases fits_kind hm.1.1 with rfl | rfl | rfl | rfl | rfl | ⟨rfl, e1⟩ | ⟨rfl, e1⟩ | ⟨rfl, e1⟩
    · simp
    · simp
    · simp [hasU, fOf]
    · simp; exact hR w hm.2
    · simp; exact hC w hm.2
    · simp [hone e1, sta_eq]
    · simp [hone e1, sta_eq]
    · simp [hone e1]
theorem lt_lgR : ∀ (ps : List RT) (w : List UInt8), mayL ps = true → (LtR ps w ↔ LgR ps w)
  | [], w, _ => by rw [LtR, LgR]
  | t :: ts, w, hm => by
    rw [mayL, Bool.and_eq_true] at hm
    have h1 := fun w => lt_lg t w hm.1
    have h2 := fun w => lt_lgR ts w hm.2
    rw [LtR, LgR]
    simp only [h1, h2]
theorem lt_lgC : ∀ (ps : List RT) (w : List UInt8), mayL ps = true → (LtC ps w ↔ LgC ps w)
  | [], w, _ => by rw [LtC, LgC]
  | t :: ts, w, hm => by
    rw [mayL, Bool.and_eq_true] at hm
    have h1 := fun w => lt_lg t w hm.1
    have h2 := fun w => lt_lgC ts w hm.2
    rw [LtC, LgC]
    simp only [h1, h2]
end
end Go.Proofs.YthglciccejholaaDoor.R5
end
section
/- Package nfa. -/
namespace Go.Proofs.YthglciccejholaaDoor
set_option linter.unusedSimpArgs false
set_option linter.unusedVariables false
set_option maxRecDepth 100000
open Go.RowKit
/- NfaMore: what is told of rules behind rules; the state of its walk. -/
theorem frees_mem : ∀ {ss : List Nst} {s : Nst}, s ∈ ss → s.fr.length ≤ frees ss
  | x :: r, s, h => by
    rw [frees]
    rcases List.mem_cons.1 h with rfl | h
    · omega
    · have := frees_mem h; omega
mutual
/-- A pattern's words are words. -/
def okT : RT → Prop
  | .mk k u ps => okW u ∧ okTL ps
def okTL : List RT → Prop
  | [] => True
  | t :: ts => okT t ∧ okTL ts
end
theorem ckL_iff : ∀ {ts : List RT}, ckL ts = 0 ↔ ∀ t ∈ ts, checkE t = 0
  | [] => by simp [ckL]
  | a :: r => by
    rw [ckL]
    constructor
    · intro h
      by_cases ha : checkE a = 0
      · rw [if_pos ha] at h
        exact fun t ht => (List.mem_cons.1 ht).elim (fun e => e ▸ ha) (ckL_iff.1 h t)
      · rw [if_neg ha] at h; exact absurd h ha
    · intro h
      rw [if_pos (h a (List.mem_cons_self ..))]
      exact ckL_iff.2 fun t ht => h t (List.mem_cons_of_mem _ ht)
theorem refE_iff {ts : List RT} : refE ts = 0 ↔ ts.length ≤ 48 ∧ (∀ t ∈ ts, checkE t = 0) ∧ szL ts ≤ 2047 ∧ ts.all msF = true := by
  unfold refE
  rw [← ckL_iff]
  by_cases h1 : 48 < ts.length
  · rw [if_pos h1]; constructor
    · intro h; cases h
    · intro h; omega
  rw [if_neg h1]
  by_cases h2 : ckL ts = 0
  · rw [if_pos h2]
    by_cases h3 : 2047 < szL ts
    · rw [if_pos h3]; constructor
      · intro h; cases h
      · intro h; omega
    rw [if_neg h3]
    by_cases h4 : ts.all msF = true
    · rw [if_pos h4]; exact ⟨fun _ => ⟨by omega, h2, by omega, h4⟩, fun _ => rfl⟩
    · rw [if_neg h4]; constructor
      · intro h; cases h
      · intro h; exact absurd h.2.2.2 h4
  · rw [if_neg h2]; exact ⟨fun h => absurd h h2, fun h => absurd h.2.1 h2⟩
mutual
theorem kF : ∀ (t : RT) (b : Int) (n : Nat), okT t → ∀ s ∈ (layF t b n).1, okW s.u
  | .mk kd u ps, b, n, ho => by
    rw [okT] at ho
    have hZ : okW uZ := fun i => by simp [uZ]
    have hA := n6_kA ps b n ho.2
    have hC := kC ps b n ho.2
    have hC2 := kC ps (n : Nat) (n + 1) ho.2
    rw [layF]
    repeat' split
    all_goals intro s hs
    all_goals try simp only [List.mem_append, List.mem_cons, List.not_mem_nil, or_false] at hs
    · subst hs; exact ho.1
    · exact hC s hs
    · rcases hs with hs | rfl
      · exact hA s hs
      · exact hZ
    · rcases hs with rfl | hs
      · exact hZ
      · exact hC2 s hs
    · rcases hs with rfl | hs
      · exact hZ
      · exact hC2 s hs
    · rcases hs with hs | rfl
      · exact hC s hs
      · exact hZ
    · subst hs; exact hZ
theorem kC : ∀ (ps : List RT) (b : Int) (n : Nat), okTL ps → ∀ s ∈ (layC ps b n).1, okW s.u
  | [], b, n, _ => by rw [layC]; simp
  | p :: r, b, n, ho => by
    rw [okTL] at ho
    rw [layC]
    exact fun s hs => (List.mem_append.1 hs).elim (kC r b n ho.2 s) (kF p _ _ ho.1 s)
theorem n6_kA : ∀ (ps : List RT) (b : Int) (n : Nat), okTL ps → ∀ s ∈ (layA ps b n).1, okW s.u
  | [], b, n, _ => by rw [layA]; simp
  | p :: r, b, n, ho => by
    rw [okTL] at ho
    rw [layA]
    exact fun s hs => (List.mem_append.1 hs).elim (kF p _ _ ho.1 s) (n6_kA r b _ ho.2 s)
end
theorem kL : ∀ (ts : List RT) (i n : Nat), (∀ t ∈ ts, okT t) → ∀ s ∈ (foldL i ts n).1, okW s.u
  | [], i, n, _ => by rw [foldL]; simp
  | t :: r, i, n, ho => by
    rw [foldL]
    have hZ : okW uZ := fun i => by simp [uZ]
    intro s hs
    rcases List.mem_append.1 hs with hs | hs
    · rcases List.mem_cons.1 hs with rfl | hs
      · exact hZ
      · exact kF t _ _ (ho t (List.mem_cons_self ..)) s hs
    · exact kL r _ _ (fun x hx => ho x (List.mem_cons_of_mem _ hx)) s hs
theorem ofF_okW {ts : List RT} (ho : ∀ t ∈ ts, okT t) : ∀ s ∈ n6_ofF ts, okW s.u := by
  have hZ : okW uZ := fun i => by simp [uZ]
  rw [ofF_L]
  intro s hs
  rcases List.mem_append.1 hs with hs | hs
  · exact kL ts 0 0 ho s hs
  · simp only [List.mem_singleton] at hs; subst hs; exact hZ
theorem ofF_fr {ts : List RT} (hlen : ts.length ≤ 48) (hs : szL ts ≤ 2047) : ∀ s ∈ n6_ofF ts, s.fr.length ≤ 9223372036854775806 := fun s h => by
  have h1 := foldL_len ts 0 0
  have h2 : frees (n6_ofF ts) ≤ 16384 := by rw [ofF_L, frees_app]; simp [frees]; omega
  have := frees_mem h
  omega
/-- What Of yields. -/
def stR (ts : List RT) : Int := if refE ts = 0 then (((n6_ofF ts).length - 1 : Nat) : Int) else 0
def ssR (ts : List RT) : List Nst := if refE ts = 0 then n6_ofF ts else []
theorem of_full {D : Nat → Prop} {w : World} {ts : List RT} {q : Option Addr} {f : Nat} (hD : ∀ b, D b → b < w.heap.size) (hR : RuV D w ts (.slice q ts.length f)) (hln : ts.length ≤ 9223372036854775806) (hwid : ∀ t ∈ ts, wid t ≤ 9223372036854775806) :
    Calls Tryd.prog 13 #[.slice q ts.length f] w fun e w' => (∃ sq c, e = .returned (.tuple #[.agg #[.int .i64 (stR ts), .slice sq (ssR ts).length c], .int .i64 (refE ts)]) ∧ SV (fun b => w.heap.size ≤ b ∧ b < w'.heap.size) w' (ssR ts) (.slice sq (ssR ts).length c)) ∧ Below w.heap.size w w' := by
  have HREF : Hid (∀ z, Below w.heap.size w z → Calls Tryd.prog 38 #[.slice q ts.length f] z fun e z' => e = .returned (.int .i64 (refE ts)) ∧ Below z.heap.size z z') := Lib.hid fun z hb => refused_any (fun b h => Nat.lt_of_lt_of_le (hD b h) hb.size) (hR.mono (fun b h => h) (fun b h _ => hb.block b (hD b h))) hln hwid
  unfold stR ssR
  by_cases h : refE ts = 0
  · rw [if_pos h, if_pos h]
    obtain ⟨h1, h2, h3, h4⟩ := refE_iff.1 h
    rw [h] at HREF ⊢
    refine (of_any hD hR h2 h1 h3 HREF).mono ?_
    rintro e w' ⟨⟨sq, c, he, hsv, _⟩, hb⟩
    exact ⟨⟨sq, c, he, hsv⟩, hb⟩
  · rw [if_neg h, if_neg h]
    refine (of_err (by simpa using h) HREF).mono ?_
    rintro e w' ⟨he, hb⟩
    exact ⟨⟨none, 0, he, ⟨none, 0, rfl, fun h => absurd rfl h⟩⟩, hb⟩
/-- Boxes, lists of states and of numbers that lie. -/
structure NM (w y : World) (L : List (Nat × Obj)) (S : List (List Nst × Value)) (I : List (List Int × Value)) : Prop where
  sb : Sb w y L
  sv : ∀ s ∈ S, SV (fun b => b < y.heap.size) y s.1 s.2
  iv : ∀ s ∈ I, IV (fun b => b < y.heap.size) y s.1 s.2
theorem NM.start {w y : World} (hb : Below w.heap.size w y) : NM w y [] [] [] := ⟨⟨hb, by simp⟩, by simp, by simp⟩
theorem NM.up {w y z : World} {L : List (Nat × Obj)} {S : List (List Nst × Value)} {I : List (List Int × Value)} (h : NM w y L S I) (hb : Below y.heap.size y z) : NM w z L S I :=
  ⟨h.sb.up hb, fun s hs => (h.sv s hs).mono (fun b h => Nat.lt_of_lt_of_le h hb.size) (fun b h _ => hb.block b h), fun s hs => (h.iv s hs).mono (fun b h => Nat.lt_of_lt_of_le h hb.size) (fun b h _ => hb.block b h)⟩
theorem NM.box {w y : World} {L : List (Nat × Obj)} {S : List (List Nst × Value)} {I : List (List Int × Value)} (h : NM w y L S I) (o : Obj) : NM w (y.alloc o) ((y.heap.size, o) :: L) S I := by
  have h2 := h.up ((Below.refl y.heap.size y).alloc (Nat.le_refl _) o)
  exact ⟨h.sb.alloc o, h2.sv, h2.iv⟩
theorem NM.cell {w y : World} {L : List (Nat × Obj)} {S : List (List Nst × Value)} {I : List (List Int × Value)} (h : NM w y L S I) {b : Nat} {cs : Array Value} {t : TypeId} (hm : (b, Obj.cells cs t (0, 0)) ∈ L) (i : Nat) : y.cell? ⟨b, i, none⟩ = cs[i]? := cell_of_row y b i _ t (0, 0) (h.sb.2 _ hm).2
theorem NM.bel {w y : World} {L : List (Nat × Obj)} {S : List (List Nst × Value)} {I : List (List Int × Value)} (h : NM w y L S I) : Below w.heap.size w y := h.sb.1
end Go.Proofs.YthglciccejholaaDoor
end
section
/- Package nfa. -/
namespace Go.Proofs.YthglciccejholaaDoor
set_option linter.unusedSimpArgs false
set_option linter.unusedVariables false
set_option maxRecDepth 100000
open Go.RowKit
/- NfaMore: what is accepted, and lists as sources. -/
end Go.Proofs.YthglciccejholaaDoor
end
