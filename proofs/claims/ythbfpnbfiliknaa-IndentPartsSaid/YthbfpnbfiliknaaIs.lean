/- Package indent. -/
import Derived.Test.YthbfpnbfiliknaaProg
import Derived.Test.YthbfpnbfiliknaaIr
import Derived.Great.BuildSlice
import Derived.WalkKit
import Derived.Maps.OwnSet
import Derived.Maps.OwnOps
import Derived.Maps.Own
import Derived.DeepKeys5
import Derived.BigFrame
import Derived.WalkMore
import Derived.ScopeJumps
import Derived.StillTailTactics
import Derived.Stop.BytesEq
import Derived.WalkLawsBesides
import Derived.WalkSpells
import Derived.Outline
import Derived.Lib.Walk
import Derived.Lib.Hide
import Derived.Lib.Slices
import Derived.Lib.Strings
import Derived.RegionTactic
import Derived.LoopTactic
import Derived.Below
import Derived.IntWalk
import Derived.Deep.QuietTactic
import Derived.BigQuiet
import Derived.Deep.MidRow
import Derived.Maps.AppendAt
import Derived.Laws.Rows
import Derived.Laws.Tables
import Derived.Deep.WholeRow
import Derived.Deep.Cut
import Derived.Deep.CutRange
import Derived.Lib.SliceRun
import Derived.Laws.MakeOwn
import Derived.Deep.RegionLaw
import Derived.Deep.RegionLawGrows
import Derived.Deep.RegionHeld3
import Derived.RegionCalls
import Derived.Deep.RegionWith
import Derived.Deep.Light
import Derived.Laws.CopyOwn
import Derived.Laws.ResultCell
namespace Go.Proofs.Ythbfpnbfiliknaa
set_option linter.unusedSimpArgs false
set_option linter.unusedVariables false
set_option maxRecDepth 100000
open Go.RowKit
/- What follows: plain. -/
def sumT : List Tk → Int
  | [] => 0
  | t :: l => t.2.1 + t.2.2 + sumT l
theorem sumT_app : ∀ (l r : List Tk), sumT (l ++ r) = sumT l + sumT r
  | [], r => by simp [sumT]
  | t :: l, r => by rw [List.cons_append, sumT, sumT, sumT_app l r]; omega
def depN (d k : Int) : Int := if k = 20 then d + 1 else if k = 21 then d - 1 else d
def depS (d : Int) : List Tk → Option Int
  | [] => some d
  | t :: l => if depN d t.1 < 0 ∨ t.2.1 < 0 ∨ t.2.2 < 0 then none else depS (depN d t.1) l
theorem depS_cons {d e : Int} {t : Tk} {l : List Tk} (h : depS d (t :: l) = some e) : 0 ≤ depN d t.1 ∧ 0 ≤ t.2.1 ∧ 0 ≤ t.2.2 ∧ depS (depN d t.1) l = some e := by
  unfold depS at h
  split at h
  · cases h
  · rename_i h2
    exact ⟨by omega, by omega, by omega, h⟩
theorem depS_mk {d e : Int} {t : Tk} {l : List Tk} (h1 : 0 ≤ depN d t.1) (h2 : 0 ≤ t.2.1) (h3 : 0 ≤ t.2.2) (h : depS (depN d t.1) l = some e) : depS d (t :: l) = some e := by
  unfold depS; rw [if_neg (by omega)]; exact h
theorem depS_app : ∀ {l r : List Tk} {d e f : Int}, depS d l = some e → depS e r = some f → depS d (l ++ r) = some f
  | [], r, d, e, f, h1, h2 => by
    injection h1 with h1
    subst h1; exact h2
  | t :: l, r, d, e, f, h1, h2 => by
    obtain ⟨a, b, c, h⟩ := depS_cons h1
    exact depS_mk a b c (depS_app h h2)
theorem depS_sum : ∀ {l : List Tk} {d e : Int}, depS d l = some e → 0 ≤ sumT l
  | [], _, _, _ => Int.le_refl 0
  | t :: l, d, e, h => by
    obtain ⟨_, h1, h2, h3⟩ := depS_cons h
    have := depS_sum h3
    unfold sumT; omega
theorem depS_rep : ∀ (n : Nat) (d : Int), (n : Int) ≤ d → depS d (List.replicate n (21, 0, 0)) = some (d - n)
  | 0, d, h => by simp [depS]
  | n + 1, d, h => by
    rw [List.replicate_succ]
    refine depS_mk (by first | (simp [depN]; omega) | simp [depN]) (by simp) (by simp) ?_
    rw [show depN d ((21, 0, 0) : Tk).1 = d - 1 by simp [depN], depS_rep n (d - 1) (by omega)]
    congr 1; omega
theorem sumT_rep (n : Nat) (k : Int) : sumT (List.replicate n (k, 0, 0)) = 0 := by
  induction n with
  | zero => rfl
  | succ n ih => rw [List.replicate_succ, sumT, ih]; simp
theorem depS_lead {d e x : Int} {l : List Tk} (hx : 0 ≤ x) (h : depS d l = some e) : depS d (leadF x l) = some e := by
  cases l with
  | nil => exact h
  | cons t l =>
    obtain ⟨a, b, c⟩ := t
    obtain ⟨h1, h2, h3, h4⟩ := depS_cons h
    exact depS_mk h1 hx h3 h4
theorem sumT_lead (x : Int) (t : Tk) (l : List Tk) : sumT (leadF x (t :: l)) = x + t.2.2 + sumT l := rfl
theorem blkF_zero (cols : List Int) (col : Int) : ∀ t ∈ (blkF cols col).2, t.2.1 = 0 ∧ t.2.2 = 0 ∧ (t.1 = 20 ∨ t.1 = 21 ∨ t.1 = 23) := by
  unfold blkF
  split
  · intro t ht; simp only [List.mem_singleton] at ht; subst ht; exact ⟨rfl, rfl, .inl rfl⟩
  · intro t ht
    rcases List.mem_append.1 ht with h | h
    · rw [(List.mem_replicate.1 h).2]; exact ⟨rfl, rfl, .inr (.inl rfl)⟩
    · split at h
      · simp only [List.mem_singleton] at h; subst h; exact ⟨rfl, rfl, .inr (.inr rfl)⟩
      · cases h
theorem sumT_zero : ∀ {l : List Tk}, (∀ t ∈ l, t.2.1 = 0 ∧ t.2.2 = 0) → sumT l = 0
  | [], _ => rfl
  | t :: l, h => by
    obtain ⟨h1, h2⟩ := h t (List.mem_cons_self ..)
    rw [sumT, h1, h2, sumT_zero fun t ht => h t (List.mem_cons_of_mem _ ht)]; rfl
theorem sumT_leadF (x : Int) {l : List Tk} (h : ∀ t ∈ l, t.2.1 = 0 ∧ t.2.2 = 0) (k n : Int) : sumT (leadF x (l ++ [(k, 0, n)])) = x + n := by
  cases l with
  | nil => simp [leadF, sumT]
  | cons t l =>
    rw [List.cons_append, sumT_lead, (h t (List.mem_cons_self ..)).2, sumT_app, sumT_zero fun t ht => h t (List.mem_cons_of_mem _ ht)]
    simp [sumT]
theorem blkF_dep {cols : List Int} {col : Int} (h0 : cols.getD 0 0 = 0) (hc : 0 ≤ col) (hn : 0 < cols.length) : depS ((cols.length : Int) - 1) (blkF cols col).2 = some (((blkF cols col).1.length : Int) - 1) := by
  unfold blkF
  split
  · refine depS_mk (by first | (simp [depN]; omega) | simp [depN]) (by simp) (by simp) ?_
    simp [depS, depN]
  · have hk := keepN_le cols col cols.length
    have hp := keepN_pos h0 hc hn
    refine depS_app (depS_rep _ _ (by omega)) ?_
    have e : ((cols.length : Int) - 1 - ((cols.length - keepN cols col cols.length : Nat) : Int)) = (((cols.take (keepN cols col cols.length)).length : Int) - 1) := by rw [List.length_take]; omega
    rw [e]
    split
    · refine depS_mk (by simp [depN, List.length_take]; omega) (by simp) (by simp) ?_
      simp [depS, depN]
    · rfl
/-- What a step tells. -/
theorem stepF_dep {m : Mk} (h : May m) {s : List Nat} {k n : Int} (hn : 0 ≤ n) (hk : k ≠ 20 ∧ k ≠ 21 ∧ k ≠ 22) :
    depS ((m.cols.length : Int) - 1) (stepF m s k n).2 = some (((stepF m s k n).1.cols.length : Int) - 1) ∧ sumT (stepF m s k n).2 + (stepF m s k n).1.lead = m.lead + n ∧ ∀ t ∈ (stepF m s k n).2, t.1 ≠ 22 := by
  have hl := h.l0
  have hd : 0 ≤ (m.cols.length : Int) - 1 := by have := h.ne; omega
  unfold stepF
  split
  · exact ⟨rfl, by simp [sumT], by simp⟩
  · split
    · exact ⟨rfl, by simp [sumT], by simp⟩
    · split
      · split
        · refine ⟨depS_mk (by first | (simp [depN]; omega) | simp [depN]) (by simp only []; omega) hn (by simp [depS, depN]), by simp [sumT], by simp⟩
        · exact ⟨rfl, by simp [sumT], by simp⟩
      · have one : ∀ d x : Int, 0 ≤ d → 0 ≤ x → depS d [((k, x, n) : Tk)] = some d := fun d x h1 h2 => by
          have e : depN d k = d := by unfold depN; rw [if_neg hk.1, if_neg hk.2.1]
          refine depS_mk (by simp only []; rw [e]; exact h1) h2 hn ?_
          simp only [e]; rfl
        unfold tokF
        split
        · have hb := blkF_dep h.h0 h.c0 h.ne
          have hz := blkF_zero m.cols m.col
          have hp : 0 < (blkF m.cols m.col).1.length := by
            unfold blkF; split
            · simp
            · have := keepN_pos (col := m.col) h.h0 h.c0 h.ne
              have := keepN_le m.cols m.col m.cols.length
              simp only [List.length_take]; omega
          refine ⟨depS_lead hl (depS_app hb (one _ 0 (by omega) (by omega))), by rw [sumT_leadF m.lead (fun t ht => ⟨(hz t ht).1, (hz t ht).2.1⟩)]; simp, fun t ht => ?_⟩
          have hl2 : ∀ (x : Int) (l : List Tk), (∀ t ∈ l, t.1 ≠ 22) → ∀ t ∈ leadF x l, t.1 ≠ 22 := fun x l hl t ht => by
            cases l with
            | nil => cases ht
            | cons a l =>
              obtain ⟨a, b, c⟩ := a
              rcases List.mem_cons.1 ht with rfl | ht
              · exact hl (a, b, c) (List.mem_cons_self ..)
              · exact hl t (List.mem_cons_of_mem _ ht)
          refine hl2 _ _ (fun t ht => ?_) t ht
          rcases List.mem_append.1 ht with h1 | h1
          · rcases (hz t h1).2.2 with e | e | e <;> rw [e] <;> decide
          · simp only [List.mem_singleton] at h1; subst h1; exact hk.2.2
        · exact ⟨one _ _ hd hl, by simp [sumT], fun t ht => by simp only [List.mem_singleton] at ht; subst ht; exact hk.2.2⟩
theorem endF_dep {m : Mk} (h : May m) : depS ((m.cols.length : Int) - 1) (endF m) = some 0 ∧ sumT (endF m) = m.lead := by
  have hn := h.ne
  have hl := h.l0
  have hd : 0 ≤ (m.cols.length : Int) - 1 := by omega
  unfold endF
  constructor
  · refine depS_app (e := 0) (depS_app (e := (m.cols.length : Int) - 1) ?_ ?_) ?_
    · split
      · rfl
      · exact depS_mk (by first | (simp [depN]; omega) | simp [depN]) (by simp) (by simp) (by simp [depS, depN])
    · rw [depS_rep _ _ (by omega)]; congr 1; omega
    · exact depS_mk (by simp [depN]) hl (by simp) (by simp [depS, depN])
  · rw [sumT_app, sumT_app, sumT_rep]
    split <;> simp [sumT]
/-- What holds of what has come up so far. -/
structure Wh (tot : Int) (x : Lx) (m : Mk) (left : Int) (n : Nat) : Prop where
  dep : depS 0 x.toks = some ((m.cols.length : Int) - 1)
  sum : sumT x.toks + m.lead + left = tot
  kd : ∀ t ∈ x.toks, t.1 ≠ 22
  mks : ∀ y ∈ x.marks, May y
  may : May m
  lm : x.marks.length = n + 1
  lc : x.counts.length = n + 1
  c0 : x.counts.getD 0 0 = 0
  up : ∀ i, i < n → x.counts.getD i 0 ≤ x.counts.getD (i + 1) 0
  top : x.counts.getD n 0 = (x.toks.length : Int)
theorem Wh.start (tot : Int) : Wh tot ⟨[m0], [0], []⟩ m0 tot 0 :=
  ⟨rfl, by simp [sumT, m0], by simp, by simp only [List.mem_singleton]; rintro y rfl; exact m0_may, m0_may, rfl, rfl, rfl, fun i h => by omega, rfl⟩
theorem Wh.step {tot left : Int} {x : Lx} {m : Mk} {n : Nat} (h : Wh tot x m left n) {s : List Nat} {k ln : Int} (hs : Made m s ln) (hk : k ≠ 20 ∧ k ≠ 21 ∧ k ≠ 22) :
    Wh tot ⟨x.marks ++ [(stepF m s k ln).1], x.counts ++ [((x.toks ++ (stepF m s k ln).2).length : Int)], x.toks ++ (stepF m s k ln).2⟩ (stepF m s k ln).1 (left - ln) (n + 1) := by
  have hmay := stepF_may h.may hs (k := k)
  obtain ⟨h1, h2, h3⟩ := stepF_dep h.may (s := s) (k := k) (n := ln) (by have := hs.1; omega) hk
  have hlc := h.lc
  refine ⟨depS_app h.dep h1, by rw [sumT_app]; have := h.sum; omega, fun t ht => (List.mem_append.1 ht).elim (h.kd t) (h3 t), fun y hy => ?_, hmay, by simp [h.lm], by simp [h.lc], ?_, fun i hi => ?_, ?_⟩
  · rcases List.mem_append.1 hy with e | e
    · exact h.mks y e
    · rw [List.mem_singleton.1 e]; exact hmay
  · simp only []; rw [getD_app (by omega)]; exact h.c0
  · simp only []
    by_cases e : i < n
    · rw [getD_app (by omega), getD_app (by omega)]; exact h.up i e
    · rw [getD_app (by omega), show i + 1 = x.counts.length by omega, getD_end, show i = n by omega, h.top]
      simp only [List.length_append]; omega
  · simp only []; rw [← hlc, getD_end]
theorem Wh.run {tot : Int} : ∀ {l : List Rw} {s : List Nat} {x : Lx} {m : Mk} {n : Nat}, Wh tot x m (s.length : Nat) n → m.lead + (s.length : Int) ≤ 65536 → areP (s.length : Nat) l = true → (∀ r ∈ l, r.1 ≠ 20 ∧ r.1 ≠ 21 ∧ r.1 ≠ 22) →
    Wh tot (runF x m s l).1 (runF x m s l).2 0 (n + l.length)
  | [], s, x, m, n, h, _, ha, _ => by
    have := areP_zero ha
    rw [this] at h
    exact h
  | r :: l, s, x, m, n, h, hl, ha, hk => by
    obtain ⟨a1, a2, a3⟩ := areP_pos ha
    obtain ⟨k, ln, lk⟩ := r
    simp only [] at a1 a2 a3
    obtain ⟨q, rfl⟩ : ∃ q : Nat, ln = (q : Int) := ⟨ln.toNat, by omega⟩
    have hmd : Made m (s.take q) (q : Nat) := ⟨by omega, by rw [List.length_take]; omega, by omega⟩
    have h2 := h.step hmd (hk _ (List.mem_cons_self ..))
    unfold runF
    simp only [Int.toNat_natCast]
    have e : ((s.drop q).length : Int) = (s.length : Int) - (q : Int) := by rw [List.length_drop]; omega
    have h3 := Wh.run (l := l) (s := s.drop q) (by rw [e]; exact h2) (by rw [e]; have := stepF_lead (m := m) (s := s.take q) (k := k) h.may.l0 (show (0 : Int) ≤ (q : Int) by omega); simp only [] at this ⊢; omega) (by rw [e]; exact a3) (fun r hr => hk r (List.mem_cons_of_mem _ hr))
    rw [List.length_cons, show n + (l.length + 1) = n + 1 + l.length by omega]
    exact h3
end Go.Proofs.Ythbfpnbfiliknaa
