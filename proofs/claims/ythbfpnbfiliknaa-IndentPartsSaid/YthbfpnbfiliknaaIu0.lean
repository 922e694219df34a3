/- Package indent. -/
import Derived.Test.YthbfpnbfiliknaaProg
import Derived.Test.YthbfpnbfiliknaaIt0
import Derived.Great.BuildSlice
import Derived.WalkKit
import Derived.Maps.OwnSet
import Derived.Maps.OwnOps
import Derived.Maps.Own
import Derived.DeepKeys5
import Derived.BigFrame
import Derived.WalkMore
import Derived.ScopeJumps
import Derived.StillTailTactics
import Derived.Stop.BytesEq
import Derived.WalkLawsBesides
import Derived.WalkSpells
import Derived.Outline
import Derived.Lib.Walk
import Derived.Lib.Hide
import Derived.Lib.Slices
import Derived.Lib.Strings
import Derived.RegionTactic
import Derived.LoopTactic
import Derived.Below
import Derived.IntWalk
import Derived.Deep.QuietTactic
import Derived.BigQuiet
import Derived.Deep.MidRow
import Derived.Maps.AppendAt
import Derived.Laws.Rows
import Derived.Laws.Tables
import Derived.Deep.WholeRow
import Derived.Deep.Cut
import Derived.Deep.CutRange
import Derived.Lib.SliceRun
import Derived.Laws.MakeOwn
import Derived.Deep.RegionLaw
import Derived.Deep.RegionLawGrows
import Derived.Deep.RegionHeld3
import Derived.RegionCalls
import Derived.Deep.RegionWith
import Derived.Deep.Light
import Derived.Laws.CopyOwn
import Derived.Laws.ResultCell
namespace Go.Proofs.Ythbfpnbfiliknaa
set_option linter.unusedSimpArgs false
set_option linter.unusedVariables false
set_option maxRecDepth 100000
open Go.RowKit
/- What IndentOpen asks: plain. -/
abbrev tg (l : List Tk) (k : Nat) : Tk := l.getD k (0, 0, 0)
theorem tg_app {l r : List Tk} {k : Nat} (h : k < l.length) : tg (l ++ r) k = tg l k := by simp [tg, List.getD, List.getElem?_append_left h]
theorem tg_app2 {l r : List Tk} (k : Nat) : tg (l ++ r) (l.length + k) = tg r k := by simp [tg, List.getD, List.getElem?_append_right]
theorem tg_mem {l : List Tk} {k : Nat} (h : k < l.length) : tg l k ∈ l := by
  have : tg l k = l[k] := by simp [tg, List.getD, h]
  rw [this]; exact List.getElem_mem h
/-- A step's tokens: while a bracket is open; where a block may begin. -/
theorem stepF_open {m : Mk} {s : List Nat} {k n : Int} (hk : k ≠ 20 ∧ k ≠ 21) (ho : 0 < m.opn) : ∀ t ∈ (stepF m s k n).2, t.1 ≠ 19 ∧ t.1 ≠ 20 ∧ t.1 ≠ 21 := by
  unfold stepF
  split
  · simp
  · split
    · simp
    · split
      · rw [if_neg (by omega)]; simp
      · rename_i h1 h2 h3
        unfold tokF begF
        rw [if_neg (by simp; omega)]
        intro t ht
        simp only [List.mem_singleton] at ht
        subst ht
        exact ⟨h3, hk.1, hk.2⟩
theorem leadF_kind (x : Int) (l : List Tk) (k : Nat) : (tg (leadF x l) k).1 = (tg l k).1 := by
  cases l with
  | nil => rfl
  | cons t l =>
    obtain ⟨a, b, c⟩ := t
    cases k <;> simp [leadF, tg]
theorem stepF_ind {m : Mk} {s : List Nat} {k n : Int} (hk : k ≠ 20 ∧ k ≠ 21) {i : Nat} (hi : i < (stepF m s k n).2.length) (h : (tg (stepF m s k n).2 i).1 = 20) : i = 0 ∧ m.fresh = true := by
  unfold stepF at hi h
  split at hi
  · simp at hi
  · rename_i a1
    rw [if_neg a1] at h
    split at hi
    · simp at hi
    · rename_i a2
      rw [if_neg a2] at h
      split at hi
      · rename_i a3
        rw [if_pos a3] at h
        split at hi
        · rename_i a4
          rw [if_pos a4] at h
          have : i = 0 := by simp at hi; omega
          subst this
          simp [tg] at h
        · simp at hi
      · rename_i a3
        rw [if_neg a3] at h
        unfold tokF at hi h
        split at hi
        · rename_i a4
          rw [if_pos a4] at h
          simp only [] at h hi
          rw [leadF_kind] at h
          rw [leadF_len] at hi
          have hfr : m.fresh = true := by unfold begF at a4; simp at a4; exact a4.1
          refine ⟨?_, hfr⟩
          unfold blkF at h hi
          split at h
          · rename_i a5
            rw [if_pos a5] at hi
            have : i = 0 ∨ i = 1 := by simp at hi; omega
            rcases this with rfl | rfl
            · rfl
            · simp [tg] at h; exact absurd h hk.1
          · rename_i a5
            rw [if_neg a5] at hi
            exfalso
            have key : ∀ t ∈ (List.replicate (m.cols.length - keepN m.cols m.col m.cols.length) ((21, 0, 0) : Tk) ++ (if m.cols.getD (keepN m.cols m.col m.cols.length - 1) 0 < m.col then [((23, 0, 0) : Tk)] else [])) ++ [(k, 0, n)], t.1 ≠ 20 := fun t ht => by
              rcases List.mem_append.1 ht with hm | hm
              · rcases List.mem_append.1 hm with hm | hm
                · rw [(List.mem_replicate.1 hm).2]; decide
                · split at hm
                  · simp only [List.mem_singleton] at hm; rw [hm]; decide
                  · cases hm
              · simp only [List.mem_singleton] at hm; rw [hm]; exact hk.1
            exact key _ (tg_mem hi) h
        · rename_i a4
          rw [if_neg a4] at h
          have : i = 0 := by simp at hi; omega
          subst this
          simp [tg] at h
          exact absurd h hk.1
theorem stepF_fresh {m : Mk} {s : List Nat} {k n : Int} (h : (stepF m s k n).1.fresh = true) : ((stepF m s k n).2 = [] ∧ m.fresh = true) ∨ ∃ x, (stepF m s k n).2 = [((19 : Int), x, n)] := by
  unfold stepF at h ⊢
  split
  · rename_i a; rw [if_pos a] at h; exact .inl ⟨rfl, h⟩
  · rename_i a; rw [if_neg a] at h
    split
    · rename_i b; rw [if_pos b] at h; exact .inl ⟨rfl, h⟩
    · rename_i b; rw [if_neg b] at h
      split
      · rename_i c; rw [if_pos c] at h
        split
        · exact .inr ⟨_, rfl⟩
        · rename_i d; rw [if_neg d] at h; exact .inl ⟨rfl, h⟩
      · rename_i c; rw [if_neg c] at h
        unfold tokF at h
        split at h <;> cases h
structure Wo (x : Lx) (m : Mk) (n : Nat) : Prop where
  lm : x.marks.length = n + 1
  lc : x.counts.length = n + 1
  last : x.marks[n]? = some m
  c0 : ∀ i, i ≤ n → 0 ≤ x.counts.getD i 0
  up : ∀ i, i < n → x.counts.getD i 0 ≤ x.counts.getD (i + 1) 0
  top : x.counts.getD n 0 = (x.toks.length : Int)
  fr : m.fresh = true → x.toks = [] ∨ (tg x.toks (x.toks.length - 1)).1 = 19
  op : ∀ i, i < n → ∀ y, x.marks[i]? = some y → 0 < y.opn → ∀ k : Nat, x.counts.getD i 0 ≤ (k : Int) → (k : Int) < x.counts.getD (i + 1) 0 → (tg x.toks k).1 ≠ 19 ∧ (tg x.toks k).1 ≠ 20 ∧ (tg x.toks k).1 ≠ 21
  ind : ∀ k, 0 < k → k < x.toks.length → (tg x.toks k).1 = 20 → (tg x.toks (k - 1)).1 = 19
theorem Wo.start : Wo ⟨[m0], [0], []⟩ m0 0 :=
  ⟨rfl, rfl, rfl, fun i hi => by rw [show i = 0 by omega]; decide, fun i h => by omega, rfl, fun _ => .inl rfl, fun i h => by omega, fun k _ h => by simp at h⟩
theorem Wo.cle {x : Lx} {m : Mk} {n : Nat} (h : Wo x m n) : ∀ i, i ≤ n → x.counts.getD i 0 ≤ (x.toks.length : Int) := fun i hi => by
  have mono : ∀ d i, i + d = n → x.counts.getD i 0 ≤ x.counts.getD n 0 := fun d => by
    induction d with
    | zero => intro i hi; rw [show i = n by omega]; omega
    | succ d ih => intro i hi; have := ih (i + 1) (by omega); have := h.up i (by omega); omega
  have := mono (n - i) i (by omega)
  rw [h.top] at this; exact this
theorem Wo.step {x : Lx} {m : Mk} {n : Nat} (h : Wo x m n) {s : List Nat} {k ln : Int} (hk : k ≠ 20 ∧ k ≠ 21) :
    Wo ⟨x.marks ++ [(stepF m s k ln).1], x.counts ++ [((x.toks ++ (stepF m s k ln).2).length : Int)], x.toks ++ (stepF m s k ln).2⟩ (stepF m s k ln).1 (n + 1) := by
  have hlc := h.lc
  have hlm := h.lm
  have hop := fun ho : 0 < m.opn => stepF_open (m := m) (s := s) (k := k) (n := ln) hk ho
  have hind := fun i hi hq => stepF_ind (m := m) (s := s) (k := k) (n := ln) hk (i := i) hi hq
  have hfr := stepF_fresh (m := m) (s := s) (k := k) (n := ln)
  obtain ⟨⟨m2, tk⟩, hz⟩ : ∃ z, stepF m s k ln = z := ⟨_, rfl⟩
  rw [hz] at hop hind hfr ⊢
  simp only [] at hop hind hfr ⊢
  have cold : ∀ i, i ≤ n → (x.counts ++ [((x.toks ++ tk).length : Int)]).getD i 0 = x.counts.getD i 0 := fun i hi => getD_app (by omega)
  have cnew : (x.counts ++ [((x.toks ++ tk).length : Int)]).getD (n + 1) 0 = ((x.toks ++ tk).length : Int) := by rw [← hlc]; exact getD_end _ _
  refine ⟨by simp [hlm], by simp [hlc], by simp only []; rw [← hlm]; simp, fun i hi => ?_, fun i hi => ?_, cnew, fun hf => ?_, fun i hi y hy ho k hk1 hk2 => ?_, fun q hq1 hq2 hq3 => ?_⟩
  · simp only []
    by_cases e : i ≤ n
    · rw [cold i e]; exact h.c0 i e
    · rw [show i = n + 1 by omega, cnew]; omega
  · simp only []
    by_cases e : i < n
    · rw [cold i (by omega), cold (i + 1) (by omega)]; exact h.up i e
    · rw [show i = n by omega, cold n (by omega), cnew, h.top, List.length_append]; omega
  · simp only [] at hf ⊢
    rcases hfr hf with ⟨e, hm⟩ | ⟨b, e⟩
    · subst e
      rw [List.append_nil]; exact h.fr hm
    · subst e
      right
      rw [List.length_append, List.length_singleton, Nat.add_sub_cancel]
      have := tg_app2 (l := x.toks) (r := [((19 : Int), b, ln)]) 0
      rw [Nat.add_zero] at this
      rw [this]; rfl
  · simp only [] at hy hk1 hk2 ⊢
    by_cases e : i < n
    · rw [cold i (by omega)] at hk1
      rw [cold (i + 1) (by omega)] at hk2
      have := h.cle (i + 1) (by omega)
      rw [tg_app (by omega)]
      exact h.op i e y (by rw [← hy, List.getElem?_append_left (by omega)]) ho k hk1 hk2
    · obtain rfl : i = n := by omega
      rw [cold i (by omega), h.top] at hk1
      rw [cnew, List.length_append] at hk2
      have hy2 : some m = some y := by rw [← hy, List.getElem?_append_left (by omega), h.last]
      injection hy2 with hy2
      subst hy2
      obtain ⟨q, rfl⟩ : ∃ q, k = x.toks.length + q := ⟨k - x.toks.length, by omega⟩
      rw [tg_app2]
      exact hop ho _ (tg_mem (by omega))
  · simp only [] at hq2 hq3 ⊢
    by_cases e : q < x.toks.length
    · rw [tg_app e] at hq3
      rw [tg_app (by omega)]
      exact h.ind q hq1 e hq3
    · obtain ⟨i, rfl⟩ : ∃ i, q = x.toks.length + i := ⟨q - x.toks.length, by omega⟩
      rw [tg_app2] at hq3
      rw [List.length_append] at hq2
      obtain ⟨rfl, hf⟩ := hind i (by omega) hq3
      rw [Nat.add_zero] at hq1 ⊢
      rw [tg_app (by omega)]
      rcases h.fr hf with e2 | e2
      · rw [e2] at hq1; simp at hq1
      · exact e2
theorem Wo.run : ∀ {l : List Rw} {s : List Nat} {x : Lx} {m : Mk} {n : Nat}, Wo x m n → (∀ r ∈ l, r.1 ≠ 20 ∧ r.1 ≠ 21) → Wo (runF x m s l).1 (runF x m s l).2 (n + l.length)
  | [], s, x, m, n, h, _ => h
  | r :: l, s, x, m, n, h, hk => by
    have h2 := h.step (s := s.take r.2.1.toNat) (ln := r.2.1) (hk r (List.mem_cons_self ..))
    unfold runF
    have h3 := Wo.run (l := l) (s := s.drop r.2.1.toNat) h2 (fun r hr => hk r (List.mem_cons_of_mem _ hr))
    rw [List.length_cons, show n + (l.length + 1) = n + 1 + l.length by omega]
    exact h3
/-- What All answers. -/
structure Wq (l : List Rw) (x : Lx) : Prop where
  lm : x.marks.length = l.length + 1
  lc : x.counts.length = l.length + 1
  c0 : ∀ i, i ≤ l.length → 0 ≤ x.counts.getD i 0
  le : ∀ i, i ≤ l.length → x.counts.getD i 0 ≤ (x.toks.length : Int)
  op : ∀ i, i < l.length → ∀ y, x.marks[i]? = some y → 0 < y.opn → ∀ k : Nat, x.counts.getD i 0 ≤ (k : Int) → (k : Int) < x.counts.getD (i + 1) 0 → (tg x.toks k).1 ≠ 19 ∧ (tg x.toks k).1 ≠ 20 ∧ (tg x.toks k).1 ≠ 21
  ind : ∀ i, i < l.length → ∀ k : Nat, 0 < k → (k : Int) < x.counts.getD (i + 1) 0 → (tg x.toks k).1 = 20 → (tg x.toks (k - 1)).1 = 19
theorem wq_all {s : ByteArray} {l : List Rw} {q : List Rw × Lx} (h : allQ s l = (q, 0)) (hk : ∀ r ∈ l, r.1 ≠ 20 ∧ r.1 ≠ 21) : Wq l q.2 := by
  unfold allQ at h
  split at h
  · injection h with h1 h2; cases h2
  · split at h
    · injection h with h1 h2; cases h2
    · injection h with h1 h2
      subst h1
      have hw := Wo.run (l := l) (s := bl s) Wo.start hk
      rw [Nat.zero_add] at hw
      change Wo (allR (bl s) l).1 (allR (bl s) l).2 l.length at hw
      obtain ⟨⟨x, m⟩, hz⟩ : ∃ z, allR (bl s) l = z := ⟨_, rfl⟩
      rw [hz] at hw ⊢
      simp only [] at hw ⊢
      refine ⟨hw.lm, hw.lc, hw.c0, fun i hi => ?_, fun i hi y hy ho k h1 h2 => ?_, fun i hi k h1 h2 h3 => ?_⟩
      · simp only [List.length_append]; have := hw.cle i hi; omega
      · have := hw.cle (i + 1) (by omega)
        simp only [] at h2 ⊢
        rw [tg_app (by omega)]; exact hw.op i hi y hy ho k h1 h2
      · have := hw.cle (i + 1) (by omega)
        simp only [] at h2 h3 ⊢
        rw [tg_app (by omega)] at h3 ⊢
        exact hw.ind k h1 (by omega) h3
theorem allQ_l {s : ByteArray} {l : List Rw} {q : List Rw × Lx} (h : allQ s l = (q, 0)) : q.1 = l := by
  unfold allQ at h
  split at h
  · injection h with h1 h2; cases h2
  · split at h
    · injection h with h1 h2; cases h2
    · injection h with h1 h2
      subst h1; rfl
end Go.Proofs.Ythbfpnbfiliknaa
