/- Package indent. -/
import Derived.Test.YthbfpnbfiliknaaProg
import Derived.Test.YthbfpnbfiliknaaIs
import Derived.Great.BuildSlice
import Derived.WalkKit
import Derived.Maps.OwnSet
import Derived.Maps.OwnOps
import Derived.Maps.Own
import Derived.DeepKeys5
import Derived.BigFrame
import Derived.WalkMore
import Derived.ScopeJumps
import Derived.StillTailTactics
import Derived.Stop.BytesEq
import Derived.WalkLawsBesides
import Derived.WalkSpells
import Derived.Outline
import Derived.Lib.Walk
import Derived.Lib.Hide
import Derived.Lib.Slices
import Derived.Lib.Strings
import Derived.RegionTactic
import Derived.LoopTactic
import Derived.Below
import Derived.IntWalk
import Derived.Deep.QuietTactic
import Derived.BigQuiet
import Derived.Deep.MidRow
import Derived.Maps.AppendAt
import Derived.Laws.Rows
import Derived.Laws.Tables
import Derived.Deep.WholeRow
import Derived.Deep.Cut
import Derived.Deep.CutRange
import Derived.Lib.SliceRun
import Derived.Laws.MakeOwn
import Derived.Deep.RegionLaw
import Derived.Deep.RegionLawGrows
import Derived.Deep.RegionHeld3
import Derived.RegionCalls
import Derived.Deep.RegionWith
import Derived.Deep.Light
import Derived.Laws.CopyOwn
import Derived.Laws.ResultCell
namespace Go.Proofs.Ythbfpnbfiliknaa
set_option linter.unusedSimpArgs false
set_option linter.unusedVariables false
set_option maxRecDepth 100000
open Go.RowKit
/- What All answers: plain. -/
structure Wf (s : ByteArray) (l : List Rw) (x : Lx) : Prop where
  lm : x.marks.length = l.length + 1
  lc : x.counts.length = l.length + 1
  c0 : x.counts.getD 0 0 = 0
  up : ∀ i, i < l.length → x.counts.getD i 0 ≤ x.counts.getD (i + 1) 0
  top : ∀ i, i ≤ l.length → x.counts.getD i 0 + 1 ≤ (x.toks.length : Int)
  mks : ∀ y ∈ x.marks, May y
  dep : depS 0 x.toks = some 0
  sum : sumT x.toks = (s.size : Int)
  last : ∃ T ld, x.toks = T ++ [(22, ld, 0)] ∧ ∀ t ∈ T, t.1 ≠ 22
theorem wf_all {s : ByteArray} {l : List Rw} {q : List Rw × Lx} (h : allQ s l = (q, 0)) (hk : ∀ r ∈ l, r.1 ≠ 20 ∧ r.1 ≠ 21 ∧ r.1 ≠ 22) : q.1 = l ∧ Wf s l q.2 ∧ s.size ≤ 65536 := by
  unfold allQ at h
  split at h
  · injection h with h1 h2; cases h2
  · rename_i hs
    split at h
    · injection h with h1 h2; cases h2
    · rename_i ha
      injection h with h1 h2
      subst h1
      have ha2 : areP (s.size : Nat) l = true := by simpa using ha
      have hw := Wh.run (tot := (s.size : Int)) (l := l) (s := bl s) (x := ⟨[m0], [0], []⟩) (m := m0) (n := 0) (by rw [bl_len]; exact Wh.start _) (by rw [bl_len]; simp only [m0]; omega) (by rw [bl_len]; exact ha2) hk
      rw [Nat.zero_add] at hw
      change Wh (s.size : Int) (allR (bl s) l).1 (allR (bl s) l).2 0 l.length at hw
      obtain ⟨⟨x, m⟩, hz⟩ : ∃ z, allR (bl s) l = z := ⟨_, rfl⟩
      rw [hz] at hw ⊢
      simp only [] at hw ⊢
      obtain ⟨e1, e2⟩ := endF_dep hw.may
      refine ⟨trivial, ⟨hw.lm, hw.lc, hw.c0, hw.up, fun i hi => ?_, hw.mks, depS_app hw.dep e1, by simp only []; rw [sumT_app, e2]; have := hw.sum; omega, ?_⟩, by omega⟩
      · have mono : ∀ d i, i + d = l.length → x.counts.getD i 0 ≤ x.counts.getD l.length 0 := fun d => by
          induction d with
          | zero => intro i hi; rw [show i = l.length by omega]; omega
          | succ d ih => intro i hi; have := ih (i + 1) (by omega); have := hw.up i (by omega); omega
        have h1 := mono (l.length - i) i (by omega)
        rw [hw.top] at h1
        have h2 : 1 ≤ (endF m).length := by unfold endF; simp only [List.length_append, List.length_singleton]; omega
        simp only [List.length_append]; omega
      · refine ⟨x.toks ++ ((if m.fresh = true then [] else [(19, 0, 0)]) ++ List.replicate (m.cols.length - 1) (21, 0, 0)), m.lead, by unfold endF; simp only [List.append_assoc], fun t ht => ?_⟩
        rcases List.mem_append.1 ht with h | h
        · exact hw.kd t h
        · rcases List.mem_append.1 h with h | h
          · split at h
            · cases h
            · simp only [List.mem_singleton] at h; subst h; decide
          · rw [(List.mem_replicate.1 h).2]; decide
theorem allQ_mt {s : ByteArray} {l : List Rw} {q : List Rw × Lx} {e : Int} (h : allQ s l = (q, e)) (he : e ≠ 0) : q = ([], ⟨[], [], []⟩) := by
  unfold allQ at h
  split at h
  · injection h with h1 h2; exact h1.symm
  · split at h
    · injection h with h1 h2; exact h1.symm
    · injection h with h1 h2; exact absurd h2.symm he
theorem row_max {w : World} {B : Nat} {e : TypeId} {size : Nat} {v : Value} {n : Nat} {xs : List Value} (h : w.ownsRow B e size v n xs) : n ≤ maxLen := by
  rcases h.2 with ⟨_, h0⟩ | ⟨g, cap, cur, hv, _, _, hc, hm, _⟩
  · omega
  · omega
theorem mkL_get : ∀ {vs : List Value} {ms : List Mk} (h : vs.length = ms.length) (i : Nat) (hi : i < ms.length) (r : Nat) (hr : r < 5), (mkL vs ms)[i * 5 + r]? = (mkA (vs[i]'(by omega)) ms[i])[r]?
  | [], [], _, i, hi, _, _ => by simp at hi
  | v :: vs, m :: ms, h, 0, _, r, hr => by
    have e : mkL (v :: vs) (m :: ms) = (mkA v m).toList ++ mkL vs ms := rfl
    rw [e, Nat.zero_mul, Nat.zero_add, List.getElem?_append_left (by simp [mkA]; exact hr)]
    simp
  | v :: vs, m :: ms, h, i + 1, hi, r, hr => by
    have e : mkL (v :: vs) (m :: ms) = (mkA v m).toList ++ mkL vs ms := rfl
    have l5 : (mkA v m).toList.length = 5 := rfl
    rw [e, List.getElem?_append_right (by rw [l5]; omega), l5, show (i + 1) * 5 + r - 5 = i * 5 + r by omega, mkL_get (vs := vs) (ms := ms) (by simpa using h) i (by simpa using hi) r hr]
    rfl
theorem colsI_mem {vs : List Value} {ms : List Mk} (h : vs.length = ms.length) {i : Nat} (hi : i < ms.length) : rI (vs[i]'(by omega)) ms[i].cols ∈ colsI vs ms := by
  unfold colsI
  rw [List.mem_iff_getElem]
  exact ⟨i, by rw [List.length_zipWith]; omega, by simp⟩
/-- One mark of a row of them. -/
theorem mark_at {B : Nat} {w0 w : World} {L : List It} {g c n : Nat} {vs : List Value} {ms : List Mk} (h : Sep B w0 w L) (hvs : vs.length = ms.length) (hr : rM (.slice (some ⟨g, 0, none⟩) n c) vs ms ∈ L) (hsub : ∀ y ∈ colsI vs ms, y ∈ L) {i : Nat} (hi : i < ms.length) :
    ∃ p q, w.ownsRow B 3 1 (.slice p ms[i].cols.length q) ms[i].cols.length (zi ms[i].cols) ∧ w.cell? ⟨g, i * 5, none⟩ = some (.slice p ms[i].cols.length q) ∧ w.cell? ⟨g, i * 5 + 1, none⟩ = some (.int .i64 ms[i].opn) ∧ w.cell? ⟨g, i * 5 + 2, none⟩ = some (.int .i64 ms[i].col) ∧ w.cell? ⟨g, i * 5 + 3, none⟩ = some (.bool ms[i].fresh) ∧ w.cell? ⟨g, i * 5 + 4, none⟩ = some (.int .i64 ms[i].lead) := by
  have hrow := h.li _ (hsub _ (colsI_mem hvs hi))
  obtain ⟨p, q, e⟩ := row_form hrow
  rw [e] at hrow
  have hm : w.ownsRow B 24 5 (.slice (some ⟨g, 0, none⟩) n c) ms.length (mkL vs ms) := h.li _ hr
  have hc : ∀ r, r < 5 → ∀ u, (mkA (vs[i]'(by omega)) ms[i])[r]? = some u → w.cell? ⟨g, i * 5 + r, none⟩ = some u := fun r hr u hu => by
    have := hm.cells (g := g) rfl (i * 5 + r) u (by rw [mkL_get hvs i hi r hr]; exact hu)
    rwa [Addr.add_mid, Nat.zero_add] at this
  refine ⟨p, q, hrow, ?_, hc 1 (by decide) _ rfl, hc 2 (by decide) _ rfl, hc 3 (by decide) _ rfl, hc 4 (by decide) _ rfl⟩
  have := hc 0 (by decide) (vs[i]'(by omega)) rfl
  rw [Nat.add_zero] at this
  rw [this, e]
end Go.Proofs.Ythbfpnbfiliknaa
