/- Package indent. -/
import Derived.Test.YthbfpnbfiliknaaProg
import Derived.Test.YthbfpnbfiliknaaJe
import Derived.Great.BuildSlice
import Derived.WalkKit
import Derived.Maps.OwnSet
import Derived.Maps.OwnOps
import Derived.Maps.Own
import Derived.DeepKeys5
import Derived.BigFrame
import Derived.WalkMore
import Derived.ScopeJumps
import Derived.StillTailTactics
import Derived.Stop.BytesEq
import Derived.WalkLawsBesides
import Derived.WalkSpells
import Derived.Outline
import Derived.Lib.Walk
import Derived.Lib.Hide
import Derived.Lib.Slices
import Derived.Lib.Strings
import Derived.RegionTactic
import Derived.LoopTactic
import Derived.Below
import Derived.IntWalk
import Derived.Deep.QuietTactic
import Derived.BigQuiet
import Derived.Deep.MidRow
import Derived.Maps.AppendAt
import Derived.Laws.Rows
import Derived.Laws.Tables
import Derived.Deep.WholeRow
import Derived.Deep.Cut
import Derived.Deep.CutRange
import Derived.Lib.SliceRun
import Derived.Laws.MakeOwn
import Derived.Deep.RegionLaw
import Derived.Deep.RegionLawGrows
import Derived.Deep.RegionHeld3
import Derived.RegionCalls
import Derived.Deep.RegionWith
import Derived.Deep.Light
import Derived.Laws.CopyOwn
import Derived.Laws.ResultCell
namespace Go.Proofs.Ythbfpnbfiliknaa
set_option linter.unusedSimpArgs false
set_option linter.unusedVariables false
set_option maxRecDepth 100000
open Go.RowKit
/- What IndentParts asks: plain. -/
theorem runF_pre : ∀ (l : List Rw) (x : Lx) (m : Mk) (s : List Nat), ∃ ms cs, (runF x m s l).1.marks = x.marks ++ ms ∧ (runF x m s l).1.counts = x.counts ++ cs
  | [], x, m, s => ⟨[], [], by simp [runF], by simp [runF]⟩
  | r :: l, x, m, s => by
    unfold runF
    obtain ⟨ms, cs, h1, h2⟩ := runF_pre l ⟨x.marks ++ [(stepF m (s.take r.2.1.toNat) r.1 r.2.1).1], x.counts ++ [((x.toks ++ (stepF m (s.take r.2.1.toNat) r.1 r.2.1).2).length : Int)], x.toks ++ (stepF m (s.take r.2.1.toNat) r.1 r.2.1).2⟩ (stepF m (s.take r.2.1.toNat) r.1 r.2.1).1 (s.drop r.2.1.toNat)
    rw [h1, h2]
    simp only [List.append_assoc]
    exact ⟨_, _, rfl, rfl⟩
/-- Where the law stands behind j pieces. -/
structure Wp (s : ByteArray) (l : List Rw) (RR : Lx × Mk) (j a : Nat) (x : Lx) (m : Mk) : Prop where
  run : runF x m ((bl s).drop a) (l.drop j) = RR
  lm : x.marks.length = j + 1
  lc : x.counts.length = j + 1
  mat : x.marks[j]? = some m
  ar : areP ((s.size : Int) - (a : Int)) (l.drop j) = true
  ale : a ≤ s.size
  may : May m
  ld : m.lead + ((s.size : Int) - (a : Int)) ≤ 65536
theorem Wp.start {s : ByteArray} {l : List Rw} (h : areP (s.size : Nat) l = true) (hs : s.size ≤ 65536) : Wp s l (allR (bl s) l) 0 0 ⟨[m0], [0], []⟩ m0 :=
  ⟨rfl, rfl, rfl, rfl, by simpa using h, by omega, m0_may, by simp only [m0]; omega⟩
theorem Wp.mark {s : ByteArray} {l : List Rw} {RR : Lx × Mk} {j a : Nat} {x : Lx} {m : Mk} (h : Wp s l RR j a x m) : RR.1.marks[j]? = some m := by
  obtain ⟨ms, cs, h1, h2⟩ := runF_pre (l.drop j) x m ((bl s).drop a)
  rw [h.run] at h1
  rw [h1, List.getElem?_append_left (by rw [h.lm]; omega)]; exact h.mat
theorem Wp.step {s : ByteArray} {l : List Rw} {RR : Lx × Mk} {j a nn : Nat} {k lk : Int} {x : Lx} {m : Mk} (h : Wp s l RR j a x m) (hj : j < l.length) (hr : l[j] = (k, (nn : Int), lk)) :
    1 ≤ nn ∧ a + nn ≤ s.size ∧ stQ m (s.extract a (a + nn)) k (nn : Int) = stepF m (((bl s).drop a).take nn) k (nn : Int) ∧
    Wp s l RR (j + 1) (a + nn) ⟨x.marks ++ [(stepF m (((bl s).drop a).take nn) k nn).1], x.counts ++ [((x.toks ++ (stepF m (((bl s).drop a).take nn) k nn).2).length : Int)], x.toks ++ (stepF m (((bl s).drop a).take nn) k nn).2⟩ (stepF m (((bl s).drop a).take nn) k nn).1 ∧
    RR.1.counts.getD (j + 1) 0 = ((x.toks ++ (stepF m (((bl s).drop a).take nn) k nn).2).length : Int) := by
  have hd : l.drop j = (k, (nn : Int), lk) :: l.drop (j + 1) := by rw [List.drop_eq_getElem_cons hj, hr]
  have har := h.ar
  rw [hd] at har
  obtain ⟨a1, a2, a3⟩ := areP_pos har
  simp only [] at a1 a2 a3
  have hale := h.ale
  have hbe : bl (s.extract a (a + nn)) = ((bl s).drop a).take nn := by
    unfold bl
    rw [ByteArray.data_extract, Array.toList_extract, List.map_take, List.map_drop]
    simp
  have hsz : (s.extract a (a + nn)).size = nn := by simp; omega
  have hmd : Made m (((bl s).drop a).take nn) (nn : Int) := ⟨by omega, by rw [← hbe, bl_len, hsz], by have := h.ld; omega⟩
  have hq : stQ m (s.extract a (a + nn)) k (nn : Int) = stepF m (((bl s).drop a).take nn) k (nn : Int) := by
    unfold stQ
    rw [if_pos ⟨may_mayB h.may, by rw [madeB_iff, hbe]; exact hmd⟩, hbe]
  have hrun := h.run
  rw [hd] at hrun
  unfold runF at hrun
  simp only [Int.toNat_natCast, List.drop_drop] at hrun
  have hw : Wp s l RR (j + 1) (a + nn) ⟨x.marks ++ [(stepF m (((bl s).drop a).take nn) k nn).1], x.counts ++ [((x.toks ++ (stepF m (((bl s).drop a).take nn) k nn).2).length : Int)], x.toks ++ (stepF m (((bl s).drop a).take nn) k nn).2⟩ (stepF m (((bl s).drop a).take nn) k nn).1 := by
    refine ⟨hrun, by simp [h.lm], by simp [h.lc], ?_, ?_, by omega, stepF_may h.may hmd, ?_⟩
    · simp only []; rw [← h.lm]; simp
    · rw [show ((s.size : Int) - ((a + nn : Nat) : Int)) = (s.size : Int) - (a : Int) - (nn : Int) by omega]; exact a3
    · have := stepF_lead (m := m) (s := ((bl s).drop a).take nn) (k := k) h.may.l0 (show (0 : Int) ≤ (nn : Int) by omega)
      have := h.ld
      omega
  refine ⟨by omega, by omega, hq, hw, ?_⟩
  obtain ⟨ms, cs, h1, h2⟩ := runF_pre (l.drop (j + 1)) _ (stepF m (((bl s).drop a).take nn) k nn).1 ((bl s).drop (a + nn))
  rw [hrun] at h2
  rw [h2, getD_app (by simp [h.lc])]
  simp only []
  rw [← h.lc, getD_end]
theorem Wp.nat {s : ByteArray} {l : List Rw} {RR : Lx × Mk} {j a : Nat} {x : Lx} {m : Mk} (h : Wp s l RR j a x m) (hj : j < l.length) : ∃ nn : Nat, l[j].2.1 = (nn : Int) := by
  have har := h.ar
  rw [List.drop_eq_getElem_cons hj] at har
  obtain ⟨a1, -, -⟩ := areP_pos har
  exact ⟨l[j].2.1.toNat, by omega⟩
theorem Wp.fin {s : ByteArray} {l : List Rw} {RR : Lx × Mk} {a : Nat} {x : Lx} {m : Mk} (h : Wp s l RR l.length a x m) : RR = (x, m) := by
  have := h.run
  rw [List.drop_length] at this
  exact this.symm
theorem allQ_R {s : ByteArray} {l : List Rw} {q : List Rw × Lx} (h : allQ s l = (q, 0)) : q = (l, ⟨(allR (bl s) l).1.marks, (allR (bl s) l).1.counts, (allR (bl s) l).1.toks ++ endF (allR (bl s) l).2⟩) ∧ areP (s.size : Nat) l = true ∧ s.size ≤ 65536 := by
  unfold allQ at h
  split at h
  · injection h with h1 h2; cases h2
  · split at h
    · injection h with h1 h2; cases h2
    · rename_i h3 h4
      injection h with h1 h2
      exact ⟨h1.symm, by simpa using h4, by omega⟩
theorem runF_len : ∀ (l : List Rw) (x : Lx) (m : Mk) (s : List Nat), (runF x m s l).1.marks.length = x.marks.length + l.length ∧ (runF x m s l).1.counts.length = x.counts.length + l.length
  | [], x, m, s => ⟨by simp [runF], by simp [runF]⟩
  | r :: l, x, m, s => by
    unfold runF
    obtain ⟨h1, h2⟩ := runF_len l ⟨x.marks ++ [(stepF m (s.take r.2.1.toNat) r.1 r.2.1).1], x.counts ++ [((x.toks ++ (stepF m (s.take r.2.1.toNat) r.1 r.2.1).2).length : Int)], x.toks ++ (stepF m (s.take r.2.1.toNat) r.1 r.2.1).2⟩ (stepF m (s.take r.2.1.toNat) r.1 r.2.1).1 (s.drop r.2.1.toNat)
    exact ⟨h1.trans (by simp; omega), h2.trans (by simp; omega)⟩
theorem runF_toks : ∀ {l : List Rw} {s : List Nat} {x : Lx} {m : Mk}, May m → m.lead + (s.length : Int) ≤ 65536 → areP (s.length : Nat) l = true → (runF x m s l).1.toks.length ≤ x.toks.length + 4099 * l.length ∧ May (runF x m s l).2
  | [], s, x, m, h, _, _ => ⟨by simp [runF], h⟩
  | r :: l, s, x, m, h, hl, ha => by
    obtain ⟨a1, a2, a3⟩ := areP_pos ha
    obtain ⟨k, ln, lk⟩ := r
    simp only [] at a1 a2 a3
    obtain ⟨q, rfl⟩ : ∃ q : Nat, ln = (q : Int) := ⟨ln.toNat, by omega⟩
    have hmd : Made m (s.take q) (q : Nat) := ⟨by omega, by rw [List.length_take]; omega, by omega⟩
    have e : ((s.drop q).length : Int) = (s.length : Int) - (q : Int) := by rw [List.length_drop]; omega
    have hld := stepF_lead (m := m) (s := s.take q) (k := k) h.l0 (show (0 : Int) ≤ (q : Int) by omega)
    have htl := stepF_len m (s.take q) k (q : Int)
    have hml := h.len
    unfold runF
    simp only [Int.toNat_natCast]
    have h3 := runF_toks (l := l) (s := s.drop q) (x := ⟨x.marks ++ [(stepF m (s.take q) k (q : Int)).1], x.counts ++ [((x.toks ++ (stepF m (s.take q) k (q : Int)).2).length : Int)], x.toks ++ (stepF m (s.take q) k (q : Int)).2⟩) (stepF_may h hmd (k := k)) (by rw [e]; omega) (by rw [e]; exact a3)
    refine ⟨?_, h3.2⟩
    have h4 := h3.1
    simp only [List.length_append, List.length_cons] at h4 ⊢
    omega
theorem toks_small {s : ByteArray} {l : List Rw} (hl : l.length ≤ 300) (hs : s.size ≤ 65536) (ha : areP (s.size : Nat) l = true) : ((allR (bl s) l).1.toks ++ endF (allR (bl s) l).2).length ≤ 2000000 := by
  have h := runF_toks (l := l) (s := bl s) (x := ⟨[m0], [0], []⟩) (m := m0) m0_may (by rw [bl_len]; simp only [m0]; omega) (by rw [bl_len]; exact ha)
  change (allR (bl s) l).1.toks.length ≤ _ ∧ May (allR (bl s) l).2 at h
  have h2 := h.2.len
  have h3 := h.1
  have h4 : (endF (allR (bl s) l).2).length ≤ (allR (bl s) l).2.cols.length + 2 := by unfold endF; simp only [List.length_append, List.length_replicate, List.length_singleton]; split <;> simp <;> omega
  simp only [List.length_append, List.length_nil] at h3 ⊢
  omega
end Go.Proofs.Ythbfpnbfiliknaa
