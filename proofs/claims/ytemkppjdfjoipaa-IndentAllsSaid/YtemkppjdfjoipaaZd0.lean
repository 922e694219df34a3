/- Package relex. -/
import Derived.Test.YtemkppjdfjoipaaProg
import Derived.Test.YtemkppjdfjoipaaZc
import Derived.Test.YtemkppjdfjoipaaU38
import Derived.Deep.SlicePairs
import Derived.Deep.Slices
import Derived.Laws.IdiomArrays
import Derived.OpenShut
import Derived.WideBlind
import Derived.Great.BuildSlice
import Derived.WalkKit
import Derived.Maps.OwnSet
import Derived.Maps.OwnOps
import Derived.Maps.Own
import Derived.DeepKeys5
import Derived.BigFrame
import Derived.WalkMore
import Derived.ScopeJumps
import Derived.StillTailTactics
import Derived.Stop.BytesEq
import Derived.WalkLawsBesides
import Derived.WalkSpells
import Derived.Outline
import Derived.Lib.Walk
import Derived.Lib.Hide
import Derived.Lib.Slices
import Derived.Lib.Strings
import Derived.RegionTactic
import Derived.LoopTactic
import Derived.Below
import Derived.IntWalk
import Derived.Deep.QuietTactic
import Derived.BigQuiet
import Derived.Deep.MidRow
import Derived.Maps.AppendAt
import Derived.Laws.Rows
import Derived.Laws.Tables
import Derived.Deep.WholeRow
import Derived.Deep.Cut
import Derived.Deep.CutRange
import Derived.Lib.SliceRun
import Derived.Laws.MakeOwn
import Derived.Deep.RegionLaw
import Derived.Deep.RegionLawGrows
import Derived.Deep.RegionHeld3
import Derived.RegionCalls
import Derived.Deep.RegionWith
import Derived.Deep.Light
import Derived.Laws.CopyOwn
import Derived.Laws.ResultCell
namespace Go.Proofs.Ytemkppjdfjoipaa.I1.X
set_option linter.unusedSimpArgs false
set_option linter.unusedVariables false
set_option maxRecDepth 100000
open Go.RowKit
/- Marks written over, one list behind the other. -/
def colsK : Nat → List Value → List Mk → List It
  | k, v :: vs, m :: ms => .row v 3 1 m.cols.length (zi (mkn k m.cols.length)) :: colsK (k + m.cols.length) vs ms
  | _, _, _ => []
theorem colsI_drop : ∀ {vs : List Value} {ms : List Mk} (h : vs.length = ms.length) {i : Nat} (hi : i < ms.length), colsI (vs.drop i) (ms.drop i) = rI (vs[i]'(by omega)) ms[i].cols :: colsI (vs.drop (i + 1)) (ms.drop (i + 1))
  | [], m :: ms, h, _, _ => by simp at h
  | v :: vs, m :: ms, h, 0, _ => rfl
  | v :: vs, m :: ms, h, i + 1, hi => colsI_drop (vs := vs) (ms := ms) (by simpa using h) (by simpa using hi)
theorem colsI_done {vs : List Value} {ms : List Mk} (h : vs.length = ms.length) : colsI (vs.drop ms.length) (ms.drop ms.length) = [] := by
  rw [List.drop_length]; unfold colsI; simp
theorem colsK_snoc : ∀ {vs : List Value} {ms : List Mk} (h : vs.length = ms.length) {i : Nat} (hi : i < ms.length) (k : Nat), colsK k (vs.take (i + 1)) (ms.take (i + 1)) = colsK k (vs.take i) (ms.take i) ++ [.row (vs[i]'(by omega)) 3 1 ms[i].cols.length (zi (mkn (k + clen (ms.take i)) ms[i].cols.length))]
  | [], m :: ms, h, _, _, _ => by simp at h
  | v :: vs, m :: ms, h, 0, _, k => by simp [colsK, clen]
  | v :: vs, m :: ms, h, i + 1, hi, k => by
    have e := colsK_snoc (vs := vs) (ms := ms) (by simpa using h) (i := i) (by simpa using hi) (k + m.cols.length)
    simp only [List.take_succ_cons, colsK, List.getElem_cons_succ, clen] at e ⊢
    rw [e, List.cons_append, Nat.add_assoc]
theorem colsK_mem : ∀ {vs : List Value} {ms : List Mk} (h : vs.length = ms.length) {i : Nat} (hi : i < ms.length) (k : Nat), (It.row (vs[i]'(by omega)) 3 1 ms[i].cols.length (zi (mkn (k + clen (ms.take i)) ms[i].cols.length))) ∈ colsK k vs ms
  | [], m :: ms, h, _, _, _ => by simp at h
  | v :: vs, m :: ms, h, 0, _, k => by simp [colsK, clen]
  | v :: vs, m :: ms, h, i + 1, hi, k => by
    have e := colsK_mem (vs := vs) (ms := ms) (by simpa using h) (i := i) (by simpa using hi) (k + m.cols.length)
    simp only [List.take_succ_cons, colsK, List.getElem_cons_succ, clen] at e ⊢
    rw [← Nat.add_assoc]
    exact List.mem_cons_of_mem _ e
theorem Sep_mark {B : Nat} {w0 w w' : World} {v : Value} {n : Nat} {xs ys : List Value} {P Q : List It} (h : Sep B w0 w (P ++ (.row v 3 1 n xs :: Q))) (ho : Only v.ownBlock w w') (hr : w'.ownsRow B 3 1 v n ys) : Sep B w0 w' (P ++ (.row v 3 1 n ys :: Q)) :=
  ((h.perm List.perm_middle).rep (x' := .row v 3 1 n ys) (Only.grown ho) hr (fun b hb => .inl hb)).perm List.perm_middle.symm
theorem mark_cell {B : Nat} {w0 w : World} {L : List It} {p : Option Addr} {c : Nat} {vs : List Value} {ms : List Mk} (h : Sep B w0 w L) (hvs : vs.length = ms.length) (hr : rM (.slice p ms.length c) vs ms ∈ L) {i : Nat} (hi : i < ms.length) :
    ∃ g, p = some ⟨g, 0, none⟩ ∧ w.cell? ⟨g, i * 5, none⟩ = some (vs[i]'(by omega)) := by
  have hm : w.ownsRow B 36 5 (.slice p ms.length c) ms.length (mkL vs ms) := h.li _ hr
  obtain ⟨g, cap, he, _⟩ := row_own hm (by omega)
  injection he with e1 e2 e3
  subst e1
  refine ⟨g, rfl, ?_⟩
  have := hm.cells (g := g) rfl (i * 5 + 0) (vs[i]'(by omega)) (by rw [mkL_get hvs i hi 0 (by decide)]; rfl)
  rwa [Addr.add_mid, Nat.zero_add] at this
set_option maxHeartbeats 8000000 in
theorem mark2_any {B n : Nat} {w : World} {l : List Int} {v : Value} (hn : n ≤ 1000000000) (hl : l.length ≤ 1000000) (h : w.ownsRow B 3 1 v l.length (zi l)) :
    Calls Try.prog 13 #[v, .int .i64 (n : Nat)] w fun e w' => e = .returned (.int .i64 ((n + l.length : Nat) : Int)) ∧ Only v.ownBlock w w' ∧ w'.ownsRow B 3 1 v l.length (zi (mkn n l.length)) := by
  by_cases h0 : l.length = 0
  · obtain ⟨p, c, rfl⟩ := row_form h
    have hl0 : l = [] := List.length_eq_zero_iff.1 h0
    subst hl0
    have H := Lib.hid h
    clear h h0 hl
    have hI : ¬ ((([] : List Int).length : Nat) : Int) < ((([] : List Int).length : Nat) : Int) := by simp
    go_enter Try.func13, Try.ntmps13
    go_wp2_with fail
    go_loopw [5] (fun i wr => i = .int .i64 0 ∧ wr = w) (fun _ _ => 0)
    case atStart => exact ⟨rfl, rfl⟩
    case round =>
    obtain ⟨rfl, rfl⟩ := hrel
    go_wp2_with fail
    go_ret
    exact ⟨by simp, Only.refl _ _, H.out⟩
  · obtain ⟨g, cap, cs, rfl, h1, h2, h3, h4, h5, h6⟩ : ∃ g cap cs, v = .slice (some ⟨g, 0, none⟩) l.length cap ∧ B ≤ g ∧ w.heap[g]? = some (.cells cs 3 (0, 0)) ∧ l.length ≤ cap ∧ cap ≤ maxLen ∧ cs.size = cap ∧ True := by
      rcases h.2 with ⟨_, e⟩ | ⟨g, cap, cur, hv, h1, h2, h3, h4, h5, _⟩
      · exact absurd e h0
      · exact ⟨g, cap, cur, hv, h1, h2, h3, h4, by omega, trivial⟩
    have H0 : Hid (∃ cs : Array Value, w.heap[g]? = some (.cells cs 3 (0, 0)) ∧ cs.size = cap ∧ ∀ k, k < 0 → cs[k]? = some (.int .i64 (-(n : Int) - (k : Int) - 1))) := Lib.hid ⟨cs, h2, h5, fun k hk => by omega⟩
    have HO := Lib.hid (Only.refl (some g) w)
    have HF := Lib.hid (And.intro h1 (And.intro h3 h4))
    clear h h0 h1 h2 h3 h4 h5 h6
    obtain ⟨m, hm⟩ : ∃ m, l.length = m := ⟨_, rfl⟩
    rw [hm] at hl HF ⊢
    clear hm
    go_enter Try.func13, Try.ntmps13
    go_wp2_with fail
    go_loopw [5] (fun i wr => ∃ j : Nat, i = .int .i64 (j : Nat) ∧ j ≤ m ∧ Hid (∃ cs : Array Value, wr.heap[g]? = some (.cells cs 3 (0, 0)) ∧ cs.size = cap ∧ ∀ k, k < j → cs[k]? = some (.int .i64 (-(n : Int) - (k : Int) - 1))) ∧ Hid (Only (some g) w wr)) (fun i _ => m - (intOf i).toNat)
    case atStart => exact ⟨0, rfl, by omega, H0, HO⟩
    case round =>
    clear H0 HO
    obtain ⟨j, rfl, hj, HC, HO⟩ := hrel
    obtain ⟨wo, rfl⟩ : ∃ wo : World, wo = wr := ⟨_, rfl⟩
    by_cases hlt : j < m
    · have hltI : (j : Int) < (m : Int) := by omega
      have hjI : ¬ (j : Int) < 0 := by omega
      obtain ⟨cs, k1, k2, k3⟩ := HC.out
      have hcap := HF.out.2.1
      obtain ⟨old, hold⟩ : ∃ old, cs[j]? = some old := ⟨cs[j]'(by omega), Array.getElem?_eq_getElem (by omega)⟩
      have cj : wo.cell? ⟨g, j, none⟩ = some old := by rw [cell_of_row wo g j _ 3 (0, 0) k1]; exact hold
      have cf : wo.frozen? ⟨g, j, none⟩ = false := frozen_of_row wo g j _ 3 k1
      have HC2 : Hid (∃ cs : Array Value, (wo.setCell ⟨g, j, none⟩ (.int .i64 (-(n : Int) - (j : Int) - 1))).heap[g]? = some (.cells cs 3 (0, 0)) ∧ cs.size = cap ∧ ∀ k, k < j + 1 → cs[k]? = some (.int .i64 (-(n : Int) - (k : Int) - 1))) := Lib.hid ⟨cs.setIfInBounds j (.int .i64 (-(n : Int) - (j : Int) - 1)), heap_setCell_same wo g j cs 3 _ k1, by simpa using k2, fun k hk => by
        rw [Array.getElem?_setIfInBounds]
        by_cases e : j = k
        · subst e; rw [if_pos rfl, if_pos (by omega)]
        · rw [if_neg e]; exact k3 k (by omega)⟩
      have HO2 := Lib.hid (HO.out.set j (.int .i64 (-(n : Int) - (j : Int) - 1)))
      clear HC HO k1 k2 k3 hold hcap
      go_wp2_with fail
      go_roundw
      case rel => exact ⟨j + 1, by go_num, by omega, HC2, HO2⟩
      case measure => simp [intOf]; omega
    · obtain rfl : j = m := by omega
      have hltI : ¬ (j : Int) < (j : Int) := by omega
      obtain ⟨cs, k1, k2, k3⟩ := HC.out
      have hf := HF.out
      have HW : Hid (wo.ownsRow B 3 1 (.slice (some ⟨g, 0, none⟩) j cap) j (zi (mkn n j))) := Lib.hid ⟨by simp [zi, mkn], .inr ⟨g, cap, cs, rfl, hf.1, k1, hf.2.1, hf.2.2, by omega, by
        apply List.ext_getElem?
        intro i
        rw [Nat.mul_one, List.getElem?_take]
        by_cases hi : i < j
        · rw [if_pos hi, Array.getElem?_toList, k3 i hi]
          simp [zi, mkn, hi]
        · rw [if_neg hi, List.getElem?_eq_none (by simp [zi, mkn]; omega)]⟩⟩
      clear HC k1 k2 k3 hf
      go_wp2_with fail
      go_ret
      exact ⟨by first | rfl | (congr 2; omega), HO.out, HW.out⟩
end Go.Proofs.Ytemkppjdfjoipaa.I1.X
