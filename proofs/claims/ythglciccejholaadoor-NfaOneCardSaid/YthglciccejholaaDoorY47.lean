/- Texts of package regs, one behind the other. -/
import Derived.Test.YthglciccejholaaDoorY46
import Derived.WalkKit
import Derived.Below
import Derived.Laws.AppendOwn
import Derived.Laws.OwnMore
import Derived.Lib.Hide
import Derived.Lib.Walk
import Derived.Test.YthglciccejholaaDoorProg
import Derived.Test.YthglciccejholaaDoorY29
import Derived.BigFrame
import Derived.WalkMore
import Derived.ScopeJumps
import Derived.StillTailTactics
import Derived.Stop.BytesEq
import Derived.WalkLawsBesides
import Derived.WalkSpells
import Derived.Outline
import Derived.Lib.Slices
import Derived.Lib.Strings
import Derived.RegionTactic
import Derived.LoopTactic
import Derived.IntWalk
import Derived.Deep.QuietTactic
import Derived.BigQuiet
import Derived.Deep.MidRow
import Derived.Maps.AppendAt
import Derived.Laws.Rows
import Derived.Laws.Tables
import Derived.Deep.WholeRow
import Derived.Deep.Cut
import Derived.Deep.CutRange
import Derived.Lib.SliceRun
import Derived.Laws.MakeOwn
import Derived.Deep.RegionLaw
import Derived.Deep.RegionLawGrows
import Derived.Deep.RegionHeld3
import Derived.RegionCalls
import Derived.Deep.RegionWith
import Derived.Deep.Light
import Derived.Laws.CopyOwn
import Derived.Laws.ResultCell
section
/- Package nfa, plain. -/
namespace Go.Proofs.YthglciccejholaaDoor
set_option linter.unusedSimpArgs false
set_option linter.unusedVariables false
set_option maxRecDepth 100000
open Go.RowKit
/- The rules' automaton: it may be, and what it accepts. -/
def foldL : Nat → List RT → Nat → List Nst × List Int
  | _, [], _ => ([], [])
  | i, t :: r, n => ((⟨uZ, -1, [], (i : Nat)⟩ :: (layF t (n : Nat) (n + 1)).1) ++ (foldL (i + 1) r (n + ((layF t (n : Nat) (n + 1)).1.length + 1))).1, (layF t (n : Nat) (n + 1)).2 :: (foldL (i + 1) r (n + ((layF t (n : Nat) (n + 1)).1.length + 1))).2)
theorem foldF_L : ∀ (ts : List RT) (i : Nat) (ss : List Nst) (fs : List Int), foldF i ts ss fs = (ss ++ (foldL i ts ss.length).1, fs ++ (foldL i ts ss.length).2)
  | [], i, ss, fs => by simp [foldF, foldL]
  | t :: r, i, ss, fs => by
    rw [foldF, foldL, foldF_L r]
    simp only [List.length_append, List.length_singleton, List.length_cons, List.append_assoc, List.singleton_append, List.cons_append, List.nil_append]
theorem ofF_L (ts : List RT) : ofF ts = (foldL 0 ts 0).1 ++ [⟨uZ, -1, (foldL 0 ts 0).2, -1⟩] := by unfold ofF; rw [foldF_L]; rfl
theorem foldL_len : ∀ (ts : List RT) (i n : Nat), (foldL i ts n).1.length ≤ 2 * szL ts ∧ (foldL i ts n).2.length = ts.length ∧ frees (foldL i ts n).1 ≤ 3 * szL ts
  | [], i, n => by simp [foldL, frees]
  | t :: r, i, n => by
    have h1 := foldL_len r (i + 1) (n + ((layF t (n : Nat) (n + 1)).1.length + 1))
    have h2 := layF_len t (n : Nat) (n + 1)
    have h3 := fF t (n : Nat) (n + 1)
    rw [foldL, szL]
    simp only [List.length_append, List.length_cons, frees_app, frees, List.length_nil]
    omega
def okL (N M : Nat) (s : Nst) : Prop := s.to < N ∧ s.rl < M ∧ ∀ x ∈ s.fr, 0 ≤ x ∧ x < N
theorem oL : ∀ (ts : List RT) (i n N : Nat), n + (foldL i ts n).1.length ≤ N → (∀ s ∈ (foldL i ts n).1, okL N (i + ts.length) s) ∧ ∀ x ∈ (foldL i ts n).2, 0 ≤ x ∧ x < N
  | [], i, n, N => by rw [foldL]; exact fun _ => ⟨by simp, by simp⟩
  | t :: r, i, n, N => by
    rw [foldL]
    intro h
    simp only [List.length_append, List.length_cons] at h
    obtain ⟨g1, g2⟩ := oL r (i + 1) (n + ((layF t (n : Nat) (n + 1)).1.length + 1)) N (by omega)
    obtain ⟨g3, g4⟩ := oF t (n : Nat) (n + 1) N (by omega) (by omega) (by omega)
    refine ⟨fun s hs => ?_, fun x hx => (List.mem_cons.1 hx).elim (fun e => e ▸ g4) (g2 x)⟩
    rcases List.mem_append.1 hs with hs | hs
    · rcases List.mem_cons.1 hs with rfl | hs
      · exact ⟨by simp only; omega, by simp only [List.length_cons]; omega, by simp⟩
      · obtain ⟨k1, k2, k3⟩ := g3 s hs
        exact ⟨k1, by rw [k2]; omega, k3⟩
    · obtain ⟨k1, k2, k3⟩ := g1 s hs
      exact ⟨k1, by simp only [List.length_cons]; omega, k3⟩
theorem sL {ss : List Nst} {e : Nat} {r : Int} (hr : 0 ≤ r) (he : rlOf ss e = r) : ∀ (ts : List RT) (i n : Nat), AtL ss n (foldL i ts n).1 → ∀ s ∈ (foldL i ts n).2, ∀ k x, Pt ss k x s.toNat e → ∃ j t, ts[j]? = some t ∧ r = (i + j : Nat) ∧ Lt t x
  | [], i, n => by
    rw [foldL]; intro _ s hs; cases hs
  | t :: q, i, n => by
    rw [foldL]
    intro ha s hs k x h
    rcases List.mem_cons.1 hs with rfl | hs
    · have ha1 : AtL ss (n + 1) (layF t (n : Nat) (n + 1)).1 := ha.left.tail
      have hd := ha.left.head
      have hout : e < n + 1 ∨ n + 1 + (layF t (n : Nat) (n + 1)).1.length ≤ e := by
        by_cases h1 : e < n + 1
        · exact .inl h1
        · by_cases h2 : n + 1 + (layF t (n : Nat) (n + 1)).1.length ≤ e
          · exact .inr h2
          · exfalso
            have h3 : e - (n + 1) < (layF t (n : Nat) (n + 1)).1.length := by omega
            have h4 := ha1 (e - (n + 1)) _ (List.getElem?_eq_getElem h3)
            rw [show n + 1 + (e - (n + 1)) = e by omega] at h4
            have h5 := ((oF t (n : Nat) (n + 1) (n + 1 + (layF t (n : Nat) (n + 1)).1.length) (by omega) (by omega) (by omega)).1 _ (List.getElem_mem h3)).2.1
            unfold rlOf at he
            rw [h4] at he
            simp only at he
            omega
      obtain ⟨y, z, k', _, rfl, h1, h2⟩ := sF ss e t (n : Nat) (n + 1) ha1 hout k x h
      rw [Int.toNat_natCast] at h2
      obtain ⟨rfl, rfl⟩ := h2.stop hd rfl (by simp)
      refine ⟨0, t, rfl, ?_, by simpa using h1⟩
      unfold rlOf at he
      rw [hd] at he
      simpa using he.symm
    · have ha2 : AtL ss (n + ((layF t (n : Nat) (n + 1)).1.length + 1)) (foldL (i + 1) q (n + ((layF t (n : Nat) (n + 1)).1.length + 1))).1 := by
        have := ha.right
        rwa [List.length_cons] at this
      obtain ⟨j, t', h1, h2, h3⟩ := sL hr he q (i + 1) _ ha2 s hs k x h
      exact ⟨j + 1, t', by simpa using h1, by omega, h3⟩
theorem cL {ss : List Nst} {x : List UInt8} : ∀ (ts : List RT) (i n : Nat), AtL ss n (foldL i ts n).1 → ∀ j t, ts[j]? = some t → Lt t x → ∃ s ∈ (foldL i ts n).2, ∃ k e, Pt ss k x s.toNat e ∧ rlOf ss e = (i + j : Nat)
  | [], i, n => by intro _ j t h; simp at h
  | t :: q, i, n => by
    rw [foldL]
    intro ha j t' hj hx
    cases j with
    | zero =>
      have e : t = t' := by simpa using hj
      subst e
      obtain ⟨k, hk⟩ := cF ss t (n : Nat) (n + 1) (by omega) ha.left.tail x hx
      rw [Int.toNat_natCast] at hk
      exact ⟨_, by simp, k, n, hk, by unfold rlOf; rw [ha.left.head]; simp⟩
    | succ j =>
      have ha2 : AtL ss (n + ((layF t (n : Nat) (n + 1)).1.length + 1)) (foldL (i + 1) q (n + ((layF t (n : Nat) (n + 1)).1.length + 1))).1 := by
        have := ha.right
        rwa [List.length_cons] at this
      obtain ⟨s, hs, k, e, h1, h2⟩ := cL q (i + 1) _ ha2 j t' (by simpa using hj) hx
      exact ⟨s, by simp [hs], k, e, h1, by rw [h2]; omega⟩
open Classical in
/-- The rules whose patterns match. -/
noncomputable def accT (ts : List RT) (x : List UInt8) : List Int := ((List.range ts.length).filter fun r => decide (∃ t, ts[r]? = some t ∧ Lt t x)).map fun (r : Nat) => (r : Int)
open Classical in
theorem accT_app (a b : List RT) (x : List UInt8) : accT (a ++ b) x = accT a x ++ (accT b x).map fun z => (a.length : Int) + z := by
  unfold accT
  rw [List.length_append, List.range_add, List.filter_append, List.map_append]
  congr 1
  · congr 1
    refine List.filter_congr fun r hr => ?_
    have : r < a.length := List.mem_range.1 hr
    rw [List.getElem?_append_left this]
  · rw [List.filter_map, List.map_map, List.map_map]
    have e : ∀ r, (a ++ b)[a.length + r]? = b[r]? := fun r => by rw [List.getElem?_append_right (by omega)]; congr 1; omega
    have e3 : List.filter ((fun r => decide (∃ t, (a ++ b)[r]? = some t ∧ Lt t x)) ∘ fun x => a.length + x) (List.range b.length) = List.filter (fun r => decide (∃ t, b[r]? = some t ∧ Lt t x)) (List.range b.length) := List.filter_congr fun r _ => by
      simp only [Function.comp]
      exact decide_eq_decide.2 (by rw [e])
    rw [e3]
    exact List.map_congr_left fun r _ => by simp [Function.comp]
theorem accT_len (ts : List RT) (x : List UInt8) : (accT ts x).length ≤ ts.length := by
  unfold accT
  rw [List.length_map]
  exact Nat.le_trans (List.length_filter_le _ _) (by simp)
theorem accT_in {ts : List RT} {x : List UInt8} {z : Int} (h : z ∈ accT ts x) : 0 ≤ z ∧ z < ts.length := by
  unfold accT at h
  obtain ⟨r, hr, rfl⟩ := List.mem_map.1 h
  have := List.mem_range.1 (List.mem_filter.1 hr).1
  omega
theorem ofF_chk {ts : List RT} (hlen : ts.length ≤ 48) (hs : szL ts ≤ 2047) : chkN (((ofF ts).length - 1 : Nat) : Int) (ofF ts) = 0 ∧ (ofF ts).length ≤ 4095 := by
  have h1 := foldL_len ts 0 0
  have h2 := oL ts 0 0 (ofF ts).length (by rw [ofF_L]; simp)
  have hl : (ofF ts).length = (foldL 0 ts 0).1.length + 1 := by rw [ofF_L]; simp
  refine ⟨?_, by omega⟩
  have hf : frees (ofF ts) ≤ 16384 := by rw [ofF_L, frees_app]; simp [frees]; omega
  have ht : tooM (ofF ts) = false := by unfold tooM; simp; omega
  have hm : mayN (((ofF ts).length - 1 : Nat) : Int) (ofF ts) = true := by
    unfold mayN
    simp only [Bool.and_eq_true, decide_eq_true_eq, List.all_eq_true]
    refine ⟨⟨by omega, by omega⟩, fun s hs => ?_⟩
    have hs' : okL (ofF ts).length (0 + ts.length) s := by
      rw [ofF_L] at hs
      rcases List.mem_append.1 hs with hs | hs
      · exact h2.1 s hs
      · simp only [List.mem_singleton] at hs; subst hs; exact ⟨by simp only; omega, by simp only; omega, h2.2⟩
    obtain ⟨k1, k2, k3⟩ := hs'
    unfold stOk
    simp only [Bool.and_eq_true, decide_eq_true_eq, List.all_eq_true]
    exact ⟨k1, by omega, fun x hx => k3 x hx⟩
  unfold chkN
  rw [ht, hm]; simp
theorem ofF_acc {ts : List RT} (hlen : ts.length ≤ 48) (hs : szL ts ≤ 2047) (x : List UInt8) : accL hasU (((ofF ts).length - 1 : Nat) : Int) (ofF ts) x = accT ts x := by
  have hl : (ofF ts).length - 1 = (foldL 0 ts 0).1.length := by rw [ofF_L]; simp
  have hl2 : (ofF ts).length = (foldL 0 ts 0).1.length + 1 := by rw [ofF_L]; simp
  have hc := (ofF_chk hlen hs).1
  have hm : mayN (((ofF ts).length - 1 : Nat) : Int) (ofF ts) = true := by
    unfold chkN at hc
    split at hc
    · cases hc
    · split at hc
      · assumption
      · cases hc
  have hfine := (mayN_fine hm).1
  have hat : AtL (ofF ts) 0 (foldL 0 ts 0).1 := fun i s hi => by rw [ofF_L]; rw [Nat.zero_add, List.getElem?_append_left (List.getElem?_eq_some_iff.1 hi).1]; exact hi
  have hst : (ofF ts)[(foldL 0 ts 0).1.length]? = some ⟨uZ, -1, (foldL 0 ts 0).2, -1⟩ := by rw [ofF_L]; simp
  have key : ∀ r : Nat, r < 48 → ((runB hasU (ofF ts) x (goF (ofF ts) ((ofF ts).length + 1) 0 [(((ofF ts).length - 1 : Nat) : Int).toNat])).any (fun s => decide (rlOf (ofF ts) s = (r : Int))) = true ↔ ∃ t, ts[r]? = some t ∧ Lt t x) := by
    intro r hr
    rw [List.any_eq_true, Int.toNat_natCast]
    constructor
    · rintro ⟨e, he, hre⟩
      have hre' := of_decide_eq_true hre
      obtain ⟨k, hk⟩ := (acc_pt x _ _).1 ((mem_acc hfine (by omega) x e).1 he)
      rw [hl] at hk
      obtain ⟨k', rfl, hf | ⟨c, w', rfl, h6, _⟩⟩ := hk.inv (fun h => by
        subst h
        unfold rlOf at hre'
        rw [hst] at hre'
        simp only at hre'
        omega) hst
      · obtain ⟨f, hf, hp⟩ := hf
        obtain ⟨j, t, h1, h2, h3⟩ := sL (r := (r : Int)) (by omega) hre' ts 0 0 hat f hf k' x hp
        obtain rfl : r = j := by omega
        exact ⟨t, h1, h3⟩
      · simp at h6
    · rintro ⟨t, ht, hx⟩
      obtain ⟨s, hs', k, e, h1, h2⟩ := cL (x := x) ts 0 0 hat r t ht hx
      exact ⟨e, (mem_acc hfine (by omega) x e).2 ((acc_pt x _ _).2 ⟨k + 1, by rw [hl]; exact Pt.go hst hs' h1⟩), decide_eq_true (by rw [h2]; omega)⟩
  unfold accL rulesOf accT
  congr 1
  have e48 : List.range 48 = List.range ts.length ++ (List.range (48 - ts.length)).map (ts.length + ·) := by rw [← List.range_add]; congr 1; omega
  rw [e48, List.filter_append]
  have e2 : (List.filter (fun r : Nat => (runB hasU (ofF ts) x (goF (ofF ts) ((ofF ts).length + 1) 0 [(((ofF ts).length - 1 : Nat) : Int).toNat])).any fun s => decide (rlOf (ofF ts) s = (r : Int))) ((List.range (48 - ts.length)).map (ts.length + ·))) = [] := by
    rw [List.filter_eq_nil_iff]
    intro r hr hh
    obtain ⟨z, hz, rfl⟩ := List.mem_map.1 hr
    have := List.mem_range.1 hz
    obtain ⟨t, ht, _⟩ := (key _ (by omega)).1 hh
    rw [List.getElem?_eq_none (by omega)] at ht
    cases ht
  rw [e2, List.append_nil]
  refine List.filter_congr fun r hr => ?_
  have hr' := List.mem_range.1 hr
  have := key r (by omega)
  by_cases h : ∃ t, ts[r]? = some t ∧ Lt t x
  · rw [this.2 h]; simp [h]
  · rw [Bool.eq_false_iff.2 fun h9 => h (this.1 h9)]; simp [h]
end Go.Proofs.YthglciccejholaaDoor
end
section
/- Package regs, taken over. -/
namespace Go.Proofs.YthglciccejholaaDoor.R5
set_option linter.unusedSimpArgs false
set_option linter.unusedVariables false
set_option maxRecDepth 100000
open Go.RowKit
/- What the automaton tells and what the net matches is one. -/
theorem ltR_one (t : RT) : LtR [t] = Lt t := by
  funext w
  rw [LtR]
  apply propext
  constructor
  · rintro ⟨a, b, rfl, h1, h2⟩
    rw [LtR] at h2
    subst h2; simpa using h1
  · intro h; exact ⟨w, [], by simp, h, by rw [LtR]⟩
theorem lgH_one (t : RT) : LgH [t] = Lg t := by funext w; rw [LgH]
theorem lgR_one (t : RT) (w : List UInt8) : LgR [t] w ↔ Lg t w := by
  rw [LgR]
  constructor
  · rintro ⟨a, b, rfl, h1, h2⟩
    rw [LgR] at h2
    subst h2; simpa using h1
  · intro h; exact ⟨w, [], by simp, h, by rw [LgR]⟩
theorem sta_eq {P : List UInt8 → Prop} {w : List UInt8} : _root_.Go.Proofs.YthglciccejholaaDoor.Sta P w ↔ Sta P w := by
  constructor
  · intro h; induction h with
    | nil => exact .nil
    | app h1 _ ih => exact .app h1 ih
  · intro h; induction h with
    | nil => exact .nil
    | app h1 _ ih => exact .app h1 ih
mutual
theorem lt_lg : ∀ (t : RT) (w : List UInt8), mayB t = true → (Lt t w ↔ Lg t w)
  | .mk k u ps, w, hm => by
    rw [mayB, Bool.and_eq_true, Bool.and_eq_true] at hm
    have hR := lt_lgR ps
    have hC := lt_lgC ps
    have hone : ps.length = 1 → LtR ps = LgH ps := fun h1 => by
      match ps, h1 with
      | [t], _ =>
        rw [ltR_one, lgH_one]
        funext w
        have := hR w hm.2
        rw [ltR_one, lgR_one] at this
        exact propext this
    rw [Lt, Lg]
    rcases fits_kind hm.1.1 with rfl | rfl | rfl | rfl | rfl | ⟨rfl, e1⟩ | ⟨rfl, e1⟩ | ⟨rfl, e1⟩
    · simp
    · simp
    · simp [hasU, fOf]
    · simp; exact hR w hm.2
    · simp; exact hC w hm.2
    · simp [hone e1, sta_eq]
    · simp [hone e1, sta_eq]
    · simp [hone e1]
theorem lt_lgR : ∀ (ps : List RT) (w : List UInt8), mayL ps = true → (LtR ps w ↔ LgR ps w)
  | [], w, _ => by rw [LtR, LgR]
  | t :: ts, w, hm => by
    rw [mayL, Bool.and_eq_true] at hm
    have h1 := fun w => lt_lg t w hm.1
    have h2 := fun w => lt_lgR ts w hm.2
    rw [LtR, LgR]
    simp only [h1, h2]
theorem lt_lgC : ∀ (ps : List RT) (w : List UInt8), mayL ps = true → (LtC ps w ↔ LgC ps w)
  | [], w, _ => by rw [LtC, LgC]
  | t :: ts, w, hm => by
    rw [mayL, Bool.and_eq_true] at hm
    have h1 := fun w => lt_lg t w hm.1
    have h2 := fun w => lt_lgC ts w hm.2
    rw [LtC, LgC]
    simp only [h1, h2]
end
end Go.Proofs.YthglciccejholaaDoor.R5
end
