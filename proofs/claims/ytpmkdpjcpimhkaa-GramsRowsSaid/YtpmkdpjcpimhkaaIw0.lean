/- Package grams. -/
import Derived.Test.YtpmkdpjcpimhkaaProg
import Derived.Test.YtpmkdpjcpimhkaaIn
import Derived.Deep.SlicePairs
import Derived.Deep.Slices
import Derived.Laws.IdiomArrays
import Derived.OpenShut
import Derived.WideBlind
import Derived.Great.BuildSlice
import Derived.WalkKit
import Derived.Maps.OwnSet
import Derived.Maps.OwnOps
import Derived.Maps.Own
import Derived.DeepKeys5
import Derived.BigFrame
import Derived.WalkMore
import Derived.ScopeJumps
import Derived.StillTailTactics
import Derived.Stop.BytesEq
import Derived.WalkLawsBesides
import Derived.WalkSpells
import Derived.Outline
import Derived.Lib.Walk
import Derived.Lib.Hide
import Derived.Lib.Slices
import Derived.Lib.Strings
import Derived.RegionTactic
import Derived.LoopTactic
import Derived.Below
import Derived.IntWalk
import Derived.Deep.QuietTactic
import Derived.BigQuiet
import Derived.Deep.MidRow
import Derived.Maps.AppendAt
import Derived.Laws.Rows
import Derived.Laws.Tables
import Derived.Deep.WholeRow
import Derived.Deep.Cut
import Derived.Deep.CutRange
import Derived.Lib.SliceRun
import Derived.Laws.MakeOwn
import Derived.Deep.RegionLaw
import Derived.Deep.RegionLawGrows
import Derived.Deep.RegionHeld3
import Derived.RegionCalls
import Derived.Deep.RegionWith
import Derived.Deep.Light
import Derived.Laws.CopyOwn
import Derived.Laws.ResultCell
namespace Go.Proofs.Ytpmkdpjcpimhkaa
set_option linter.unusedSimpArgs false
set_option linter.unusedVariables false
set_option maxRecDepth 100000
open Go.RowKit
/- Rows that Start becomes. -/
open Go.Maps
structure RowOk (g : Gr) (row : List Int) : Prop where
  sm : ∀ x ∈ row, 0 ≤ x ∧ x < g.s
  ne : row ≠ []
  hd : ∀ x, Beg g (row.headD 0) x → Beg g g.st x
  ls : Fol g (row.getLastD 0) g.t
  nb : ∀ l1 a b l2, row = l1 ++ a :: b :: l2 → ∀ x, Beg g b x → Fol g a x
theorem RowOk.start {g : Gr} (hg : GrOk g) : RowOk g [g.st] := by
  have h1 := hg.nm.st1; have h2 := hg.nm.st2; have h3 := hg.nm.t1
  refine ⟨fun x hx => ?_, by simp, fun x h => h, .fin, fun l1 a b l2 e => ?_⟩
  · rw [List.mem_singleton.1 hx]; omega
  · have := congrArg List.length e
    simp at this; omega
theorem headD_app (a b : List Int) (h : a ≠ []) : (a ++ b).headD 0 = a.headD 0 := by
  cases a with
  | nil => exact absurd rfl h
  | cons x a => rfl
theorem lastD_app (a b : List Int) (h : b ≠ []) : (a ++ b).getLastD 0 = b.getLastD 0 := by
  rw [last_eq h, ← List.append_assoc]
  simp
/-- Two neighbours of a row put together lie in the one part, or in the other one, or where they meet. -/
theorem two_app {A B l1 l2 : List Int} {a b : Int} (e : A ++ B = l1 ++ a :: b :: l2) : (∃ m, A = l1 ++ a :: b :: m) ∨ (∃ m, B = m ++ a :: b :: l2) ∨ (A = l1 ++ [a] ∧ B = b :: l2) := by
  rcases List.append_eq_append_iff.1 e with ⟨m, h1, h2⟩ | ⟨m, h1, h2⟩
  · exact .inr (.inl ⟨m, h2⟩)
  · cases m with
    | nil => exact .inr (.inl ⟨[], by simpa using h2.symm⟩)
    | cons x m =>
      simp only [List.cons_append, List.cons.injEq] at h2
      obtain ⟨rfl, h2⟩ := h2
      cases m with
      | nil => exact .inr (.inr ⟨h1, by simpa using h2.symm⟩)
      | cons y m =>
        simp only [List.cons_append, List.cons.injEq] at h2
        obtain ⟨rfl, h2⟩ := h2
        exact .inl ⟨m, h1⟩
theorem RowOk.step {g : Gr} (hg : GrOk g) {A C : List Int} {p : Pr} (h : RowOk g (A ++ p.hd :: C)) (hp : p ∈ g.ps) : RowOk g (A ++ p.bd ++ C) := by
  have hne := hg.ne p hp
  have hbeg : ∀ x, Beg g (p.bd.headD 0) x → Beg g p.hd x := fun x hx => by
    cases hb : p.bd with
    | nil => exact absurd hb hne
    | cons y l => rw [hb] at hx; exact .go hp hb hx
  have hlast : ∀ x, Fol g p.hd x → Fol g (p.bd.getLastD 0) x := fun x hx => .last hp (last_eq hne) hx
  have hne2 : A ++ p.bd ≠ [] := fun e => hne (List.append_eq_nil_iff.1 e).2
  refine ⟨fun x hx => ?_, fun e => hne2 (List.append_eq_nil_iff.1 e).1, fun x hx => ?_, ?_, fun l1 a b l2 e x hb => ?_⟩
  · rcases List.mem_append.1 hx with hx | hx
    · rcases List.mem_append.1 hx with hx | hx
      · exact h.sm x (by simp [hx])
      · exact hg.nm.bd p hp x hx
    · exact h.sm x (by simp [hx])
  · rw [headD_app _ _ hne2] at hx
    by_cases hA : A = []
    · subst hA
      rw [List.nil_append] at hx
      exact h.hd x (hbeg x hx)
    · rw [headD_app _ _ hA] at hx
      exact h.hd x (by rw [headD_app _ _ hA]; exact hx)
  · by_cases hC : C = []
    · subst hC
      rw [List.append_nil, lastD_app _ _ hne]
      have := h.ls
      rw [lastD_app _ _ (by simp)] at this
      exact hlast _ (by simpa using this)
    · rw [lastD_app _ _ hC]
      have := h.ls
      rw [lastD_app _ _ (by simp)] at this
      have e : (p.hd :: C).getLastD 0 = C.getLastD 0 := lastD_app [p.hd] C hC
      rwa [e] at this
  · rcases two_app e with ⟨m, h1⟩ | ⟨m, h1⟩ | ⟨h1, h2⟩
    · rcases two_app h1 with ⟨m2, h3⟩ | ⟨m2, h3⟩ | ⟨h3, h4⟩
      · exact h.nb l1 a b (m2 ++ p.hd :: C) (by rw [h3]; simp) x hb
      · exact .nx hp h3 hb
      · exact h.nb l1 a p.hd C (by rw [h3]; simp) x (hbeg x (by rw [h4]; exact hb))
    · exact h.nb (A ++ p.hd :: m) a b l2 (by rw [h1]; simp) x hb
    · have ha : a = p.bd.getLastD 0 := by
        have h5 : (A ++ p.bd).getLastD 0 = (l1 ++ [a]).getLastD 0 := by rw [h1]
        rw [lastD_app _ _ hne] at h5
        rw [h5]; simp
      rw [ha]
      exact hlast x (h.nb A p.hd b l2 (by rw [h2]) x hb)
theorem good_beg {g : Gr} (hg : GrOk g) {s : Int} (h : Good g s) : ∃ x, Beg g s x := by
  induction h with
  | tm h0 h1 => exact ⟨_, .tm h0 h1⟩
  | @go p hp _ ih =>
    obtain ⟨x, hx⟩ := ih _ (hd_mem (hg.ne p hp))
    cases hb : p.bd with
    | nil => exact absurd hb (hg.ne p hp)
    | cons y l => rw [hb] at hx; exact ⟨x, .go hp hb hx⟩
theorem sym_beg {g : Gr} (hg : GrOk g) {s : Int} (h0 : 0 ≤ s) (h1 : s < g.s) : ∃ x, Beg g s x := by
  by_cases h : s < g.t
  · exact ⟨s, .tm h0 h⟩
  · exact good_beg hg (hg.gd s (by omega) h1)
theorem row_in1 {g : Gr} (hg : GrOk g) {row : List Int} (h : RowOk g row) : ((firL g (row.headD 0)).all fun x => decide (x ∈ firL g g.st)) = true := by
  have h1 := hg.nm.st1; have h2 := hg.nm.st2; have h3 := hg.nm.t1
  have hs := h.sm _ (hd_mem h.ne)
  exact List.all_eq_true.2 fun x hx => decide_eq_true ((mem_fir' hg (by omega) h2).2 (h.hd x ((mem_fir' hg hs.1 hs.2).1 hx)))
theorem row_in2 {g : Gr} (hg : GrOk g) {row : List Int} (h : RowOk g row) : (([g.t] : List Int).all fun x => decide (x ∈ folL g (row.getLastD 0))) = true := by
  have hs := h.sm _ (last_mem h.ne)
  exact List.all_eq_true.2 fun x hx => decide_eq_true (by rw [List.mem_singleton.1 hx]; exact (mem_fol' hg hs.1 hs.2).2 h.ls)
theorem row_in3 {g : Gr} (hg : GrOk g) {row : List Int} (h : RowOk g row) {i : Nat} (hi : i + 1 < row.length) : ((firL g row[i + 1]).all fun x => decide (x ∈ folL g row[i])) = true ∧ 0 < (firL g row[i + 1]).length := by
  have e : row = row.take i ++ row[i] :: row[i + 1] :: row.drop (i + 2) := by
    conv => lhs; rw [← List.take_append_drop i row, List.drop_eq_getElem_cons (by omega : i < row.length), List.drop_eq_getElem_cons hi]
  have hs := h.sm _ (List.getElem_mem hi)
  have hs2 := h.sm _ (List.getElem_mem (by omega : i < row.length))
  refine ⟨List.all_eq_true.2 fun x hx => decide_eq_true ((mem_fol' hg hs2.1 hs2.2).2 (h.nb _ _ _ _ e x ((mem_fir' hg hs.1 hs.2).1 hx))), ?_⟩
  obtain ⟨x, hx⟩ := sym_beg hg hs.1 hs.2
  exact List.length_pos_of_mem ((mem_fir' hg hs.1 hs.2).2 hx)
theorem IV.take {D : Nat → Prop} {w : World} {l : List Int} {p : Option Addr} {c : Nat} (h : IV D w l (.slice p l.length c)) (k c' : Nat) : IV D w (l.take k) (.slice p (l.take k).length c') := by
  obtain ⟨p', c2, he, hh⟩ := h
  injection he with e1 e2 e3
  subst e1
  refine ⟨_, _, rfl, fun hn => ?_⟩
  obtain ⟨b, o, hp, hD, hc⟩ := hh (fun e => hn (by rw [e]; simp))
  refine ⟨b, o, hp, hD, fun i hi => ?_⟩
  have hi2 : i < l.length := by rw [List.length_take] at hi; omega
  rw [List.getElem_take]
  exact hc i hi2
theorem iv_drop {D : Nat → Prop} {w : World} {l : List Int} {b o c : Nat} (h : IV D w l (.slice (some ⟨b, o, none⟩) l.length c)) (k c' : Nat) : IV D w (l.drop k) (.slice (some ⟨b, o + k, none⟩) (l.drop k).length c') := by
  obtain ⟨p', c2, he, hh⟩ := h
  injection he with e1 e2 e3
  refine ⟨_, _, rfl, fun hn => ?_⟩
  obtain ⟨b', o', hp, hD, hc⟩ := hh (fun e => hn (by rw [e]; simp))
  rw [← e1] at hp
  injection hp with hp
  injection hp with e4 e5
  subst e4 e5
  refine ⟨b, o + k, rfl, hD, fun i hi => ?_⟩
  have hi2 : k + i < l.length := by rw [List.length_drop] at hi; omega
  rw [List.getElem_drop, Nat.add_assoc]
  exact hc (k + i) hi2
theorem Sep.drewN {B : Nat} {w0 w : World} {L : List It} (h : Sep B w0 w L) (n : Nat) : Sep B w0 (w.drewN n) L :=
  ⟨below_drewN h.bel n, h.sz, fun x hx => It.kept (row := none) ⟨rfl, rfl, rfl, Nat.le_refl _, fun _ _ _ => rfl⟩ (h.li x hx) (fun _ _ e => by cases e), h.ap⟩
theorem Sep.cellI {B : Nat} {w0 w : World} {L : List It} {g n c : Nat} {l : List Int} (h : Sep B w0 w L) (hm : rI (.slice (some ⟨g, 0, none⟩) n c) l ∈ L) {i : Nat} {x : Int} (hi : l[i]? = some x) : w.cell? ⟨g, i, none⟩ = some (.int .i64 x) := by
  have hr : w.ownsRow B 3 1 (.slice (some ⟨g, 0, none⟩) n c) l.length (zi l) := h.li _ hm
  have h1 := hr.cells (g := g) rfl i (.int .i64 x) (by rw [zi, List.getElem?_map, hi]; rfl)
  rwa [Addr.add_mid, Nat.zero_add] at h1
theorem Sep.capI {B : Nat} {w0 w : World} {L : List It} {p : Option Addr} {n c : Nat} {l : List Int} (h : Sep B w0 w L) (hm : rI (.slice p n c) l ∈ L) (hl : 0 < l.length) : n ≤ c := by
  have hr : w.ownsRow B 3 1 (.slice p n c) l.length (zi l) := h.li _ hm
  have hn := h.len (c := c) hm
  obtain ⟨g, cap, he, h2⟩ := row_own hr hl
  injection he with e1 e2 e3
  omega
end Go.Proofs.Ytpmkdpjcpimhkaa
