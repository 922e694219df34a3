/- Texts of package regs, one behind the other. -/
import Derived.Test.YtemkppjdfjoipaaProg
import Derived.Test.YtemkppjdfjoipaaU39
import Derived.Test.YtemkppjdfjoipaaRS0
import Derived.Deep.SlicePairs
import Derived.Deep.Slices
import Derived.Laws.IdiomArrays
import Derived.OpenShut
import Derived.WideBlind
import Derived.Great.BuildSlice
import Derived.WalkKit
import Derived.Maps.OwnSet
import Derived.Maps.OwnOps
import Derived.Maps.Own
import Derived.DeepKeys5
import Derived.BigFrame
import Derived.WalkMore
import Derived.ScopeJumps
import Derived.StillTailTactics
import Derived.Stop.BytesEq
import Derived.WalkLawsBesides
import Derived.WalkSpells
import Derived.Outline
import Derived.Lib.Walk
import Derived.Lib.Hide
import Derived.Lib.Slices
import Derived.Lib.Strings
import Derived.RegionTactic
import Derived.LoopTactic
import Derived.Below
import Derived.IntWalk
import Derived.Deep.QuietTactic
import Derived.BigQuiet
import Derived.Deep.MidRow
import Derived.Maps.AppendAt
import Derived.Laws.Rows
import Derived.Laws.Tables
import Derived.Deep.WholeRow
import Derived.Deep.Cut
import Derived.Deep.CutRange
import Derived.Lib.SliceRun
import Derived.Laws.MakeOwn
import Derived.Deep.RegionLaw
import Derived.Deep.RegionLawGrows
import Derived.Deep.RegionHeld3
import Derived.RegionCalls
import Derived.Deep.RegionWith
import Derived.Deep.Light
import Derived.Laws.CopyOwn
import Derived.Laws.ResultCell
section
/- Package relex. -/
namespace Go.Proofs.Ytemkppjdfjoipaa.I1.X
set_option linter.unusedSimpArgs false
set_option linter.unusedVariables false
set_option maxRecDepth 100000
open Go.RowKit
/- newScanner. -/
open Go.Maps
end Go.Proofs.Ytemkppjdfjoipaa.I1.X
end
section
/- Package relex. -/
namespace Go.Proofs.Ytemkppjdfjoipaa.I1.X
set_option linter.unusedSimpArgs false
set_option linter.unusedVariables false
set_option maxRecDepth 100000
open Go.RowKit
/- Lists that may be another one's, cut at their ends: what is appended goes «to» memory of one's own. -/
/-- Read where it lies, with no room behind; or a row of one's own. -/
def fr (own : Bool) (v : Value) (e : TypeId) (size n : Nat) (xs : List Value) : It := bif own then .row v e size n xs else .row (.slice none 0 0) e size 0 []
structure Fr (B : Nat) (w0 : World) (own : Bool) (v : Value) (size n : Nat) (xs : List Value) : Prop where
  len : xs.length = n * size
  out : own = false → ∃ p, v = .slice p n n ∧ (p = none → n = 0) ∧ GV (fun b => b < B) w0 xs p
theorem Fr.at_ {B : Nat} {w0 w : World} {own : Bool} {v : Value} {e : TypeId} {size n : Nat} {xs : List Value} {L : List It} (h : Fr B w0 own v size n xs) (hs : Sep B w0 w (fr own v e size n xs :: L)) : ∃ p c, v = .slice p n c ∧ n ≤ c ∧ (p = none → c = 0) ∧ GV (fun b => b < w.heap.size) w xs p := by
  cases own with
  | false =>
    obtain ⟨p, rfl, h0, hg⟩ := h.out rfl
    refine ⟨p, n, rfl, Nat.le_refl _, h0, fun hn => ?_⟩
    obtain ⟨b, o, hp, hb, hc⟩ := hg hn
    exact ⟨b, o, hp, Nat.lt_of_lt_of_le hb hs.sz, fun j u hu => (cell_same (hs.bel.block b hb) _).trans (hc j u hu)⟩
  | true =>
    have hr : w.ownsRow B e size v n xs := hs.at
    rcases hr.2 with ⟨rfl, h0⟩ | ⟨g, cap, cur, hv, _, _, hc, _⟩
    · refine ⟨none, 0, by rw [h0], by omega, fun _ => rfl, fun hn => ?_⟩
      have := h.len
      rw [h0, Nat.zero_mul] at this
      exact absurd (List.length_eq_zero_iff.1 this) hn
    · subst hv
      refine ⟨some ⟨g, 0, none⟩, cap, rfl, hc, (fun h => by cases h), fun _ => ⟨g, 0, rfl, (hr.lt g rfl).2, fun j u hu => ?_⟩⟩
      have := hr.cells (g := g) rfl j u hu
      rwa [Addr.add_mid] at this
end Go.Proofs.Ytemkppjdfjoipaa.I1.X
end
section
/- Package relex. -/
namespace Go.Proofs.Ytemkppjdfjoipaa.I1.X
set_option linter.unusedSimpArgs false
set_option linter.unusedVariables false
set_option maxRecDepth 100000
open Go.RowKit
/- Lists that grow: the laws at the operation; a Lexed that is being made. -/
theorem Fr.own {B : Nat} {w0 w : World} {v : Value} {e : TypeId} {size n : Nat} {xs : List Value} {L : List It} (hs : Sep B w0 w (.row v e size n xs :: L)) : Fr B w0 true v size n xs := ⟨hs.at.1, fun h => by cases h⟩
/-- Marks' columns: read where they lay, or rows of one's own among the items. -/
def MkS (B : Nat) (w0 : World) (L : List It) (vs : List Value) (ms : List Mk) : Prop := vs.length = ms.length ∧ ∀ i (h : i < vs.length) (h2 : i < ms.length), (∃ q f, vs[i] = .slice q ms[i].cols.length f ∧ IV (Lt B) w0 ms[i].cols (.slice q ms[i].cols.length f)) ∨ rI vs[i] ms[i].cols ∈ L
theorem MkS.sub {B : Nat} {w0 : World} {L L' : List It} {vs : List Value} {ms : List Mk} (h : MkS B w0 L vs ms) (hL : ∀ x ∈ L, x ∈ L') : MkS B w0 L' vs ms := ⟨h.1, fun i h1 h2 => (h.2 i h1 h2).imp id (hL _)⟩
theorem MkS.app {B : Nat} {w0 : World} {L : List It} {vs vs' : List Value} {ms ms' : List Mk} (h : MkS B w0 L vs ms) (h' : MkS B w0 L vs' ms') : MkS B w0 L (vs ++ vs') (ms ++ ms') := by
  refine ⟨by rw [List.length_append, List.length_append, h.1, h'.1], fun i h1 h2 => ?_⟩
  by_cases e : i < vs.length
  · rw [List.getElem_append_left e, List.getElem_append_left (by rw [← h.1]; exact e)]
    exact h.2 i e _
  · rw [List.getElem_append_right (by omega), List.getElem_append_right (by rw [← h.1]; omega)]
    have := h'.2 (i - vs.length) (by rw [List.length_append] at h1; omega) (by rw [List.length_append] at h2; have := h.1; omega)
    simpa only [h.1] using this
theorem MkS.one {B : Nat} {w0 : World} {L : List It} {v : Value} {m : Mk} (h : (∃ q f, v = .slice q m.cols.length f ∧ IV (Lt B) w0 m.cols (.slice q m.cols.length f)) ∨ rI v m.cols ∈ L) : MkS B w0 L [v] [m] := by
  refine ⟨rfl, fun i h1 h2 => ?_⟩
  have : i = 0 := by simp at h1; omega
  subst this; exact h
/-- What a mark's columns are, now. -/
theorem MkS.iv {B : Nat} {w0 w : World} {L : List It} {vs : List Value} {ms : List Mk} (h : MkS B w0 L vs ms) (hs : Sep B w0 w L) {i : Nat} (h1 : i < vs.length) (h2 : i < ms.length) : ∃ q f, vs[i] = .slice q ms[i].cols.length f ∧ IV (fun b => b < w.heap.size) w ms[i].cols (.slice q ms[i].cols.length f) := by
  rcases h.2 i h1 h2 with ⟨q, f, e, hiv⟩ | hm
  · exact ⟨q, f, e, hiv.mono (fun b hb => Nat.lt_of_lt_of_le hb hs.sz) (fun b hb _ => hs.bel.block b hb)⟩
  · have hr : It.lies B w (rI vs[i] ms[i].cols) := hs.li _ hm
    obtain ⟨q, f, e⟩ := row_form hr
    have h9 := own_iv hr
    rw [e] at h9
    exact ⟨q, f, e, h9.mono (fun b hb => hb.2.1) (fun b _ _ => rfl)⟩
/-- Marks in a row, as they are read. -/
theorem mv_of {B : Nat} {w0 w : World} {L : List It} {vs : List Value} {ms : List Mk} {p : Option Addr} {c : Nat} (h : MkS B w0 L vs ms) (hs : Sep B w0 w L) (hg : GV (fun b => b < w.heap.size) w (mkL vs ms) p) : MV (Lt w.heap.size) w ms (.slice p ms.length c) := by
  refine ⟨p, c, rfl, fun hn => ?_⟩
  have hl : (mkL vs ms).length = ms.length * 5 := mkL_len h.1
  have hpos := List.length_pos_iff.2 hn
  obtain ⟨b, o, hp, hb, hc⟩ := hg (by intro e; rw [e] at hl; simp at hl; omega)
  refine ⟨b, o, hp, hb, fun i hi => ?_⟩
  obtain ⟨q, f, e, hiv⟩ := h.iv hs (by rw [h.1]; exact hi) hi
  refine ⟨q, f, hiv, fun r v hv => ?_⟩
  have hr : r < 5 := by
    have := (Array.getElem?_eq_some_iff.1 hv).1
    simpa [mkA] using this
  have hm := mkL_get h.1 i hi r hr
  rw [e] at hm
  rw [Nat.add_assoc]
  exact hc _ _ (hm.trans hv)
theorem iv_of {D : Nat → Prop} {w : World} {l : List Int} {p : Option Addr} {c : Nat} (h : GV D w (zi l) p) : IV D w l (.slice p l.length c) := by
  refine ⟨p, c, rfl, fun hn => ?_⟩
  obtain ⟨b, o, hp, hb, hc⟩ := h (by intro e; have := congrArg List.length e; rw [zi_length] at this; exact hn (List.length_eq_zero_iff.1 this))
  exact ⟨b, o, hp, hb, fun i hi => hc i _ (by simp [zi, hi])⟩
theorem rw_of {D : Nat → Prop} {w : World} {l : List Rw} {p : Option Addr} {c : Nat} (h0 : p = none → c = 0) (h : GV D w (rwL l) p) : RW D w l (.slice p l.length c) := by
  have hne : l ≠ [] → rwL l ≠ [] := fun hn e => by
    have := congrArg List.length e
    rw [rwL_len] at this
    have h9 := List.length_pos_iff.2 hn
    simp at this; omega
  refine ⟨p, c, rfl, fun hp => ⟨h0 hp, ?_⟩, fun hn => ?_⟩
  · by_cases e : l = []
    · exact e
    · obtain ⟨b, o, hp2, _⟩ := h (hne e)
      rw [hp] at hp2; cases hp2
  · obtain ⟨b, o, hp, hb, hc⟩ := h (hne hn)
    exact ⟨b, o, hp, hb, hc⟩
theorem wv_of {D : Nat → Prop} {w : World} {l : List Tk} {p : Option Addr} {c : Nat} (h0 : p = none → c = 0) (h : GV D w (tkL l) p) : WV D w l (.slice p l.length c) := RW.wv (rw_of h0 h)
/-- A Lexed that is being made: four lists. -/
structure XS (B : Nat) (w0 : World) (o1 o2 o3 o4 : Bool) (v1 v2 v3 v4 : Value) (L : List P3) (vs : List Value) (ms : List Mk) (C : List Int) (T : List Tk) : Prop where
  f1 : Fr B w0 o1 v1 3 L.length (rwL (L.map tR))
  f2 : Fr B w0 o2 v2 5 ms.length (mkL vs ms)
  f3 : Fr B w0 o3 v3 1 C.length (zi C)
  f4 : Fr B w0 o4 v4 3 T.length (tkL T)
abbrev xI (o1 o2 o3 o4 : Bool) (v1 v2 v3 v4 : Value) (L : List P3) (vs : List Value) (ms : List Mk) (C : List Int) (T : List Tk) (X : List It) : List It :=
  fr o1 v1 38 3 L.length (rwL (L.map tR)) :: fr o2 v2 36 5 ms.length (mkL vs ms) :: fr o3 v3 3 1 C.length (zi C) :: fr o4 v4 40 3 T.length (tkL T) :: X
/-- It may be read. -/
theorem XS.lv {B : Nat} {w0 w : World} {o1 o2 o3 o4 : Bool} {v1 v2 v3 v4 : Value} {L : List P3} {vs : List Value} {ms : List Mk} {C : List Int} {T : List Tk} {X : List It} (h : XS B w0 o1 o2 o3 o4 v1 v2 v3 v4 L vs ms C T) (hk : MkS B w0 X vs ms) (hs : Sep B w0 w (xI o1 o2 o3 o4 v1 v2 v3 v4 L vs ms C T X)) :
    ∃ p1 p2 p3 p4 c1 c2 c3 c4, v1 = .slice p1 L.length c1 ∧ v2 = .slice p2 ms.length c2 ∧ v3 = .slice p3 C.length c3 ∧ v4 = .slice p4 T.length c4 ∧ LV w.heap.size w L ⟨ms, C, T⟩ p1 p2 p3 p4 c1 c2 c3 c4 := by
  obtain ⟨p1, c1, e1, l1, z1, g1⟩ := h.f1.at_ hs
  obtain ⟨p2, c2, e2, l2, z2, g2⟩ := h.f2.at_ hs.tl
  obtain ⟨p3, c3, e3, l3, z3, g3⟩ := h.f3.at_ hs.tl.tl
  obtain ⟨p4, c4, e4, l4, z4, g4⟩ := h.f4.at_ hs.tl.tl.tl
  have r := rw_of (c := c1) z1 g1
  rw [List.length_map] at r
  exact ⟨p1, p2, p3, p4, c1, c2, c3, c4, e1, e2, e3, e4, ⟨r, mv_of hk hs.tl.tl.tl.tl g2, iv_of g3, wv_of z4 g4, l1, l2, l3, l4⟩⟩
end Go.Proofs.Ytemkppjdfjoipaa.I1.X
end
