/- Texts of package regs, one behind the other. -/
import Derived.Test.YtemkppjdfjoipaaProg
import Derived.Test.YtemkppjdfjoipaaU37
import Derived.Deep.SlicePairs
import Derived.Deep.Slices
import Derived.Laws.IdiomArrays
import Derived.OpenShut
import Derived.WideBlind
import Derived.Great.BuildSlice
import Derived.WalkKit
import Derived.Maps.OwnSet
import Derived.Maps.OwnOps
import Derived.Maps.Own
import Derived.DeepKeys5
import Derived.BigFrame
import Derived.WalkMore
import Derived.ScopeJumps
import Derived.StillTailTactics
import Derived.Stop.BytesEq
import Derived.WalkLawsBesides
import Derived.WalkSpells
import Derived.Outline
import Derived.Lib.Walk
import Derived.Lib.Hide
import Derived.Lib.Slices
import Derived.Lib.Strings
import Derived.RegionTactic
import Derived.LoopTactic
import Derived.Below
import Derived.IntWalk
import Derived.Deep.QuietTactic
import Derived.BigQuiet
import Derived.Deep.MidRow
import Derived.Maps.AppendAt
import Derived.Laws.Rows
import Derived.Laws.Tables
import Derived.Deep.WholeRow
import Derived.Deep.Cut
import Derived.Deep.CutRange
import Derived.Lib.SliceRun
import Derived.Laws.MakeOwn
import Derived.Deep.RegionLaw
import Derived.Deep.RegionLawGrows
import Derived.Deep.RegionHeld3
import Derived.RegionCalls
import Derived.Deep.RegionWith
import Derived.Deep.Light
import Derived.Laws.CopyOwn
import Derived.Laws.ResultCell
section
/- Package relex. -/
namespace Go.Proofs.Ytemkppjdfjoipaa.I1.X
set_option linter.unusedSimpArgs false
set_option linter.unusedVariables false
set_option maxRecDepth 100000
open Go.RowKit
/- piece. -/
end Go.Proofs.Ytemkppjdfjoipaa.I1.X
end
section
/- Package relex. -/
namespace Go.Proofs.Ytemkppjdfjoipaa.I1.X
set_option linter.unusedSimpArgs false
set_option linter.unusedVariables false
set_option maxRecDepth 100000
open Go.RowKit
/- What a text comes «to», in memory; beginning. -/
def MV (D : Nat → Prop) (w : World) (ms : List Mk) (sl : Value) : Prop := ∃ p c, sl = .slice p ms.length c ∧ (ms ≠ [] → ∃ b o, p = some ⟨b, o, none⟩ ∧ D b ∧ ∀ i (h : i < ms.length), ∃ q f, IV D w ms[i].cols (.slice q ms[i].cols.length f) ∧ ∀ r v, (mkA (.slice q ms[i].cols.length f) ms[i])[r]? = some v → w.cell? ⟨b, o + i * 5 + r, none⟩ = some v)
theorem MV.mono {D E : Nat → Prop} {w w' : World} (hE : ∀ b, D b → E b) (hw : ∀ b, D b → b < w.heap.size → w'.heap[b]? = w.heap[b]?) {l : List Mk} {sl : Value} (h : MV D w l sl) : MV E w' l sl := by
  obtain ⟨p, c, rfl, h⟩ := h
  refine ⟨p, c, rfl, fun hn => ?_⟩
  obtain ⟨b, o, hp, hD, hc⟩ := h hn
  refine ⟨b, o, hp, hE b hD, fun i hi => ?_⟩
  obtain ⟨q, f, h1, h2⟩ := hc i hi
  exact ⟨q, f, h1.mono hE hw, fun r v hv => (cell_same (hw b hD (blk_lt (h2 r v hv))) _).trans (h2 r v hv)⟩
structure LV (N : Nat) (w : World) (L : List P3) (x : Lx) (p1 p2 p3 p4 : Option Addr) (c1 c2 c3 c4 : Nat) : Prop where
  r : RW (Lt N) w (L.map tR) (.slice p1 L.length c1)
  m : MV (Lt N) w x.marks (.slice p2 x.marks.length c2)
  k : IV (Lt N) w x.counts (.slice p3 x.counts.length c3)
  t : WV (Lt N) w x.toks (.slice p4 x.toks.length c4)
  h1 : L.length ≤ c1
  h2 : x.marks.length ≤ c2
  h3 : x.counts.length ≤ c3
  h4 : x.toks.length ≤ c4
theorem LV.up {N M : Nat} {w w' : World} {L : List P3} {x : Lx} {p1 p2 p3 p4 : Option Addr} {c1 c2 c3 c4 : Nat} (h : LV N w L x p1 p2 p3 p4 c1 c2 c3 c4) (hN : N ≤ M) (hb : Below N w w') : LV M w' L x p1 p2 p3 p4 c1 c2 c3 c4 :=
  ⟨h.r.mono (fun b hb => Nat.lt_of_lt_of_le hb hN) (fun b hb' _ => hb.block b hb'), h.m.mono (fun b hb => Nat.lt_of_lt_of_le hb hN) (fun b hb' _ => hb.block b hb'), h.k.mono (fun b hb => Nat.lt_of_lt_of_le hb hN) (fun b hb' _ => hb.block b hb'), h.t.mono (fun b hb => Nat.lt_of_lt_of_le hb hN) (fun b hb' _ => hb.block b hb'), h.h1, h.h2, h.h3, h.h4⟩
end Go.Proofs.Ytemkppjdfjoipaa.I1.X
end
section
/- Package relex. -/
namespace Go.Proofs.Ytemkppjdfjoipaa.I1.X
set_option linter.unusedSimpArgs false
set_option linter.unusedVariables false
set_option maxRecDepth 100000
open Go.RowKit
/- slices.Clone of lists that may be empty. -/
def GV (D : Nat → Prop) (w : World) (xs : List Value) (p : Option Addr) : Prop := xs ≠ [] → ∃ b o, p = some ⟨b, o, none⟩ ∧ D b ∧ ∀ j u, xs[j]? = some u → w.cell? ⟨b, o + j, none⟩ = some u
theorem GV.mono {D E : Nat → Prop} {w w' : World} (hE : ∀ b, D b → E b) (hw : ∀ b, D b → b < w.heap.size → w'.heap[b]? = w.heap[b]?) {xs : List Value} {p : Option Addr} (h : GV D w xs p) : GV E w' xs p := fun hn => by
  obtain ⟨b, o, hp, hD, hc⟩ := h hn
  exact ⟨b, o, hp, hE b hD, fun j u hu => (cell_same (hw b hD (blk_lt (hc j u hu))) _).trans (hc j u hu)⟩
end Go.Proofs.Ytemkppjdfjoipaa.I1.X
end
section
/- Package relex. -/
namespace Go.Proofs.Ytemkppjdfjoipaa.I1.X
set_option linter.unusedSimpArgs false
set_option linter.unusedVariables false
set_option maxRecDepth 100000
open Go.RowKit
/- copiedMarks: plain and its lists. -/
def clen : List Mk → Nat
  | [] => 0
  | m :: r => m.cols.length + clen r
def vsR (bR off : Nat) : List Mk → List Value
  | [] => []
  | m :: r => .slice (some ⟨bR, off, none⟩) m.cols.length m.cols.length :: vsR bR (off + m.cols.length) r
def zcols : List Mk → List Int
  | [] => []
  | m :: r => m.cols ++ zcols r
theorem clen_app : ∀ (a b : List Mk), clen (a ++ b) = clen a + clen b
  | [], b => by simp [clen]
  | m :: a, b => by rw [List.cons_append, clen, clen, clen_app a b]; omega
theorem snocL {α : Type} (l : List α) {j : Nat} (h : j < l.length) : l.take (j + 1) = l.take j ++ [l[j]] := by
  rw [List.take_add_one, List.getElem?_eq_getElem h]; rfl
theorem clen_take (ms : List Mk) {j : Nat} (h : j < ms.length) : clen (ms.take (j + 1)) = clen (ms.take j) + ms[j].cols.length := by
  rw [snocL ms h, clen_app]; simp [clen]
theorem clen_le (ms : List Mk) (j : Nat) : clen (ms.take j) ≤ clen ms := by
  have := clen_app (ms.take j) (ms.drop j)
  rw [List.take_append_drop] at this; omega
theorem mkL_get : ∀ {vs : List Value} {ms : List Mk} (h : vs.length = ms.length) (i : Nat) (hi : i < ms.length) (r : Nat) (hr : r < 5), (mkL vs ms)[i * 5 + r]? = (mkA (vs[i]'(by omega)) ms[i])[r]?
  | [], [], _, i, hi, _, _ => by simp at hi
  | v :: vs, m :: ms, h, 0, _, r, hr => by
    have e : mkL (v :: vs) (m :: ms) = (mkA v m).toList ++ mkL vs ms := rfl
    rw [e, Nat.zero_mul, Nat.zero_add, List.getElem?_append_left (by simp [mkA]; exact hr)]
    simp
  | v :: vs, m :: ms, h, i + 1, hi, r, hr => by
    have e : mkL (v :: vs) (m :: ms) = (mkA v m).toList ++ mkL vs ms := rfl
    have l5 : (mkA v m).toList.length = 5 := rfl
    rw [e, List.getElem?_append_right (by rw [l5]; omega), l5, show (i + 1) * 5 + r - 5 = i * 5 + r by omega, mkL_get (vs := vs) (ms := ms) (by simpa using h) i (by simpa using hi) r hr]
    rfl
/-- A mark's cells. -/
theorem mv_get {D : Nat → Prop} {w : World} {ms : List Mk} {p : Option Addr} {n c : Nat} (h : MV D w ms (.slice p n c)) {i : Nat} (hi : i < ms.length) : n = ms.length ∧ ∃ b o q f, p = some ⟨b, o, none⟩ ∧ D b ∧ IV D w ms[i].cols (.slice q ms[i].cols.length f) ∧ w.cell? ⟨b, o + i * 5, none⟩ = some (.slice q ms[i].cols.length f) ∧ w.cell? ⟨b, o + i * 5 + 1, none⟩ = some (.int .i64 ms[i].opn) ∧ w.cell? ⟨b, o + i * 5 + 2, none⟩ = some (.int .i64 ms[i].col) ∧ w.cell? ⟨b, o + i * 5 + 3, none⟩ = some (.bool ms[i].fresh) ∧ w.cell? ⟨b, o + i * 5 + 4, none⟩ = some (.int .i64 ms[i].lead) := by
  obtain ⟨p', c', he, hh⟩ := h
  injection he with e1 e2 e3
  subst e1 e3
  obtain ⟨b, o, rfl, hb, hc⟩ := hh (by intro e; rw [e] at hi; simp at hi)
  obtain ⟨q, f, h1, h2⟩ := hc i hi
  exact ⟨e2, b, o, q, f, rfl, hb, h1, h2 0 _ rfl, h2 1 _ rfl, h2 2 _ rfl, h2 3 _ rfl, h2 4 _ rfl⟩
end Go.Proofs.Ytemkppjdfjoipaa.I1.X
end
