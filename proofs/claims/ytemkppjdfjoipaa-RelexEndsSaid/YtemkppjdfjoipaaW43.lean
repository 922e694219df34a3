/- Texts of package regs, one behind the other. -/
import Derived.Test.YtemkppjdfjoipaaProg
import Derived.Test.YtemkppjdfjoipaaW39
import Derived.Test.YtemkppjdfjoipaaW40
import Derived.Test.YtemkppjdfjoipaaXz
import Derived.Deep.SlicePairs
import Derived.Deep.Slices
import Derived.Laws.IdiomArrays
import Derived.OpenShut
import Derived.WideBlind
import Derived.Great.BuildSlice
import Derived.WalkKit
import Derived.Maps.OwnSet
import Derived.Maps.OwnOps
import Derived.Maps.Own
import Derived.DeepKeys5
import Derived.BigFrame
import Derived.WalkMore
import Derived.ScopeJumps
import Derived.StillTailTactics
import Derived.Stop.BytesEq
import Derived.WalkLawsBesides
import Derived.WalkSpells
import Derived.Outline
import Derived.Lib.Walk
import Derived.Lib.Hide
import Derived.Lib.Slices
import Derived.Lib.Strings
import Derived.RegionTactic
import Derived.LoopTactic
import Derived.Below
import Derived.IntWalk
import Derived.Deep.QuietTactic
import Derived.BigQuiet
import Derived.Deep.MidRow
import Derived.Maps.AppendAt
import Derived.Laws.Rows
import Derived.Laws.Tables
import Derived.Deep.WholeRow
import Derived.Deep.Cut
import Derived.Deep.CutRange
import Derived.Lib.SliceRun
import Derived.Laws.MakeOwn
import Derived.Deep.RegionLaw
import Derived.Deep.RegionLawGrows
import Derived.Deep.RegionHeld3
import Derived.RegionCalls
import Derived.Deep.RegionWith
import Derived.Deep.Light
import Derived.Laws.CopyOwn
import Derived.Laws.ResultCell
section
/- What is told, as it is read -/
namespace Go.Proofs.Ytemkppjdfjoipaa.I1.X
set_option linter.unusedSimpArgs false
set_option linter.unusedVariables false
set_option maxRecDepth 100000
open Go.RowKit
/- What Lexed and Edit tell, as it is read. -/
theorem vsR_at (bR : Nat) : ∀ (ms : List Mk) (o : Nat) (i : Nat) (h : i < ms.length), (vsR bR o ms)[i]? = some (.slice (some ⟨bR, o + clen (ms.take i), none⟩) ms[i].cols.length ms[i].cols.length)
  | m :: ms, o, 0, h => by simp [vsR, clen]
  | m :: ms, o, i + 1, h => by
    have e := vsR_at bR ms (o + m.cols.length) i (by simpa using h)
    simp only [vsR, List.getElem?_cons_succ, List.take_succ_cons, clen, List.getElem_cons_succ] at e ⊢
    rw [e, Nat.add_assoc]
theorem zcols_at : ∀ (ms : List Mk) (i : Nat) (h : i < ms.length) (j : Nat) (hj : j < ms[i].cols.length), (zcols ms)[clen (ms.take i) + j]? = some ms[i].cols[j]
  | m :: ms, 0, h, j, hj => by
    simp only [zcols, List.take_zero, clen, Nat.zero_add, List.getElem_cons_zero] at hj ⊢
    rw [List.getElem?_append_left hj, List.getElem?_eq_getElem hj]
  | m :: ms, i + 1, h, j, hj => by
    have e := zcols_at ms i (by simpa using h) j (by simpa using hj)
    simp only [zcols, List.take_succ_cons, clen, List.getElem_cons_succ] at e hj ⊢
    rw [List.getElem?_append_right (by omega), show m.cols.length + clen (ms.take i) + j - m.cols.length = clen (ms.take i) + j by omega]
    exact e
theorem cp_lv {B : Nat} {w0 w : World} {q1 q3 q4 : Option Addr} {e1 e3 e4 bT bR : Nat} {L : List P3} {x : Lx} {X : List It} (h : Sep B w0 w (cpI q1 q3 q4 e1 e3 e4 bT bR L x X)) : LV w.heap.size w L x q1 (some ⟨bT, 0, none⟩) q3 q4 e1 x.marks.length e3 e4 := by
  have h4 := (Fr.own h).at_ (e := 40) h
  have h3 := (Fr.own h.tl).at_ (e := 3) h.tl
  have h1 := (Fr.own h.tl.tl.tl.tl).at_ (e := 38) h.tl.tl.tl.tl
  obtain ⟨p4, c4, a4, b4, z4, g4⟩ := h4
  obtain ⟨p3, c3, a3, b3, z3, g3⟩ := h3
  obtain ⟨p1, c1, a1, b1, z1, g1⟩ := h1
  injection a4 with a4 _ a4'
  injection a3 with a3 _ a3'
  injection a1 with a1 _ a1'
  subst a4 a4' a3 a3' a1 a1'
  have r := rw_of (c := e1) z1 g1
  rw [List.length_map] at r
  refine ⟨r, ⟨some ⟨bT, 0, none⟩, x.marks.length, rfl, fun hn => ⟨bT, 0, rfl, (It.lt h.tl.tl.at rfl).2, fun i hi => ?_⟩⟩, iv_of g3, wv_of z4 g4, b1, Nat.le_refl _, b3, b4⟩
  refine ⟨some ⟨bR, 0 + clen (x.marks.take i), none⟩, x.marks[i].cols.length, ⟨_, _, rfl, fun hn2 => ⟨bR, 0 + clen (x.marks.take i), rfl, (It.lt h.tl.tl.tl.at rfl).2, fun j hj => ?_⟩⟩, fun r v hv => ?_⟩
  · have hc := h.tl.tl.tl.boxAt (0 + clen (x.marks.take i) + j)
    rw [hc, List.getElem?_toArray, Nat.zero_add]
    have e := zcols_at x.marks i hi j hj
    simp [zi, e]
  · have hr : r < 5 := by
      have := (Array.getElem?_eq_some_iff.1 hv).1
      simpa [mkA] using this
    have hc := h.tl.tl.boxAt (0 + i * 5 + r)
    have hvl := vsR_len bR x.marks 0
    have e := vsR_at bR x.marks 0 i hi
    have hg := mkL_get hvl i hi r hr
    rw [hc]
    unfold csT
    rw [List.getElem?_toArray, Nat.zero_add, hg]
    have ei : (vsR bR 0 x.marks)[i]'(by rw [hvl]; exact hi) = .slice (some ⟨bR, 0 + clen (x.marks.take i), none⟩) x.marks[i].cols.length x.marks[i].cols.length := by
      rw [List.getElem?_eq_getElem (by rw [hvl]; exact hi)] at e
      injection e
    rw [ei]
    exact hv
end Go.Proofs.Ytemkppjdfjoipaa.I1.X
end
section
/- What Edit made -/
namespace Go.Proofs.Ytemkppjdfjoipaa.I1.X
set_option linter.unusedSimpArgs false
set_option linter.unusedVariables false
set_option maxRecDepth 100000
open Go.RowKit
/- What Edit made, beside whatever else lies there. -/
abbrev qV (bs : Nat) (t : ByteArray) (r1 r2 r3 r4 : Option Addr) (n1 l1 n2 l2 n3 l3 n4 l4 : Nat) : Array Value := #[.pointer (some ⟨bs, 0, none⟩), .string t, .slice r1 n1 l1, .slice r2 n2 l2, .slice r3 n3 l3, .slice r4 n4 l4]
structure NsI (B : Nat) (w : World) (XF J : List It) (d : Df) (kl : List Int) (t : ByteArray) (bq bs : Nat) (o1 o2 o3 o4 : Bool) (r1 r2 r3 r4 : Option Addr) (l1 l2 l3 l4 : Nat) (vs : List Value) (q1 q3 q4 : Option Addr) (e1 e3 e4 bT bR : Nat) (w' : World) : Prop where
  xs : XS B w o1 o2 o3 o4 (.slice r1 (scL d kl t).length l1) (.slice r2 (scX d kl t).marks.length l2) (.slice r3 (scX d kl t).counts.length l3) (.slice r4 (scX d kl t).toks.length l4) (scL d kl t) vs (scX d kl t).marks (scX d kl t).counts (scX d kl t).toks
  mks : MkS B w (J ++ XF) vs (scX d kl t).marks
  sn : SN B w bs d kl
  sp : Sep B w w' (.box bq (.cells (qV bs t r1 r2 r3 r4 (scL d kl t).length l1 (scX d kl t).marks.length l2 (scX d kl t).counts.length l3 (scX d kl t).toks.length l4) 49 (0, 0)) :: cpI q1 q3 q4 e1 e3 e4 bT bR (scL d kl t) (scX d kl t) (xI o1 o2 o3 o4 (.slice r1 (scL d kl t).length l1) (.slice r2 (scX d kl t).marks.length l2) (.slice r3 (scX d kl t).counts.length l3) (.slice r4 (scX d kl t).toks.length l4) (scL d kl t) vs (scX d kl t).marks (scX d kl t).counts (scX d kl t).toks (J ++ XF)))
section
variable {B : Nat} {w : World} {XF XF' J : List It} {d : Df} {kl : List Int} {t : ByteArray} {bq bs : Nat} {o1 o2 o3 o4 : Bool} {r1 r2 r3 r4 : Option Addr} {l1 l2 l3 l4 : Nat} {vs : List Value} {q1 q3 q4 : Option Addr} {e1 e3 e4 bT bR : Nat} {w' w'' : World}
theorem NsI.sc (h : NsI B w XF J d kl t bq bs o1 o2 o3 o4 r1 r2 r3 r4 l1 l2 l3 l4 vs q1 q3 q4 e1 e3 e4 bT bR w') : ScV w'.heap.size w' bq d kl t := by
  have hq := h.sp
  have hU := hq.tl.tl.tl.tl.tl.tl
  obtain ⟨p1', p2', p3', p4', c1', c2', c3', c4', ea, eb, ec, ed, hl⟩ := h.xs.lv h.mks hU
  injection ea with a1 _ a2
  injection eb with a3 _ a4
  injection ec with a5 _ a6
  injection ed with a7 _ a8
  subst a1 a2 a3 a4 a5 a6 a7 a8
  exact ⟨bs, _, _, _, _, _, _, _, _, ⟨(It.lt hq.at rfl).2, Nat.le_refl _, h.sn.up hq.sz (Nat.le_refl _) hq.bel, hl, hq.boxAt 0, hq.boxAt 1, hq.boxAt 2, hq.boxAt 3, hq.boxAt 4, hq.boxAt 5⟩⟩
theorem NsI.lv (h : NsI B w XF J d kl t bq bs o1 o2 o3 o4 r1 r2 r3 r4 l1 l2 l3 l4 vs q1 q3 q4 e1 e3 e4 bT bR w') : LV w'.heap.size w' (scL d kl t) (scX d kl t) q1 (some ⟨bT, 0, none⟩) q3 q4 e1 (scX d kl t).marks.length e3 e4 := cp_lv h.sp.tl
theorem NsI.up (h : NsI B w XF J d kl t bq bs o1 o2 o3 o4 r1 r2 r3 r4 l1 l2 l3 l4 vs q1 q3 q4 e1 e3 e4 bT bR w') (hb : Below w'.heap.size w' w'') : NsI B w XF J d kl t bq bs o1 o2 o3 o4 r1 r2 r3 r4 l1 l2 l3 l4 vs q1 q3 q4 e1 e3 e4 bT bR w'' := ⟨h.xs, h.mks, h.sn, h.sp.up hb⟩
theorem NsI.re (h : NsI B w XF J d kl t bq bs o1 o2 o3 o4 r1 r2 r3 r4 l1 l2 l3 l4 vs q1 q3 q4 e1 e3 e4 bT bR w') (hr : ∀ v l, rI v l ∈ J ++ XF → rI v l ∈ J ++ XF') (hs : Sep B w w'' (.box bq (.cells (qV bs t r1 r2 r3 r4 (scL d kl t).length l1 (scX d kl t).marks.length l2 (scX d kl t).counts.length l3 (scX d kl t).toks.length l4) 49 (0, 0)) :: cpI q1 q3 q4 e1 e3 e4 bT bR (scL d kl t) (scX d kl t) (xI o1 o2 o3 o4 (.slice r1 (scL d kl t).length l1) (.slice r2 (scX d kl t).marks.length l2) (.slice r3 (scX d kl t).counts.length l3) (.slice r4 (scX d kl t).toks.length l4) (scL d kl t) vs (scX d kl t).marks (scX d kl t).counts (scX d kl t).toks (J ++ XF')))) : NsI B w XF' J d kl t bq bs o1 o2 o3 o4 r1 r2 r3 r4 l1 l2 l3 l4 vs q1 q3 q4 e1 e3 e4 bT bR w'' := ⟨h.xs, h.mks.subI hr, h.sn, hs⟩
end
def EdF (B : Nat) (w : World) (XF : List It) (d : Df) (kl : List Int) (s t : ByteArray) (st en be : Nat) (e : Ending) (w' : World) : Prop :=
  ∃ bq bs q1 q3 q4 e1 e3 e4 bT bR cnt o1 o2 o3 o4 r1 r2 r3 r4 l1 l2 l3 l4 vs J, e = .returned (.tuple #[.pointer (some ⟨bq, 0, none⟩), .agg (rlV q1 q3 q4 e1 e3 e4 bT (scL d kl t) (scX d kl t) ((cpre (scX d kl s).toks (scX d kl t).toks : Nat) : Int) ((csuf (scX d kl s).toks (scX d kl t).toks : Nat) : Int) cnt), .int .i64 0]) ∧ Cnt (scL d kl s) (scL d kl t) (bl s) (bl t) st en be cnt ∧ NsI B w XF J d kl t bq bs o1 o2 o3 o4 r1 r2 r3 r4 l1 l2 l3 l4 vs q1 q3 q4 e1 e3 e4 bT bR w'
theorem csuf_self (l : List Tk) : csuf l l = 0 := by
  have h := cpre_self l
  have h2 : l.drop (cpre l l) = [] := by rw [h, List.drop_length]
  unfold csuf
  rw [h2]; rfl
end Go.Proofs.Ytemkppjdfjoipaa.I1.X
end
