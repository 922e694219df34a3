/- Texts of package regs, one behind the other. -/
import Derived.Test.YtemkppjdfjoipaaProg
import Derived.Test.YtemkppjdfjoipaaW31
import Derived.Deep.SlicePairs
import Derived.Deep.Slices
import Derived.Laws.IdiomArrays
import Derived.OpenShut
import Derived.WideBlind
import Derived.Great.BuildSlice
import Derived.WalkKit
import Derived.Maps.OwnSet
import Derived.Maps.OwnOps
import Derived.Maps.Own
import Derived.DeepKeys5
import Derived.BigFrame
import Derived.WalkMore
import Derived.ScopeJumps
import Derived.StillTailTactics
import Derived.Stop.BytesEq
import Derived.WalkLawsBesides
import Derived.WalkSpells
import Derived.Outline
import Derived.Lib.Walk
import Derived.Lib.Hide
import Derived.Lib.Slices
import Derived.Lib.Strings
import Derived.RegionTactic
import Derived.LoopTactic
import Derived.Below
import Derived.IntWalk
import Derived.Deep.QuietTactic
import Derived.BigQuiet
import Derived.Deep.MidRow
import Derived.Maps.AppendAt
import Derived.Laws.Rows
import Derived.Laws.Tables
import Derived.Deep.WholeRow
import Derived.Deep.Cut
import Derived.Deep.CutRange
import Derived.Lib.SliceRun
import Derived.Laws.MakeOwn
import Derived.Deep.RegionLaw
import Derived.Deep.RegionLawGrows
import Derived.Deep.RegionHeld3
import Derived.RegionCalls
import Derived.Deep.RegionWith
import Derived.Deep.Light
import Derived.Laws.CopyOwn
import Derived.Laws.ResultCell
section
/- Package relex. -/
namespace Go.Proofs.Ytemkppjdfjoipaa.I1.X
set_option linter.unusedSimpArgs false
set_option linter.unusedVariables false
set_option maxRecDepth 100000
open Go.RowKit
/- Lists that grow: the laws at the operation; a Lexed that is being made. -/
theorem run_append_fr0 {B : Nat} {w0 w : World} {own : Bool} {v : Value} {e : TypeId} {size n : Nat} {xs : List Value} {L : List It} (t ty : TypeId) (i : TypeInfo) (ht : Try.prog.underlying t = some (.slice e)) (hi : Try.prog.info? e = some i)
    (hf : Fr B w0 own v size n xs) (hs : Sep B w0 w (fr own v e size n xs :: L)) (q : Option Addr) (c : Nat) : (Builtin.append_ #[t, t] ty #[v, .slice q 0 c]).run Try.prog w = .ok v w := by
  obtain ⟨p, c0, rfl, hc, h0, _⟩ := hf.at_ hs
  cases p with
  | none =>
    have e0 : c0 = 0 := h0 rfl
    have e1 : n = 0 := by omega
    subst e0 e1
    exact run_append_none w t ty e i ht hi q c
  | some a => exact run_append_zero w t ty e i ht hi a n c0 q c hc
theorem step_append_fr {B : Nat} {w0 w : World} {own : Bool} {v : Value} {e : TypeId} {size n : Nat} {xs : List Value} {L : List It} {ops : Array Oper} {o : Oper} {a : Act} {K : Act → World → Prop} {Q : Exit → Act → World → Prop} {E : Prop}
    (hg : o.guard = none) (s x : Operand) (t : TypeId) (hop : o.op = Op.call { callee := Callee.builtin Builtin.append, args := #[s, x], argTypes := #[t, t] })
    (i : TypeInfo) (z : Value) (bytes : Nat) (ht : Try.prog.underlying t = some (.slice e)) (hi : Try.prog.info? e = some i) (hz : i.zero = some z) (hsize : i.size = size) (hby : i.bytes = bytes) (hzs : z.cells.size = size) (hsz : 0 < size)
    (hf : Fr B w0 own v size n xs) (hs : Sep B w0 w (fr own v e size n xs :: L)) (hv : a.eval s = v) (ad : Addr) (m c : Nat) (hm : 0 < m) (news : List Value) (hx : a.eval x = .slice (some ad) m c) (hl : news.length = m * size) (hnews : ∀ j u, news[j]? = some u → w.cell? (ad.add j) = some u) (h1 : ∀ u ∈ news, u.oneCell' = true) (h63 : n + m ≤ 1000000000) (hbb : bytes ≤ 1000)
    (h : ∀ v' w', Sep B w0 w' (.row v' e size (n + m) (xs ++ news) :: L) → Fr B w0 true v' size (n + m) (xs ++ news) → K (a.put o.dst v') w') :
    if Region.wanted o (yielded ops a.tmps) = true then Oper.wp Try.prog o a w K Q else E := by
  have hw : Region.wanted o (yielded ops a.tmps) = true := by simp [Region.wanted, hg]
  rw [if_pos hw]
  obtain ⟨v', w', hr, h2, h3⟩ := run_append_fr t o.type i z bytes ht hi hz hsize hby hzs hsz hf hs ad m c hm news hl hnews h1 h63 hbb
  unfold Oper.wp execOp
  simp only [hop, resolve, invoke, builtin, Sem.run_bind, Sem.run_pure, Result.andThen_ok, List.map_toArray, List.map_cons, List.map_nil, hv, hx, hr]
  exact h v' w' h2 h3
theorem wpList_append_fr {B : Nat} {w0 w : World} {own : Bool} {v : Value} {e : TypeId} {size n : Nat} {xs : List Value} {L : List It} {ops : Array Oper} {rest : List Oper} {o : Oper} {a : Act} {Q : Exit → Act → World → Prop}
    (hg : o.guard = none) (s x : Operand) (t : TypeId) (hop : o.op = Op.call { callee := Callee.builtin Builtin.append, args := #[s, x], argTypes := #[t, t] })
    (i : TypeInfo) (z : Value) (bytes : Nat) (ht : Try.prog.underlying t = some (.slice e)) (hi : Try.prog.info? e = some i) (hz : i.zero = some z) (hsize : i.size = size) (hby : i.bytes = bytes) (hzs : z.cells.size = size) (hsz : 0 < size)
    (hf : Fr B w0 own v size n xs) (hs : Sep B w0 w (fr own v e size n xs :: L)) (hv : a.eval s = v) (ad : Addr) (m c : Nat) (hm : 0 < m) (news : List Value) (hx : a.eval x = .slice (some ad) m c) (hl : news.length = m * size) (hnews : ∀ j u, news[j]? = some u → w.cell? (ad.add j) = some u) (h1 : ∀ u ∈ news, u.oneCell' = true) (h63 : n + m ≤ 1000000000) (hbb : bytes ≤ 1000)
    (h : ∀ v' w', Sep B w0 w' (.row v' e size (n + m) (xs ++ news) :: L) → Fr B w0 true v' size (n + m) (xs ++ news) → wpList Try.prog ops Q rest (a.put o.dst v') w') :
    wpList Try.prog ops Q (o :: rest) a w := by
  refine wpList_plain hg fun K hK => ?_
  obtain ⟨v', w', hr, h2, h3⟩ := run_append_fr t o.type i z bytes ht hi hz hsize hby hzs hsz hf hs ad m c hm news hl hnews h1 h63 hbb
  unfold Oper.wp execOp
  simp only [hop, resolve, invoke, builtin, Sem.run_bind, Sem.run_pure, Result.andThen_ok, List.map_toArray, List.map_cons, List.map_nil, hv, hx, hr]
  exact hK _ _ (h v' w' h2 h3)
theorem Fr.own {B : Nat} {w0 w : World} {v : Value} {e : TypeId} {size n : Nat} {xs : List Value} {L : List It} (hs : Sep B w0 w (.row v e size n xs :: L)) : Fr B w0 true v size n xs := ⟨hs.at.1, fun h => by cases h⟩
/-- Marks' columns: read where they lay, or rows of one's own among the items. -/
def MkS (B : Nat) (w0 : World) (L : List It) (vs : List Value) (ms : List Mk) : Prop := vs.length = ms.length ∧ ∀ i (h : i < vs.length) (h2 : i < ms.length), (∃ q f, vs[i] = .slice q ms[i].cols.length f ∧ IV (Lt B) w0 ms[i].cols (.slice q ms[i].cols.length f)) ∨ rI vs[i] ms[i].cols ∈ L
theorem MkS.sub {B : Nat} {w0 : World} {L L' : List It} {vs : List Value} {ms : List Mk} (h : MkS B w0 L vs ms) (hL : ∀ x ∈ L, x ∈ L') : MkS B w0 L' vs ms := ⟨h.1, fun i h1 h2 => (h.2 i h1 h2).imp id (hL _)⟩
theorem MkS.app {B : Nat} {w0 : World} {L : List It} {vs vs' : List Value} {ms ms' : List Mk} (h : MkS B w0 L vs ms) (h' : MkS B w0 L vs' ms') : MkS B w0 L (vs ++ vs') (ms ++ ms') := by
  refine ⟨by rw [List.length_append, List.length_append, h.1, h'.1], fun i h1 h2 => ?_⟩
  by_cases e : i < vs.length
  · rw [List.getElem_append_left e, List.getElem_append_left (by rw [← h.1]; exact e)]
    exact h.2 i e _
  · rw [List.getElem_append_right (by omega), List.getElem_append_right (by rw [← h.1]; omega)]
    have := h'.2 (i - vs.length) (by rw [List.length_append] at h1; omega) (by rw [List.length_append] at h2; have := h.1; omega)
    simpa only [h.1] using this
theorem MkS.one {B : Nat} {w0 : World} {L : List It} {v : Value} {m : Mk} (h : (∃ q f, v = .slice q m.cols.length f ∧ IV (Lt B) w0 m.cols (.slice q m.cols.length f)) ∨ rI v m.cols ∈ L) : MkS B w0 L [v] [m] := by
  refine ⟨rfl, fun i h1 h2 => ?_⟩
  have : i = 0 := by simp at h1; omega
  subst this; exact h
/-- What a mark's columns are, now. -/
theorem MkS.iv {B : Nat} {w0 w : World} {L : List It} {vs : List Value} {ms : List Mk} (h : MkS B w0 L vs ms) (hs : Sep B w0 w L) {i : Nat} (h1 : i < vs.length) (h2 : i < ms.length) : ∃ q f, vs[i] = .slice q ms[i].cols.length f ∧ IV (fun b => b < w.heap.size) w ms[i].cols (.slice q ms[i].cols.length f) := by
  rcases h.2 i h1 h2 with ⟨q, f, e, hiv⟩ | hm
  · exact ⟨q, f, e, hiv.mono (fun b hb => Nat.lt_of_lt_of_le hb hs.sz) (fun b hb _ => hs.bel.block b hb)⟩
  · have hr : It.lies B w (rI vs[i] ms[i].cols) := hs.li _ hm
    obtain ⟨q, f, e⟩ := row_form hr
    have h9 := own_iv hr
    rw [e] at h9
    exact ⟨q, f, e, h9.mono (fun b hb => hb.2.1) (fun b _ _ => rfl)⟩
/-- Marks in a row, as they are read. -/
theorem mv_of {B : Nat} {w0 w : World} {L : List It} {vs : List Value} {ms : List Mk} {p : Option Addr} {c : Nat} (h : MkS B w0 L vs ms) (hs : Sep B w0 w L) (hg : GV (fun b => b < w.heap.size) w (mkL vs ms) p) : MV (Lt w.heap.size) w ms (.slice p ms.length c) := by
  refine ⟨p, c, rfl, fun hn => ?_⟩
  have hl : (mkL vs ms).length = ms.length * 5 := mkL_len h.1
  have hpos := List.length_pos_iff.2 hn
  obtain ⟨b, o, hp, hb, hc⟩ := hg (by intro e; rw [e] at hl; simp at hl; omega)
  refine ⟨b, o, hp, hb, fun i hi => ?_⟩
  obtain ⟨q, f, e, hiv⟩ := h.iv hs (by rw [h.1]; exact hi) hi
  refine ⟨q, f, hiv, fun r v hv => ?_⟩
  have hr : r < 5 := by
    have := (Array.getElem?_eq_some_iff.1 hv).1
    simpa [mkA] using this
  have hm := mkL_get h.1 i hi r hr
  rw [e] at hm
  rw [Nat.add_assoc]
  exact hc _ _ (hm.trans hv)
theorem iv_of {D : Nat → Prop} {w : World} {l : List Int} {p : Option Addr} {c : Nat} (h : GV D w (zi l) p) : IV D w l (.slice p l.length c) := by
  refine ⟨p, c, rfl, fun hn => ?_⟩
  obtain ⟨b, o, hp, hb, hc⟩ := h (by intro e; have := congrArg List.length e; rw [zi_length] at this; exact hn (List.length_eq_zero_iff.1 this))
  exact ⟨b, o, hp, hb, fun i hi => hc i _ (by simp [zi, hi])⟩
theorem rw_of {D : Nat → Prop} {w : World} {l : List Rw} {p : Option Addr} {c : Nat} (h0 : p = none → c = 0) (h : GV D w (rwL l) p) : RW D w l (.slice p l.length c) := by
  have hne : l ≠ [] → rwL l ≠ [] := fun hn e => by
    have := congrArg List.length e
    rw [rwL_len] at this
    have h9 := List.length_pos_iff.2 hn
    simp at this; omega
  refine ⟨p, c, rfl, fun hp => ⟨h0 hp, ?_⟩, fun hn => ?_⟩
  · by_cases e : l = []
    · exact e
    · obtain ⟨b, o, hp2, _⟩ := h (hne e)
      rw [hp] at hp2; cases hp2
  · obtain ⟨b, o, hp, hb, hc⟩ := h (hne hn)
    exact ⟨b, o, hp, hb, hc⟩
theorem wv_of {D : Nat → Prop} {w : World} {l : List Tk} {p : Option Addr} {c : Nat} (h0 : p = none → c = 0) (h : GV D w (tkL l) p) : WV D w l (.slice p l.length c) := RW.wv (rw_of h0 h)
/-- A Lexed that is being made: four lists. -/
structure XS (B : Nat) (w0 : World) (o1 o2 o3 o4 : Bool) (v1 v2 v3 v4 : Value) (L : List P3) (vs : List Value) (ms : List Mk) (C : List Int) (T : List Tk) : Prop where
  f1 : Fr B w0 o1 v1 3 L.length (rwL (L.map tR))
  f2 : Fr B w0 o2 v2 5 ms.length (mkL vs ms)
  f3 : Fr B w0 o3 v3 1 C.length (zi C)
  f4 : Fr B w0 o4 v4 3 T.length (tkL T)
abbrev xI (o1 o2 o3 o4 : Bool) (v1 v2 v3 v4 : Value) (L : List P3) (vs : List Value) (ms : List Mk) (C : List Int) (T : List Tk) (X : List It) : List It :=
  fr o1 v1 38 3 L.length (rwL (L.map tR)) :: fr o2 v2 36 5 ms.length (mkL vs ms) :: fr o3 v3 3 1 C.length (zi C) :: fr o4 v4 40 3 T.length (tkL T) :: X
/-- It may be read. -/
theorem XS.lv {B : Nat} {w0 w : World} {o1 o2 o3 o4 : Bool} {v1 v2 v3 v4 : Value} {L : List P3} {vs : List Value} {ms : List Mk} {C : List Int} {T : List Tk} {X : List It} (h : XS B w0 o1 o2 o3 o4 v1 v2 v3 v4 L vs ms C T) (hk : MkS B w0 X vs ms) (hs : Sep B w0 w (xI o1 o2 o3 o4 v1 v2 v3 v4 L vs ms C T X)) :
    ∃ p1 p2 p3 p4 c1 c2 c3 c4, v1 = .slice p1 L.length c1 ∧ v2 = .slice p2 ms.length c2 ∧ v3 = .slice p3 C.length c3 ∧ v4 = .slice p4 T.length c4 ∧ LV w.heap.size w L ⟨ms, C, T⟩ p1 p2 p3 p4 c1 c2 c3 c4 := by
  obtain ⟨p1, c1, e1, l1, z1, g1⟩ := h.f1.at_ hs
  obtain ⟨p2, c2, e2, l2, z2, g2⟩ := h.f2.at_ hs.tl
  obtain ⟨p3, c3, e3, l3, z3, g3⟩ := h.f3.at_ hs.tl.tl
  obtain ⟨p4, c4, e4, l4, z4, g4⟩ := h.f4.at_ hs.tl.tl.tl
  have r := rw_of (c := c1) z1 g1
  rw [List.length_map] at r
  exact ⟨p1, p2, p3, p4, c1, c2, c3, c4, e1, e2, e3, e4, ⟨r, mv_of hk hs.tl.tl.tl.tl g2, iv_of g3, wv_of z4 g4, l1, l2, l3, l4⟩⟩
end Go.Proofs.Ytemkppjdfjoipaa.I1.X
end
section
/- Package relex. -/
namespace Go.Proofs.Ytemkppjdfjoipaa.I1.X
set_option linter.unusedSimpArgs false
set_option linter.unusedVariables false
set_option maxRecDepth 100000
open Go.RowKit
/- joined. -/
theorem mv_row2 {B : Nat} {w : World} {ms : List Mk} {p : Option Addr} {n c : Nat} (X : List It) (h : MV (Lt B) w ms (.slice p n c)) (hne : ms ≠ []) : ∃ b o vs, p = some ⟨b, o, none⟩ ∧ b < B ∧ MkS B w X vs ms ∧ (∀ v ∈ vs, ∃ q n f, v = .slice q n f) ∧ ∀ j u, (mkL vs ms)[j]? = some u → w.cell? ⟨b, o + j, none⟩ = some u := by
  obtain ⟨p', c', he, hh⟩ := h
  injection he with e1 e2 e3
  subst e1 e3
  obtain ⟨b, o, rfl, hb, hc⟩ := hh hne
  have hex : ∀ (k : Nat), k ≤ ms.length → ∃ vs : List Value, vs.length = k ∧ (∀ v ∈ vs, ∃ q n f, v = .slice q n f) ∧ (∀ i (h : i < ms.length) (h2 : i < vs.length), ∃ q f, vs[i] = .slice q ms[i].cols.length f ∧ IV (Lt B) w ms[i].cols (.slice q ms[i].cols.length f)) ∧ ∀ i (h : i < ms.length) (h2 : i < vs.length), ∀ r v, (mkA vs[i] ms[i])[r]? = some v → w.cell? ⟨b, o + i * 5 + r, none⟩ = some v := by
    intro k
    induction k with
    | zero => exact fun _ => ⟨[], rfl, by simp, fun i h h2 => by simp at h2, fun i h h2 => by simp at h2⟩
    | succ k ih =>
      intro hk
      obtain ⟨vs, hl, hv, hi, hr⟩ := ih (by omega)
      obtain ⟨q, f, h1, h2⟩ := hc k (by omega)
      refine ⟨vs ++ [.slice q ms[k].cols.length f], by simp [hl], fun v hv' => ?_, fun i h h3 => ?_, fun i h h3 r v hrv => ?_⟩
      · rcases List.mem_append.1 hv' with e | e
        · exact hv v e
        · exact ⟨_, _, _, List.mem_singleton.1 e⟩
      · by_cases e : i < k
        · rw [List.getElem_append_left (by omega)]
          exact hi i h (by omega)
        · have e2 : i = k := by simp [hl] at h3; omega
          subst e2
          rw [List.getElem_append_right (by omega)]
          simp only [hl, Nat.sub_self, List.getElem_cons_zero]
          exact ⟨q, f, rfl, h1⟩
      · by_cases e : i < k
        · rw [List.getElem_append_left (by omega)] at hrv
          exact hr i h (by omega) r v hrv
        · have e2 : i = k := by simp [hl] at h3; omega
          subst e2
          rw [List.getElem_append_right (by omega)] at hrv
          simp only [hl, Nat.sub_self, List.getElem_cons_zero] at hrv
          exact h2 r v hrv
  obtain ⟨vs, hl, hv, hi, hr⟩ := hex ms.length (Nat.le_refl _)
  refine ⟨b, o, vs, rfl, hb, ⟨hl, fun i h1 h2 => .inl (hi i h2 h1)⟩, hv, fun j u hu => ?_⟩
  have hj : j < ms.length * 5 := by have := (List.getElem?_eq_some_iff.1 hu).1; rwa [mkL_len hl] at this
  have hjd : j / 5 < ms.length := by omega
  have e : j = j / 5 * 5 + j % 5 := by omega
  rw [e, mkL_get hl (j / 5) hjd (j % 5) (by omega)] at hu
  have := hr (j / 5) hjd (by omega) (j % 5) u hu
  rw [e, ← Nat.add_assoc]; exact this
theorem MkS.drop {B : Nat} {w0 : World} {L : List It} {vs : List Value} {ms : List Mk} (h : MkS B w0 L vs ms) (k : Nat) : MkS B w0 L (vs.drop k) (ms.drop k) := by
  refine ⟨by rw [List.length_drop, List.length_drop, h.1], fun i h1 h2 => ?_⟩
  rw [List.getElem_drop, List.getElem_drop]
  exact h.2 (k + i) _ _
theorem mkL_drop : ∀ (k : Nat) (vs : List Value) (ms : List Mk), vs.length = ms.length → (mkL vs ms).drop (k * 5) = mkL (vs.drop k) (ms.drop k)
  | 0, vs, ms, _ => by simp
  | k + 1, [], [], _ => by simp [mkL]
  | k + 1, v :: vs, m :: ms, h => by
    have ih := mkL_drop k vs ms (by simpa using h)
    simp only [mkL, List.zipWith_cons_cons, List.flatMap_cons, mkA, List.drop_succ_cons] at ih ⊢
    rw [show (k + 1) * 5 = 5 + k * 5 by omega, ← List.drop_drop]
    simp only [List.cons_append, List.nil_append, List.drop_succ_cons, List.drop_zero]
    exact ih
theorem rwL_drop : ∀ (k : Nat) (l : List Rw), (rwL l).drop (k * 3) = rwL (l.drop k)
  | 0, l => by simp
  | k + 1, [] => by simp [rwL]
  | k + 1, r :: l => by
    have ih := rwL_drop k l
    simp only [rwL, List.flatMap_cons, rwC, List.drop_succ_cons] at ih ⊢
    rw [show (k + 1) * 3 = 3 + k * 3 by omega, ← List.drop_drop]
    simp only [List.cons_append, List.nil_append, List.drop_succ_cons, List.drop_zero]
    exact ih
theorem gv_drop {D : Nat → Prop} {w : World} {xs : List Value} {p : Option Addr} (h : GV D w xs p) {k : Nat} (hk : k < xs.length) : ∃ b o, p = some ⟨b, o, none⟩ ∧ D b ∧ ∀ j u, (xs.drop k)[j]? = some u → w.cell? ⟨b, o + k + j, none⟩ = some u := by
  obtain ⟨b, o, hp, hb, hc⟩ := h (by intro e; rw [e] at hk; simp at hk)
  refine ⟨b, o, hp, hb, fun j u hu => ?_⟩
  rw [List.getElem?_drop] at hu
  rw [Nat.add_assoc]; exact hc _ _ hu
def JnP (B : Nat) (w0 : World) (X : List It) (L : List P3) (vs : List Value) (ms : List Mk) (C : List Int) (T : List Tk) (Lo : List P3) (xo : Lx) (k told : Nat) (e : Ending) (w' : World) : Prop :=
  ∃ u1 u2 u3 u4 vsO, e = .returned (.agg #[u1, u2, u3, u4]) ∧ XS B w0 true true true true u1 u2 u3 u4 (L ++ Lo.drop k) (vs ++ vsO) (ms ++ xo.marks.drop (k + 1)) (C ++ (xo.counts.drop (k + 1)).map (fun c => c + ((T.length : Int) - (told : Int)))) (T ++ xo.toks.drop told) ∧ MkS B w0 X (vs ++ vsO) (ms ++ xo.marks.drop (k + 1)) ∧ Sep B w0 w' (xI true true true true u1 u2 u3 u4 (L ++ Lo.drop k) (vs ++ vsO) (ms ++ xo.marks.drop (k + 1)) (C ++ (xo.counts.drop (k + 1)).map (fun c => c + ((T.length : Int) - (told : Int)))) (T ++ xo.toks.drop told) X)
end Go.Proofs.Ytemkppjdfjoipaa.I1.X
end
