/- Package indent. -/
import Derived.Test.YtemkppjdfjoipaaProg
import Derived.Test.YtemkppjdfjoipaaIn
import Derived.Great.BuildSlice
import Derived.WalkKit
import Derived.Maps.OwnSet
import Derived.Maps.OwnOps
import Derived.Maps.Own
import Derived.DeepKeys5
import Derived.BigFrame
import Derived.WalkMore
import Derived.ScopeJumps
import Derived.StillTailTactics
import Derived.Stop.BytesEq
import Derived.WalkLawsBesides
import Derived.WalkSpells
import Derived.Outline
import Derived.Lib.Walk
import Derived.Lib.Hide
import Derived.Lib.Slices
import Derived.Lib.Strings
import Derived.RegionTactic
import Derived.LoopTactic
import Derived.Below
import Derived.IntWalk
import Derived.Deep.QuietTactic
import Derived.BigQuiet
import Derived.Deep.MidRow
import Derived.Maps.AppendAt
import Derived.Laws.Rows
import Derived.Laws.Tables
import Derived.Deep.WholeRow
import Derived.Deep.Cut
import Derived.Deep.CutRange
import Derived.Lib.SliceRun
import Derived.Laws.MakeOwn
import Derived.Deep.RegionLaw
import Derived.Deep.RegionLawGrows
import Derived.Deep.RegionHeld3
import Derived.RegionCalls
import Derived.Deep.RegionWith
import Derived.Deep.Light
import Derived.Laws.CopyOwn
import Derived.Laws.ResultCell
namespace Go.Proofs.Ytemkppjdfjoipaa.I1
set_option linter.unusedSimpArgs false
set_option linter.unusedVariables false
set_option maxRecDepth 100000
open Go.RowKit
/- The first lists of All: made in whatever order. -/
def cnd (b : Bool) (L : List It) : List It := bif b then L else []
theorem cnd_t (L : List It) : cnd true L = L := rfl
theorem cnd_f (L : List It) : cnd false L = [] := rfl
theorem at_K {K : Act → World → Prop} {a : Act} {w : World} (R : World → Prop) (hR : R w) (h : ∀ y, R y → K a y) : K a w := h w hR
theorem bl_drop (s : ByteArray) (k : Nat) : bl (s.extract k s.size) = (bl s).drop k := by
  unfold bl
  rw [ByteArray.data_extract, Array.toList_extract, List.map_take, List.map_drop, List.take_of_length_le]
  simp
theorem bl_take (s : ByteArray) (k : Nat) : bl (s.extract 0 k) = (bl s).take k := by
  unfold bl
  rw [ByteArray.data_extract, Array.toList_extract]
  simp [List.map_take]
theorem wpK_appT {w w0 : World} {B : Nat} {L : List It} {o : Oper} {a : Act} {K : Act → World → Prop} {Q : Exit → Act → World → Prop} {l news : List Tk} (v t : Value) (s x : Operand) (ho : o.op = .call { callee := .builtin .append, args := #[s, x], argTypes := #[26, 26] })
    (hs : a.eval s = v) (hx : a.eval x = t) (hS : Sep B w0 w (rT v l :: L)) (ht : w.ownsRow B 40 3 t news.length (tkL news)) (hn : 0 < news.length)
    (hlen : l.length + news.length ≤ 1000000000000) (h : ∀ v' w', Sep B w0 w' (rT v' (l ++ news) :: L) → K (a.put o.dst v') w') : o.wp Try.prog a w K Q := by
  obtain ⟨i1, hi1, hy0, hy1, hy2⟩ := info_parts info35
  obtain ⟨g, cap, rfl, hcap⟩ := row_own ht hn
  obtain ⟨v', w', hr, hown, hg, _, hat⟩ := run_append_own_at (P := Try.prog) w B 26 o.type 40 i1 _ 3 24 Try.underlying26 hi1 hy0 hy1 hy2 rfl (by decide) v l.length (tkL l) hS.at ⟨g, 0, none⟩ news.length cap (tkL news) (tkL_len _) (fun j u hu => ht.cells (g := g) rfl j u hu) (fun u hu => by obtain ⟨t, _, ht⟩ := List.mem_flatMap.1 hu; exact tk_one t u ht) (by unfold maxLen; omega) (by omega) hS.sz
  have h1 := hS.app hown hg hat
  rw [← tkL_app, ← List.length_append] at h1
  unfold Oper.wp execOp
  simp only [ho, resolve, invoke, builtin, Sem.run_bind, Sem.run_pure, Result.andThen_ok, List.map_toArray, List.map_cons, List.map_nil, hs, hx, hr]
  exact h _ _ h1
theorem Sep.putRow {B b : Nat} {w0 w : World} {L : List It} {cs : Array Value} {t : TypeId} (h : Sep B w0 w (.box b (.cells cs t (0, 0)) :: L)) (cs' : Array Value) : Sep B w0 (w.setRow b cs') (.box b (.cells cs' t (0, 0)) :: L) :=
  h.put ⟨rfl, rfl, rfl, by simp, fun k hk hne => setRow_other w b k _ (fun e => hne (by rw [e]))⟩ (setRow_heap w b _ _ t (0, 0) h.at.2)
theorem Sep.to {B : Nat} {w0 w : World} {L : List It} (k : Nat) (h : Sep B w0 w L) (hk : k < L.length) : Sep B w0 w (L[k] :: L.eraseIdx k) := by
  refine h.perm ?_
  have e : L = L.take k ++ L[k] :: L.drop (k + 1) := by rw [List.getElem_cons_drop, List.take_append_drop]
  rw [List.eraseIdx_eq_take_drop_succ]
  conv => lhs; rw [e]
  exact List.perm_middle
def S6 (B : Nat) (w : World) (lst : List Rw) (V : Value) (m : Mk) (L0 : List It) (a1 a3 a4 a5 a6 a7 : Bool) (x1 x3 x4 x5 x6 : Value) (z : World) : Prop :=
  ∃ v1 v3 v4 b7, (a1 = true → x1 = v1) ∧ (a3 = true → x3 = v3) ∧ (a4 = true → x4 = v4) ∧ (a5 = true → x5 = .agg #[v1, v3, v4, .slice none 0 0]) ∧ (a6 = true → x6 = .pointer (some ⟨b7, 0, none⟩)) ∧
    Sep B w z (cnd a1 [rR v1 lst] ++ (cnd a3 [rM v3 [V] [m]] ++ (cnd a4 [rI v4 [0]] ++ (cnd a6 [bxL b7 (bif a7 then #[v1, v3, v4, .slice none 0 0] else zL)] ++ L0))))
section
variable {B : Nat} {w z z' : World} {lst : List Rw} {p : Option Addr} {n c : Nat} {m : Mk} {L0 : List It} {a1 a3 a4 a5 a6 a7 : Bool} {x1 x3 x4 x5 x6 : Value}
theorem S6.sep (h : S6 B w lst (.slice p n c) m L0 a1 a3 a4 a5 a6 a7 x1 x3 x4 x5 x6 z) : ∃ Y, Sep B w z (Y ++ L0) := by
  obtain ⟨v1, v3, v4, b7, _, _, _, _, _, h⟩ := h
  exact ⟨_, by rw [← List.append_assoc, ← List.append_assoc, ← List.append_assoc] at h; exact h⟩
theorem S6.start (h : Sep B w z L0) : S6 B w lst (.slice p n c) m L0 false false false false false false x1 x3 x4 x5 x6 z :=
  ⟨.slice none 0 0, .slice none 0 0, .slice none 0 0, 0, (fun h => nomatch h), (fun h => nomatch h), (fun h => nomatch h), (fun h => nomatch h), (fun h => nomatch h), h⟩
theorem S6.o1 (h : S6 B w lst (.slice p n c) m L0 a1 a3 a4 a5 a6 a7 x1 x3 x4 x5 x6 z) (h1 : a1 = false) (h5 : a5 = false) (h7 : a7 = false) {v : Value} (hb : Below z.heap.size z z') (hr : z'.ownsRow z.heap.size 38 3 v lst.length (rwL lst)) :
    S6 B w lst (.slice p n c) m L0 true a3 a4 a5 a6 a7 v x3 x4 x5 x6 z' := by
  subst h1 h5 h7
  obtain ⟨v1, v3, v4, b7, _, e3, e4, _, e6, h⟩ := h
  exact ⟨v, v3, v4, b7, fun _ => rfl, e3, e4, (fun h => by cases h), e6, h.add hb hr⟩
theorem S6.o3 (h : S6 B w lst (.slice p n c) m L0 a1 a3 a4 a5 a6 a7 x1 x3 x4 x5 x6 z) (h3 : a3 = false) (h5 : a5 = false) (h7 : a7 = false) :
    S6 B w lst (.slice p n c) m L0 a1 true a4 a5 a6 a7 x1 (.slice (some ⟨z.heap.size, 0, none⟩) 1 1) x4 x5 x6 (z.alloc (.cells (mkA (.slice p n c) m) 36)) := by
  subst h3 h5 h7
  obtain ⟨v1, v3, v4, b7, e1, _, e4, _, e6, h⟩ := h
  refine ⟨v1, _, v4, b7, e1, fun _ => rfl, e4, (fun h => by cases h), e6, ?_⟩
  have h2 := (h.alloc (.cells (mkA (.slice p n c) m) 36)).full (n := 1) (size := 5) rfl (by decide)
  have e : (mkA (.slice p n c) m).toList = mkL [.slice p n c] [m] := by simp [mkL]
  rw [e] at h2
  exact h2.perm List.perm_middle.symm
theorem S6.o4 (h : S6 B w lst (.slice p n c) m L0 a1 a3 a4 a5 a6 a7 x1 x3 x4 x5 x6 z) (h4 : a4 = false) (h5 : a5 = false) (h7 : a7 = false) :
    S6 B w lst (.slice p n c) m L0 a1 a3 true a5 a6 a7 x1 x3 (.slice (some ⟨z.heap.size, 0, none⟩) 1 1) x5 x6 (z.alloc (.cells #[.int .i64 0] 3)) := by
  subst h4 h5 h7
  obtain ⟨v1, v3, v4, b7, e1, e3, _, _, e6, h⟩ := h
  refine ⟨v1, v3, _, b7, e1, e3, fun _ => rfl, (fun h => by cases h), e6, ?_⟩
  have h2 := (h.alloc (.cells #[.int .i64 0] 3)).oneI
  refine h2.perm ?_
  rw [cnd_f, List.nil_append, cnd_t]
  rw [show ∀ (A C E : List It) (x : It), A ++ (C ++ ([x] ++ E)) = (A ++ C) ++ x :: E from fun A C E x => by simp]
  rw [← List.append_assoc]
  exact List.perm_middle.symm
theorem S6.o5 (h : S6 B w lst (.slice p n c) m L0 a1 a3 a4 a5 a6 a7 x1 x3 x4 x5 x6 z) (h1 : a1 = true) (h3 : a3 = true) (h4 : a4 = true) :
    S6 B w lst (.slice p n c) m L0 a1 a3 a4 true a6 a7 x1 x3 x4 (.agg #[x1, x3, x4, .slice none 0 0]) x6 z := by
  obtain ⟨v1, v3, v4, b7, e1, e3, e4, _, e6, h⟩ := h
  exact ⟨v1, v3, v4, b7, e1, e3, e4, fun _ => by rw [e1 h1, e3 h3, e4 h4], e6, h⟩
theorem S6.at5 (h : S6 B w lst (.slice p n c) m L0 a1 a3 a4 a5 a6 a7 x1 x3 x4 x5 x6 z) (h1 : a1 = true) (h3 : a3 = true) (h4 : a4 = true) :
    ∃ p1 n1 c1 p3 n3 c3 p4 n4 c4, x1 = .slice p1 n1 c1 ∧ x3 = .slice p3 n3 c3 ∧ x4 = .slice p4 n4 c4 := by
  subst h1 h3 h4
  obtain ⟨v1, v3, v4, b7, e1, e3, e4, e5, e6, h⟩ := h
  simp only [cnd_t, List.cons_append, List.nil_append] at h
  obtain ⟨p1, c1, r1⟩ := row_form (h.li (rR v1 lst) (by simp))
  obtain ⟨p3, c3, r3⟩ := row_form (h.li (rM v3 [.slice p n c] [m]) (by simp))
  obtain ⟨p4, c4, r4⟩ := row_form (h.li (rI v4 [0]) (by simp))
  exact ⟨p1, _, c1, p3, _, c3, p4, _, c4, (e1 rfl).trans r1, (e3 rfl).trans r3, (e4 rfl).trans r4⟩
theorem S6.o6 (h : S6 B w lst (.slice p n c) m L0 a1 a3 a4 a5 a6 a7 x1 x3 x4 x5 x6 z) (h6 : a6 = false) (h7 : a7 = false) :
    S6 B w lst (.slice p n c) m L0 a1 a3 a4 a5 true a7 x1 x3 x4 x5 (.pointer (some ⟨z.heap.size, 0, none⟩)) (z.alloc (.cells zL 28)) := by
  subst h6 h7
  obtain ⟨v1, v3, v4, b7, e1, e3, e4, e5, _, h⟩ := h
  refine ⟨v1, v3, v4, _, e1, e3, e4, e5, fun _ => rfl, ?_⟩
  refine (h.alloc (.cells zL 28)).perm ?_
  rw [cnd_f, List.nil_append, cnd_t]
  rw [show ∀ (A C F E : List It) (x : It), A ++ (C ++ (F ++ ([x] ++ E))) = (A ++ (C ++ F)) ++ x :: E from fun A C F E x => by simp]
  rw [show cnd a1 [rR v1 lst] ++ (cnd a3 [rM v3 [.slice p n c] [m]] ++ (cnd a4 [rI v4 [0]] ++ L0)) = (cnd a1 [rR v1 lst] ++ (cnd a3 [rM v3 [.slice p n c] [m]] ++ cnd a4 [rI v4 [0]])) ++ L0 by simp]
  exact List.perm_middle.symm
theorem S6.at7 (h : S6 B w lst (.slice p n c) m L0 a1 a3 a4 a5 a6 a7 x1 x3 x4 x5 x6 z) (h1 : a1 = true) (h3 : a3 = true) (h4 : a4 = true) (h5 : a5 = true) (h6 : a6 = true) (h7 : a7 = false) :
    ∃ b7 p1 n1 c1 p3 n3 c3 p4 n4 c4, x6 = .pointer (some ⟨b7, 0, none⟩) ∧ x5 = .agg #[.slice p1 n1 c1, .slice p3 n3 c3, .slice p4 n4 c4, .slice none 0 0] ∧ z.heap[b7]? = some (.cells zL 28 (0, 0)) ∧
      S6 B w lst (.slice p n c) m L0 a1 a3 a4 a5 a6 true x1 x3 x4 x5 x6 (z.setRow b7 #[.slice p1 n1 c1, .slice p3 n3 c3, .slice p4 n4 c4, .slice none 0 0]) := by
  subst h1 h3 h4 h5 h6 h7
  obtain ⟨v1, v3, v4, b7, e1, e3, e4, e5, e6, h⟩ := h
  simp only [cnd_t, cond_false, List.cons_append, List.nil_append] at h
  obtain ⟨p1, c1, r1⟩ := row_form (h.li (rR v1 lst) (by simp))
  obtain ⟨p3, c3, r3⟩ := row_form (h.li (rM v3 [.slice p n c] [m]) (by simp))
  obtain ⟨p4, c4, r4⟩ := row_form (h.li (rI v4 [0]) (by simp))
  have hb : z.heap[b7]? = some (.cells zL 28 (0, 0)) := (h.li (bxL b7 zL) (by simp)).2
  refine ⟨b7, p1, _, c1, p3, _, c3, p4, _, c4, e6 rfl, by rw [e5 rfl, r1, r3, r4], hb, v1, v3, v4, b7, e1, e3, e4, e5, e6, ?_⟩
  simp only [cnd_t, cond_true, List.cons_append, List.nil_append]
  rw [← r1, ← r3, ← r4]
  have h2 := (h.perm (List.perm_middle (l₁ := [_, _, _]))).put (o' := .cells #[v1, v3, v4, .slice none 0 0] 28) (w' := z.setRow b7 #[v1, v3, v4, .slice none 0 0]) ⟨rfl, rfl, rfl, by simp, fun k hk hne => setRow_other z b7 k _ (fun e => hne (by rw [e]))⟩ (setRow_heap z b7 _ _ 28 (0, 0) hb)
  exact h2.perm (List.perm_middle (l₁ := [_, _, _])).symm
theorem S6.fin (h : S6 B w lst (.slice p n c) m L0 a1 a3 a4 a5 a6 a7 x1 x3 x4 x5 x6 z) (h1 : a1 = true) (h3 : a3 = true) (h4 : a4 = true) (h6 : a6 = true) (h7 : a7 = true) :
    ∃ b7 p1 c1 p3 c3 p4 c4, x6 = .pointer (some ⟨b7, 0, none⟩) ∧ Sep B w z (bxL b7 #[.slice p1 lst.length c1, .slice p3 1 c3, .slice p4 1 c4, .slice none 0 0] :: rR (.slice p1 lst.length c1) lst :: rM (.slice p3 1 c3) [.slice p n c] [m] :: rI (.slice p4 1 c4) [0] :: L0) := by
  subst h1 h3 h4 h6 h7
  obtain ⟨v1, v3, v4, b7, e1, e3, e4, e5, e6, h⟩ := h
  simp only [cnd_t, cond_true, List.cons_append, List.nil_append] at h
  obtain ⟨p1, c1, rfl⟩ := row_form (h.li (rR v1 lst) (by simp))
  obtain ⟨p3, c3, rfl⟩ := row_form (h.li (rM v3 [.slice p n c] [m]) (by simp))
  obtain ⟨p4, c4, rfl⟩ := row_form (h.li (rI v4 [0]) (by simp))
  exact ⟨b7, p1, c1, p3, c3, p4, c4, e6 rfl, h.perm (List.perm_middle (l₁ := [_, _, _]))⟩
end
/- The last list of All. -/
def S16 (B : Nat) (w : World) (b7 : Nat) (u1 u2 u3 u4 : Value) (tk E : List Tk) (L0 : List It) (a3 a4 a6 : Bool) (x3 x4 : Value) (z : World) : Prop :=
  ∃ t2 v3, (a3 = true → x3 = t2) ∧ (a4 = true → x4 = v3) ∧
    Sep B w z ((bif a4 then rT v3 (tk ++ E) else rT u4 tk) :: (cnd a3 [rT t2 E] ++ (bxL b7 (bif a6 then #[u1, u2, u3, v3] else #[u1, u2, u3, u4]) :: L0)))
section
variable {B b7 : Nat} {w z z' : World} {u1 u2 u3 u4 : Value} {tk E : List Tk} {L0 : List It} {a3 a4 a6 : Bool} {x3 x4 : Value}
theorem S16.start (h : Sep B w z (rT u4 tk :: bxL b7 #[u1, u2, u3, u4] :: L0)) : S16 B w b7 u1 u2 u3 u4 tk E L0 false false false x3 x4 z :=
  ⟨.slice none 0 0, .slice none 0 0, (fun h => nomatch h), (fun h => nomatch h), h⟩
theorem S16.box (h : S16 B w b7 u1 u2 u3 u4 tk E L0 a3 a4 a6 x3 x4 z) (h6 : a6 = false) : z.heap[b7]? = some (.cells #[u1, u2, u3, u4] 28 (0, 0)) := by
  subst h6
  obtain ⟨t2, v3, _, _, h⟩ := h
  exact (h.li (bxL b7 #[u1, u2, u3, u4]) (by simp)).2
theorem S16.sub (h : S16 B w b7 u1 u2 u3 u4 tk E L0 a3 a4 a6 x3 x4 z) : Sep B w z L0 := by
  obtain ⟨t2, v3, _, _, h⟩ := h
  have h2 := h.tl
  refine h2.sub ?_
  cases a3
  · exact .cons _ (.refl _)
  · exact .cons _ (.cons _ (.refl _))
theorem S16.all (h : S16 B w b7 u1 u2 u3 u4 tk E L0 false false false x3 x4 z) : Sep B w z (rT u4 tk :: bxL b7 #[u1, u2, u3, u4] :: L0) := by
  obtain ⟨t2, v3, _, _, h⟩ := h
  exact h
theorem S16.o3 {t2 : Value} (hs : Sep B w z' (rT t2 E :: rT u4 tk :: bxL b7 #[u1, u2, u3, u4] :: L0)) (h4 : a4 = false) (h6 : a6 = false) : S16 B w b7 u1 u2 u3 u4 tk E L0 true a4 a6 t2 x4 z' := by
  subst h4 h6
  exact ⟨t2, .slice none 0 0, fun _ => rfl, (fun h => nomatch h), hs.swap⟩
theorem S16.at4 (h : S16 B w b7 u1 u2 u3 u4 tk E L0 a3 a4 a6 x3 x4 z) (h3 : a3 = true) (h4 : a4 = false) (h6 : a6 = false) : Sep B w z (rT u4 tk :: rT x3 E :: bxL b7 #[u1, u2, u3, u4] :: L0) := by
  subst h3 h4 h6
  obtain ⟨t2, v3, e3, _, h⟩ := h
  rw [e3 rfl]; exact h
theorem S16.o4 {v3 : Value} (hs : Sep B w z' (rT v3 (tk ++ E) :: rT x3 E :: bxL b7 #[u1, u2, u3, u4] :: L0)) (h3 : a3 = true) (h6 : a6 = false) : S16 B w b7 u1 u2 u3 u4 tk E L0 a3 true a6 x3 v3 z' := by
  subst h3 h6
  exact ⟨x3, v3, fun _ => rfl, fun _ => rfl, hs⟩
theorem S16.at6 (h : S16 B w b7 u1 u2 u3 u4 tk E L0 a3 a4 a6 x3 x4 z) (h3 : a3 = true) (h4 : a4 = true) (h6 : a6 = false) :
    ∃ p n c, x4 = .slice p n c ∧ z.cell? ⟨b7, 3, none⟩ = some u4 ∧ z.frozen? ⟨b7, 3, none⟩ = false ∧ S16 B w b7 u1 u2 u3 u4 tk E L0 a3 a4 true x3 x4 (z.setCell ⟨b7, 3, none⟩ x4) := by
  subst h3 h4 h6
  obtain ⟨t2, v3, e3, e4, h⟩ := h
  simp only [cnd_t, cond_true, cond_false, List.cons_append, List.nil_append] at h
  obtain ⟨p, c, r⟩ := row_form h.at
  refine ⟨p, _, c, (e4 rfl).trans r, h.tl.tl.boxAt 3, h.tl.tl.fz 3, t2, v3, e3, e4, ?_⟩
  rw [e4 rfl]
  exact h.setAt [_, _] 3 v3
theorem S16.fin (h : S16 B w b7 u1 u2 u3 u4 tk E L0 a3 a4 a6 x3 x4 z) (h3 : a3 = true) (h4 : a4 = true) (h6 : a6 = true) : ∃ p c, Sep B w z (rT (.slice p (tk ++ E).length c) (tk ++ E) :: bxL b7 #[u1, u2, u3, .slice p (tk ++ E).length c] :: L0) := by
  subst h3 h4 h6
  obtain ⟨t2, v3, e3, e4, h⟩ := h
  simp only [cnd_t, cond_true, List.cons_append, List.nil_append] at h
  obtain ⟨p, c, rfl⟩ := row_form h.at
  exact ⟨p, c, h.swap.tl⟩
end
end Go.Proofs.Ytemkppjdfjoipaa.I1
