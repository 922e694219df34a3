/- Texts of package regs, one behind the other. -/
import Derived.Test.YtemkppjdfjoipaaProg
import Derived.Test.YtemkppjdfjoipaaZa
import Derived.Test.YtemkppjdfjoipaaJb
import Derived.Test.YtemkppjdfjoipaaJd
import Derived.Deep.SlicePairs
import Derived.Deep.Slices
import Derived.Laws.IdiomArrays
import Derived.OpenShut
import Derived.WideBlind
import Derived.Great.BuildSlice
import Derived.WalkKit
import Derived.Maps.OwnSet
import Derived.Maps.OwnOps
import Derived.Maps.Own
import Derived.DeepKeys5
import Derived.BigFrame
import Derived.WalkMore
import Derived.ScopeJumps
import Derived.StillTailTactics
import Derived.Stop.BytesEq
import Derived.WalkLawsBesides
import Derived.WalkSpells
import Derived.Outline
import Derived.Lib.Walk
import Derived.Lib.Hide
import Derived.Lib.Slices
import Derived.Lib.Strings
import Derived.RegionTactic
import Derived.LoopTactic
import Derived.Below
import Derived.IntWalk
import Derived.Deep.QuietTactic
import Derived.BigQuiet
import Derived.Deep.MidRow
import Derived.Maps.AppendAt
import Derived.Laws.Rows
import Derived.Laws.Tables
import Derived.Deep.WholeRow
import Derived.Deep.Cut
import Derived.Deep.CutRange
import Derived.Lib.SliceRun
import Derived.Laws.MakeOwn
import Derived.Deep.RegionLaw
import Derived.Deep.RegionLawGrows
import Derived.Deep.RegionHeld3
import Derived.RegionCalls
import Derived.Deep.RegionWith
import Derived.Deep.Light
import Derived.Laws.CopyOwn
import Derived.Laws.ResultCell
section
/- Package relex. -/
namespace Go.Proofs.Ytemkppjdfjoipaa.I1.X
set_option linter.unusedSimpArgs false
set_option linter.unusedVariables false
set_option maxRecDepth 100000
open Go.RowKit
/- The first lists of the document's All: made in whatever order. -/
theorem ins1 {B : Nat} {w z : World} {x : It} {P Q : List It} (h : Sep B w z (x :: (P ++ Q))) : Sep B w z (P ++ ([x] ++ Q)) := h.perm List.perm_middle.symm
theorem ins2 {B : Nat} {w z : World} {x : It} {P P' Q : List It} (h : Sep B w z (x :: (P ++ (P' ++ Q)))) : Sep B w z (P ++ (P' ++ ([x] ++ Q))) := by
  rw [← List.append_assoc] at h ⊢
  exact ins1 h
theorem ins3 {B : Nat} {w z : World} {x : It} {P P' P2 Q : List It} (h : Sep B w z (x :: (P ++ (P' ++ (P2 ++ Q))))) : Sep B w z (P ++ (P' ++ (P2 ++ ([x] ++ Q)))) := by
  rw [← List.append_assoc] at h ⊢
  exact ins2 h
theorem ins4 {B : Nat} {w z : World} {x : It} {P P' P2 P3 Q : List It} (h : Sep B w z (x :: (P ++ (P' ++ (P2 ++ (P3 ++ Q)))))) : Sep B w z (P ++ (P' ++ (P2 ++ (P3 ++ ([x] ++ Q))))) := by
  rw [← List.append_assoc] at h ⊢
  exact ins3 h
def R9 (B : Nat) (w : World) (lst : List Rw) (m : Mk) (L0 : List It) (a0 a2 a4 a5 a6 a7 a8 a9 : Bool) (x0 x2 x4 x5 x6 x7 x8 : Value) (z : World) : Prop :=
  ∃ v1 v4 v5 v6 b9, (a0 = true → a2 = false → x0 = v1 ∧ ∃ b, v1 = .slice (some ⟨b, 0, none⟩) 0 0) ∧ (a2 = true → x2 = v1) ∧ (a4 = true → x4 = .agg (mkA v4 m)) ∧ (a5 = true → x5 = v5) ∧ (a6 = true → x6 = v6) ∧ (a7 = true → x7 = .agg #[v1, v5, v6, .slice none 0 0]) ∧ (a8 = true → x8 = .pointer (some ⟨b9, 0, none⟩)) ∧
    Sep B w z (cnd a0 [rR v1 (bif a2 then lst else [])] ++ (cnd a5 [rM v5 [v4] [m]] ++ (cnd a4 [rI v4 m.cols] ++ (cnd a6 [rI v6 [0]] ++ (cnd a8 [bxL b9 (bif a9 then #[v1, v5, v6, .slice none 0 0] else zL)] ++ L0)))))
section
variable {B : Nat} {w z z' : World} {lst : List Rw} {m : Mk} {L0 : List It} {a0 a2 a4 a5 a6 a7 a8 a9 : Bool} {x0 x2 x4 x5 x6 x7 x8 : Value}
theorem R9.sep (h : R9 B w lst m L0 a0 a2 a4 a5 a6 a7 a8 a9 x0 x2 x4 x5 x6 x7 x8 z) : ∃ Y, Sep B w z (Y ++ L0) := by
  obtain ⟨v1, v4, v5, v6, b9, _, _, _, _, _, _, _, h⟩ := h
  exact ⟨_, by rw [← List.append_assoc, ← List.append_assoc, ← List.append_assoc, ← List.append_assoc] at h; exact h⟩
theorem R9.start (h : Sep B w z L0) : R9 B w lst m L0 false false false false false false false false x0 x2 x4 x5 x6 x7 x8 z :=
  ⟨.slice none 0 0, .slice none 0 0, .slice none 0 0, .slice none 0 0, 0, (fun h => nomatch h), (fun h => nomatch h), (fun h => nomatch h), (fun h => nomatch h), (fun h => nomatch h), (fun h => nomatch h), (fun h => nomatch h), h⟩
theorem R9.o0 (h : R9 B w lst m L0 a0 a2 a4 a5 a6 a7 a8 a9 x0 x2 x4 x5 x6 x7 x8 z) (h0 : a0 = false) (h2 : a2 = false) (h7 : a7 = false) (h9 : a9 = false) :
    R9 B w lst m L0 true a2 a4 a5 a6 a7 a8 a9 (.slice (some ⟨z.heap.size, 0, none⟩) 0 0) x2 x4 x5 x6 x7 x8 (z.alloc (.cells #[] 38)) := by
  subst h0 h2 h7 h9
  obtain ⟨v1, v4, v5, v6, b9, _, _, e4, e5, e6, _, e8, h⟩ := h
  exact ⟨_, v4, v5, v6, b9, (fun _ _ => ⟨rfl, _, rfl⟩), (fun h => nomatch h), e4, e5, e6, (fun h => nomatch h), e8, Sep.empty (size := 3) (h.alloc (.cells #[] 38))⟩
theorem R9.at2 (h : R9 B w lst m L0 a0 a2 a4 a5 a6 a7 a8 a9 x0 x2 x4 x5 x6 x7 x8 z) (h0 : a0 = true) (h2 : a2 = false) (h7 : a7 = false) (h9 : a9 = false) :
    ∃ b Y, x0 = .slice (some ⟨b, 0, none⟩) 0 0 ∧ Sep B w z (rR x0 [] :: Y) ∧ ∀ v z', Sep B w z' (rR v lst :: Y) → R9 B w lst m L0 a0 true a4 a5 a6 a7 a8 a9 x0 v x4 x5 x6 x7 x8 z' := by
  subst h0 h2 h7 h9
  obtain ⟨v1, v4, v5, v6, b9, e0, _, e4, e5, e6, _, e8, h⟩ := h
  obtain ⟨e0, b, eb⟩ := e0 rfl rfl
  subst e0
  exact ⟨b, _, eb, h, fun v z' h' => ⟨v, v4, v5, v6, b9, (fun _ h => nomatch h), fun _ => rfl, e4, e5, e6, (fun h => nomatch h), e8, h'⟩⟩
theorem R9.o4 (h : R9 B w lst m L0 a0 a2 a4 a5 a6 a7 a8 a9 x0 x2 x4 x5 x6 x7 x8 z) (h4 : a4 = false) (h5 : a5 = false) (h7 : a7 = false) (h9 : a9 = false) :
    ∃ Y, Sep B w z (Y ++ L0) ∧ ∀ v z', Sep B w z' (rI v m.cols :: (Y ++ L0)) → R9 B w lst m L0 a0 a2 true a5 a6 a7 a8 a9 x0 x2 (.agg (mkA v m)) x5 x6 x7 x8 z' := by
  subst h4 h5 h7 h9
  obtain ⟨v1, v4, v5, v6, b9, e0, e2, _, _, e6, _, e8, h⟩ := h
  simp only [cnd_f, List.nil_append] at h
  refine ⟨cnd a0 [rR v1 (bif a2 then lst else [])] ++ (cnd a6 [rI v6 [0]] ++ cnd a8 [bxL b9 zL]), by simpa using h, fun v z' h' => ⟨v1, v, v5, v6, b9, e0, e2, fun _ => rfl, (fun h => nomatch h), e6, (fun h => nomatch h), e8, ?_⟩⟩
  rw [List.append_assoc, List.append_assoc] at h'
  exact ins2 (P' := []) h'
theorem R9.at5 (h : R9 B w lst m L0 a0 a2 a4 a5 a6 a7 a8 a9 x0 x2 x4 x5 x6 x7 x8 z) (h4 : a4 = true) (h5 : a5 = false) (h7 : a7 = false) (h9 : a9 = false) :
    ∃ p c, x4 = .agg (mkA (.slice p m.cols.length c) m) ∧ R9 B w lst m L0 a0 a2 a4 true a6 a7 a8 a9 x0 x2 x4 (.slice (some ⟨z.heap.size, 0, none⟩) 1 1) x6 x7 x8 (z.alloc (.cells (mkA (.slice p m.cols.length c) m) 36)) := by
  subst h4 h5 h7 h9
  obtain ⟨v1, v4, v5, v6, b9, e0, e2, e4, _, e6, _, e8, h⟩ := h
  have e4' := e4 rfl
  simp only [cnd_t, cnd_f, List.nil_append] at h
  obtain ⟨p, c, rfl⟩ := row_form (h.li (rI v4 m.cols) (by simp))
  refine ⟨p, c, e4', v1, _, _, v6, b9, e0, e2, fun _ => e4', (fun _ => rfl), e6, (fun h => nomatch h), e8, ?_⟩
  have h2 := (h.alloc (.cells (mkA (.slice p m.cols.length c) m) 36)).full (n := 1) (size := 5) rfl (by decide)
  have e : (mkA (.slice p m.cols.length c) m).toList = mkL [.slice p m.cols.length c] [m] := by simp [mkL]
  rw [e] at h2
  exact ins1 h2
theorem R9.o6 (h : R9 B w lst m L0 a0 a2 a4 a5 a6 a7 a8 a9 x0 x2 x4 x5 x6 x7 x8 z) (h6 : a6 = false) (h7 : a7 = false) (h9 : a9 = false) :
    R9 B w lst m L0 a0 a2 a4 a5 true a7 a8 a9 x0 x2 x4 x5 (.slice (some ⟨z.heap.size, 0, none⟩) 1 1) x7 x8 (z.alloc (.cells #[.int .i64 0] 3)) := by
  subst h6 h7 h9
  obtain ⟨v1, v4, v5, v6, b9, e0, e2, e4, e5, _, _, e8, h⟩ := h
  refine ⟨v1, v4, v5, _, b9, e0, e2, e4, e5, fun _ => rfl, (fun h => nomatch h), e8, ?_⟩
  have h2 := (h.alloc (.cells #[.int .i64 0] 3)).oneI
  exact ins3 h2
theorem R9.at7 (h : R9 B w lst m L0 a0 a2 a4 a5 a6 a7 a8 a9 x0 x2 x4 x5 x6 x7 x8 z) (h0 : a0 = true) (h2 : a2 = true) (h4 : a4 = true) (h5 : a5 = true) (h6 : a6 = true) :
    ∃ p1 n1 c1 p3 n3 c3 p4 n4 c4, x2 = .slice p1 n1 c1 ∧ x5 = .slice p3 n3 c3 ∧ x6 = .slice p4 n4 c4 ∧ R9 B w lst m L0 a0 a2 a4 a5 a6 true a8 a9 x0 x2 x4 x5 x6 (.agg #[x2, x5, x6, .slice none 0 0]) x8 z := by
  subst h0 h2 h4 h5 h6
  obtain ⟨v1, v4, v5, v6, b9, e0, e2, e4, e5, e6, _, e8, h⟩ := h
  have k2 := e2 rfl
  have k5 := e5 rfl
  have k6 := e6 rfl
  subst k2 k5 k6
  have h' := h
  simp only [cnd_t, cond_true, List.cons_append, List.nil_append] at h'
  obtain ⟨p1, c1, r1⟩ := row_form (h'.li (rR x2 lst) (by simp))
  obtain ⟨p3, c3, r3⟩ := row_form (h'.li (rM x5 [v4] [m]) (by simp))
  obtain ⟨p4, c4, r4⟩ := row_form (h'.li (rI x6 [0]) (by simp))
  exact ⟨p1, _, c1, p3, _, c3, p4, _, c4, r1, r3, r4, x2, v4, x5, x6, b9, e0, e2, e4, e5, e6, fun _ => rfl, e8, h⟩
theorem R9.o8 (h : R9 B w lst m L0 a0 a2 a4 a5 a6 a7 a8 a9 x0 x2 x4 x5 x6 x7 x8 z) (h8 : a8 = false) (h9 : a9 = false) :
    R9 B w lst m L0 a0 a2 a4 a5 a6 a7 true a9 x0 x2 x4 x5 x6 x7 (.pointer (some ⟨z.heap.size, 0, none⟩)) (z.alloc (.cells zL 28)) := by
  subst h8 h9
  obtain ⟨v1, v4, v5, v6, b9, e0, e2, e4, e5, e6, e7, _, h⟩ := h
  refine ⟨v1, v4, v5, v6, _, e0, e2, e4, e5, e6, e7, fun _ => rfl, ?_⟩
  exact ins4 (h.alloc (.cells zL 28))
theorem R9.at9 (h : R9 B w lst m L0 a0 a2 a4 a5 a6 a7 a8 a9 x0 x2 x4 x5 x6 x7 x8 z) (h0 : a0 = true) (h2 : a2 = true) (h4 : a4 = true) (h5 : a5 = true) (h6 : a6 = true) (h7 : a7 = true) (h8 : a8 = true) (h9 : a9 = false) :
    ∃ b9 p1 n1 c1 p3 n3 c3 p4 n4 c4, x8 = .pointer (some ⟨b9, 0, none⟩) ∧ x7 = .agg #[.slice p1 n1 c1, .slice p3 n3 c3, .slice p4 n4 c4, .slice none 0 0] ∧ z.heap[b9]? = some (.cells zL 28 (0, 0)) ∧
      R9 B w lst m L0 a0 a2 a4 a5 a6 a7 a8 true x0 x2 x4 x5 x6 x7 x8 (z.setRow b9 #[.slice p1 n1 c1, .slice p3 n3 c3, .slice p4 n4 c4, .slice none 0 0]) := by
  subst h0 h2 h4 h5 h6 h7 h8 h9
  obtain ⟨v1, v4, v5, v6, b9, e0, e2, e4, e5, e6, e7, e8, h⟩ := h
  simp only [cnd_t, cond_true, cond_false, List.cons_append, List.nil_append] at h
  obtain ⟨p1, c1, r1⟩ := row_form (h.li (rR v1 lst) (by simp))
  obtain ⟨p3, c3, r3⟩ := row_form (h.li (rM v5 [v4] [m]) (by simp))
  obtain ⟨p4, c4, r4⟩ := row_form (h.li (rI v6 [0]) (by simp))
  have hb : z.heap[b9]? = some (.cells zL 28 (0, 0)) := (h.li (bxL b9 zL) (by simp)).2
  refine ⟨b9, p1, _, c1, p3, _, c3, p4, _, c4, e8 rfl, by rw [e7 rfl, r1, r3, r4], hb, v1, v4, v5, v6, b9, e0, e2, e4, e5, e6, e7, e8, ?_⟩
  simp only [cnd_t, cond_true, List.cons_append, List.nil_append]
  rw [← r1, ← r3, ← r4]
  have h2 := (h.perm (List.perm_middle (l₁ := [_, _, _, _]))).put (o' := .cells #[v1, v5, v6, .slice none 0 0] 28) (w' := z.setRow b9 #[v1, v5, v6, .slice none 0 0]) ⟨rfl, rfl, rfl, by simp, fun k hk hne => setRow_other z b9 k _ (fun e => hne (by rw [e]))⟩ (setRow_heap z b9 _ _ 28 (0, 0) hb)
  exact h2.perm (List.perm_middle (l₁ := [_, _, _, _])).symm
theorem R9.fin (h : R9 B w lst m L0 a0 a2 a4 a5 a6 a7 a8 a9 x0 x2 x4 x5 x6 x7 x8 z) (h0 : a0 = true) (h2 : a2 = true) (h4 : a4 = true) (h5 : a5 = true) (h6 : a6 = true) (h8 : a8 = true) (h9 : a9 = true) :
    ∃ b9 p1 c1 p3 c3 p4 c4 p5 c5, x8 = .pointer (some ⟨b9, 0, none⟩) ∧ Sep B w z (bxL b9 #[.slice p1 lst.length c1, .slice p3 1 c3, .slice p4 1 c4, .slice none 0 0] :: rR (.slice p1 lst.length c1) lst :: rM (.slice p3 1 c3) [.slice p5 m.cols.length c5] [m] :: rI (.slice p5 m.cols.length c5) m.cols :: rI (.slice p4 1 c4) [0] :: L0) := by
  subst h0 h2 h4 h5 h6 h8 h9
  obtain ⟨v1, v4, v5, v6, b9, e0, e2, e4, e5, e6, e7, e8, h⟩ := h
  simp only [cnd_t, cond_true, List.cons_append, List.nil_append] at h
  obtain ⟨p1, c1, rfl⟩ := row_form (h.li (rR v1 lst) (by simp))
  obtain ⟨p3, c3, rfl⟩ := row_form (h.li (rM v5 [v4] [m]) (by simp))
  obtain ⟨p4, c4, rfl⟩ := row_form (h.li (rI v6 [0]) (by simp))
  obtain ⟨p5, c5, rfl⟩ := row_form (h.li (rI v4 m.cols) (by simp))
  exact ⟨b9, p1, c1, p3, c3, p4, c4, p5, c5, e8 rfl, h.perm (List.perm_middle (l₁ := [_, _, _, _]))⟩
end
/-- Pieces put behind an empty list. -/
theorem wpK_appR {w w0 : World} {B : Nat} {D : Nat → Prop} {L : List It} {o : Oper} {a : Act} {K : Act → World → Prop} {Q : Exit → Act → World → Prop} {lst : List Rw} {b : Nat} {p : Option Addr} {c : Nat} (s x : Operand) (ho : o.op = .call { callee := .builtin .append, args := #[s, x], argTypes := #[22, 22] })
    (hs : a.eval s = .slice (some ⟨b, 0, none⟩) 0 0) (hx : a.eval x = .slice p lst.length c) (hS : Sep B w0 w (rR (.slice (some ⟨b, 0, none⟩) 0 0) [] :: L)) (hrw : RW D w lst (.slice p lst.length c))
    (hlen : lst.length ≤ 1000000000) (h : ∀ v' w', Sep B w0 w' (rR v' lst :: L) → K (a.put o.dst v') w') : o.wp Try.prog a w K Q := by
  obtain ⟨i1, hi1, hy0, hy1, hy2⟩ := info_parts info26z
  obtain ⟨p', c', he, -, hh⟩ := hrw
  injection he with e1 e2 e3
  subst e1 e3
  by_cases hn : lst = []
  · subst hn
    have key : Sem.run Try.prog (Builtin.append_ #[22, 22] o.type #[.slice (some ⟨b, 0, none⟩) 0 0, .slice p 0 c]) w = .ok (.slice (some ⟨b, 0, none⟩) 0 0) w := run_append_zero w 22 o.type 38 i1 Try.underlying22 hi1 _ _ _ p c (Nat.le_refl _)
    unfold Oper.wp execOp
    simp only [ho, resolve, invoke, builtin, Sem.run_bind, Sem.run_pure, Result.andThen_ok, List.map_toArray, List.map_cons, List.map_nil, hs, hx, List.length_nil, key]
    exact h _ _ hS
  · obtain ⟨b2, o2, rfl, hD, hc⟩ := hh hn
    obtain ⟨v', w', hr, hown, hg, _, hat⟩ := run_append_own_at (P := Try.prog) w B 22 o.type 38 i1 _ 3 24 Try.underlying22 hi1 hy0 hy1 hy2 rfl (by decide) _ 0 [] hS.at ⟨b2, o2, none⟩ lst.length c (rwL lst) (rwL_len _) (fun j u hu => by rw [Addr.add_mid]; exact hc j u hu) (rwL_one lst) (by unfold maxLen; omega) (by omega) hS.sz
    have h1 := hS.app hown hg hat
    rw [List.nil_append, Nat.zero_add] at h1
    unfold Oper.wp execOp
    simp only [ho, resolve, invoke, builtin, Sem.run_bind, Sem.run_pure, Result.andThen_ok, List.map_toArray, List.map_cons, List.map_nil, hs, hx, hr]
    exact h _ _ h1
end Go.Proofs.Ytemkppjdfjoipaa.I1.X
end
section
/- Package relex. -/
namespace Go.Proofs.Ytemkppjdfjoipaa.I1.X
set_option linter.unusedSimpArgs false
set_option linter.unusedVariables false
set_option maxRecDepth 100000
open Go.RowKit
/- Appends as operations; what a mark leads «to». -/
theorem wpK_appM {w w0 : World} {B : Nat} {L : List It} {o : Oper} {a : Act} {K : Act → World → Prop} {Q : Exit → Act → World → Prop} {vs : List Value} {ms : List Mk} (v : Value) (hvs : vs.length = ms.length) (s x : Operand) (ho : o.op = .call { callee := .builtin .append, args := #[s, x], argTypes := #[24, 24] })
    (hs : a.eval s = v) (b : Nat) (hx : a.eval x = .slice (some ⟨b, 0, none⟩) 1 1) (hS : Sep B w0 w (rM v vs ms :: L)) (p : Option Addr) (n c : Nat) (m : Mk) (hb : ∀ j, w.cell? ⟨b, j, none⟩ = (mkA (.slice p n c) m)[j]?)
    (hlen : ms.length ≤ 1000000000) (h : ∀ v' w', Sep B w0 w' (rM v' (vs ++ [.slice p n c]) (ms ++ [m]) :: L) → K (a.put o.dst v') w') : o.wp Try.prog a w K Q := by
  obtain ⟨i1, hi1, hy0, hy1, hy2⟩ := info_parts info24z
  have e1 : mkL [.slice p n c] [m] = (mkA (.slice p n c) m).toList := by simp [mkL]
  obtain ⟨v', w', hr, hown, hg, _, hat⟩ := run_append_own_at (P := Try.prog) w B 24 o.type 36 i1 _ 5 56 Try.underlying24 hi1 hy0 hy1 hy2 rfl (by decide) v ms.length (mkL vs ms) hS.at ⟨b, 0, none⟩ 1 1 (mkL [.slice p n c] [m]) (by rw [e1]; rfl) (news_of hb e1.symm) (fun u hu => by
    rw [e1] at hu
    simp only [mkA, List.mem_cons, List.mem_nil_iff, or_false] at hu
    rcases hu with rfl | rfl | rfl | rfl | rfl <;> rfl) (by unfold maxLen; omega) (by omega) hS.sz
  have h1 := hS.app hown hg hat
  rw [← mkL_app hvs] at h1
  unfold Oper.wp execOp
  simp only [ho, resolve, invoke, builtin, Sem.run_bind, Sem.run_pure, Result.andThen_ok, List.map_toArray, List.map_cons, List.map_nil, hs, hx, hr]
  refine h _ _ ?_
  rw [rM, List.length_append]
  exact h1
theorem bl_ext (s : ByteArray) (a k : Nat) : bl (s.extract a (a + k)) = ((bl s).drop a).take k := by
  unfold bl
  rw [ByteArray.data_extract, Array.toList_extract, List.map_take, List.map_drop, show a + k - a = k by omega]
theorem stQ_in {m : Mk} {s : ByteArray} {k n : Int} (hm : May m) (hmd : Made m (bl s) n) : stQ m s k n = stepF m (bl s) k n := by
  unfold stQ; rw [if_pos ⟨may_mayB hm, madeB_iff.2 hmd⟩]
theorem endQ_in {m : Mk} (hm : May m) : endQ m = endF m := by unfold endQ; rw [if_pos (may_mayB hm)]
end Go.Proofs.Ytemkppjdfjoipaa.I1.X
end
