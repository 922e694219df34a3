/- Package indent. -/
import Derived.Test.YtemkppjdfjoipaaProg
import Derived.Test.YtemkppjdfjoipaaIm
import Derived.Great.BuildSlice
import Derived.WalkKit
import Derived.Maps.OwnSet
import Derived.Maps.OwnOps
import Derived.Maps.Own
import Derived.DeepKeys5
import Derived.BigFrame
import Derived.WalkMore
import Derived.ScopeJumps
import Derived.StillTailTactics
import Derived.Stop.BytesEq
import Derived.WalkLawsBesides
import Derived.WalkSpells
import Derived.Outline
import Derived.Lib.Walk
import Derived.Lib.Hide
import Derived.Lib.Slices
import Derived.Lib.Strings
import Derived.RegionTactic
import Derived.LoopTactic
import Derived.Below
import Derived.IntWalk
import Derived.Deep.QuietTactic
import Derived.BigQuiet
import Derived.Deep.MidRow
import Derived.Maps.AppendAt
import Derived.Laws.Rows
import Derived.Laws.Tables
import Derived.Deep.WholeRow
import Derived.Deep.Cut
import Derived.Deep.CutRange
import Derived.Lib.SliceRun
import Derived.Laws.MakeOwn
import Derived.Deep.RegionLaw
import Derived.Deep.RegionLawGrows
import Derived.Deep.RegionHeld3
import Derived.RegionCalls
import Derived.Deep.RegionWith
import Derived.Deep.Light
import Derived.Laws.CopyOwn
import Derived.Laws.ResultCell
namespace Go.Proofs.Ytemkppjdfjoipaa.I1
set_option linter.unusedSimpArgs false
set_option linter.unusedVariables false
set_option maxRecDepth 100000
open Go.RowKit
/- All: plain, and its lists. -/
structure Lx where
  marks : List Mk
  counts : List Int
  toks : List Tk
def runF (x : Lx) (m : Mk) (s : List Nat) : List Rw → Lx × Mk
  | [] => (x, m)
  | r :: l => runF ⟨x.marks ++ [(stepF m (s.take r.2.1.toNat) r.1 r.2.1).1], x.counts ++ [((x.toks ++ (stepF m (s.take r.2.1.toNat) r.1 r.2.1).2).length : Int)], x.toks ++ (stepF m (s.take r.2.1.toNat) r.1 r.2.1).2⟩ (stepF m (s.take r.2.1.toNat) r.1 r.2.1).1 (s.drop r.2.1.toNat) l
def allR (s : List Nat) (l : List Rw) : Lx × Mk := runF ⟨[m0], [0], []⟩ m0 s l
/-- Pieces, marks, counts, tokens; the error. -/
def allQ (s : ByteArray) (l : List Rw) : (List Rw × Lx) × Int :=
  if 65536 < s.size then (([], ⟨[], [], []⟩), 3)
  else if areP (s.size : Nat) l = false then (([], ⟨[], [], []⟩), 2)
  else ((l, ⟨(allR (bl s) l).1.marks, (allR (bl s) l).1.counts, (allR (bl s) l).1.toks ++ endF (allR (bl s) l).2⟩), 0)
theorem stepF_lead {m : Mk} {s : List Nat} {k n : Int} (h0 : 0 ≤ m.lead) (hn : 0 ≤ n) : (stepF m s k n).1.lead ≤ m.lead + n := by
  unfold stepF tokF
  split
  · simp only []; omega
  · split
    · simp only []; omega
    · split
      · split <;> simp only [] <;> omega
      · split <;> simp only [] <;> omega
theorem areP_pos {left : Int} {r : Rw} {l : List Rw} (h : areP left (r :: l) = true) : 1 ≤ r.2.1 ∧ r.2.1 ≤ left ∧ areP (left - r.2.1) l = true := by
  unfold areP at h
  split at h
  · cases h
  · rename_i h2
    exact ⟨by omega, by omega, h⟩
/-- Marks, in a row. -/
def mkL (vs : List Value) (ms : List Mk) : List Value := (List.zipWith mkA vs ms).flatMap Array.toList
def colsI (vs : List Value) (ms : List Mk) : List It := List.zipWith (fun v m => rI v m.cols) vs ms
abbrev rM (v : Value) (vs : List Value) (ms : List Mk) : It := .row v 36 5 ms.length (mkL vs ms)
theorem mkL_app {vs vs' : List Value} {ms ms' : List Mk} (h : vs.length = ms.length) : mkL (vs ++ vs') (ms ++ ms') = mkL vs ms ++ mkL vs' ms' := by
  unfold mkL; rw [List.zipWith_append h, List.flatMap_append]
theorem colsI_app {vs vs' : List Value} {ms ms' : List Mk} (h : vs.length = ms.length) : colsI (vs ++ vs') (ms ++ ms') = colsI vs ms ++ colsI vs' ms' := by
  unfold colsI; rw [List.zipWith_append h]
theorem mkL_len : ∀ {vs : List Value} {ms : List Mk}, vs.length = ms.length → (mkL vs ms).length = ms.length * 5
  | [], [], _ => rfl
  | v :: vs, m :: ms, h => by
    have := mkL_len (vs := vs) (ms := ms) (by simpa using h)
    unfold mkL at this ⊢
    rw [List.zipWith_cons_cons, List.flatMap_cons, List.length_append, this]
    simp [mkA]; omega
theorem info24z : (Try.prog.info? 36).map (fun i => (i.zero, i.size, i.bytes)) = some (some (.agg #[.slice none 0 0, .int .i64 0, .int .i64 0, .bool false, .int .i64 0]), 5, 56) := by kernel_rfl
theorem run_append_none {P : Program} (w : World) (t ty e : TypeId) (i : TypeInfo) (ht : P.underlying t = some (.slice e)) (hi : P.info? e = some i) (q : Option Addr) (c' : Nat) :
    Sem.run P (Builtin.append_ #[t, t] ty #[.slice none 0 0, .slice q 0 c']) w = .ok (.slice none 0 0) w := by
  cases q <;> simp [Builtin.append_, underlying, ht, hi, Go.sizeOf, Go.typeInfo, Builtin.firstCells, storeCells, go_sem]
section
variable {w w0 : World} {B : Nat} {L : List It} {ops : Array Oper} {rest : List Oper} {o : Oper} {a : Act} {Q : Exit → Act → World → Prop}
/-- The tokens of a list behind those of another one. -/
theorem wp_appTT {l news : List Tk} (v t : Value) (hgd : o.guard = none) (s x : Operand) (ho : o.op = .call { callee := .builtin .append, args := #[s, x], argTypes := #[26, 26] })
    (hs : a.eval s = v) (hx : a.eval x = t) (hS : Sep B w0 w (rT v l :: L)) (ht : w.ownsRow B 40 3 t news.length (tkL news))
    (hlen : l.length + news.length ≤ 1000000000000) (h : ∀ v' w', Sep B w0 w' (rT v' (l ++ news) :: L) → wpList Try.prog ops Q rest (a.put o.dst v') w') : wpList Try.prog ops Q (o :: rest) a w := by
  by_cases hn : news = []
  · subst hn
    obtain ⟨i1, hi1, hy0, hy1, hy2⟩ := info_parts info35
    obtain ⟨q, c, rfl⟩ := row_form ht
    have h1 := h v w (by rw [List.append_nil]; exact hS)
    have hat : w.ownsRow B 40 3 v l.length (tkL l) := hS.at
    have key : Sem.run Try.prog (Builtin.append_ #[26, 26] o.type #[v, .slice q 0 c]) w = .ok v w := by
      rcases hat.2 with ⟨e, _⟩ | ⟨g, cap, cur, e, _, _, hc, _⟩
      · rw [e]; exact run_append_none w 26 o.type 40 i1 Try.underlying26 hi1 q c
      · rw [e]; exact run_append_zero w 26 o.type 40 i1 Try.underlying26 hi1 _ _ _ q c hc
    refine wpList_plain hgd fun K hK => ?_
    unfold Oper.wp execOp
    simp only [ho, resolve, invoke, builtin, Sem.run_bind, Sem.run_pure, Result.andThen_ok, List.map_toArray, List.map_cons, List.map_nil, hs, hx, List.length_nil, key]
    exact hK _ _ h1
  · have hpos : 0 < news.length := List.length_pos_iff.2 hn
    obtain ⟨g, cap, rfl, hcap⟩ := row_own ht hpos
    exact wp_appT v hgd s x ho hs hS ⟨g, 0, none⟩ cap news hx (fun j u hu => ht.cells (g := g) rfl j u hu) hlen h
theorem wp_appM {vs : List Value} {ms : List Mk} (v : Value) (hvs : vs.length = ms.length) (hgd : o.guard = none) (s x : Operand) (ho : o.op = .call { callee := .builtin .append, args := #[s, x], argTypes := #[24, 24] })
    (hs : a.eval s = v) (hS : Sep B w0 w (rM v vs ms :: L)) (b : Nat) (p : Option Addr) (n c : Nat) (m : Mk) (hx : a.eval x = .slice (some ⟨b, 0, none⟩) 1 1) (hb : ∀ j, w.cell? ⟨b, j, none⟩ = (mkA (.slice p n c) m)[j]?)
    (hlen : ms.length ≤ 1000000000) (h : ∀ v' w', Sep B w0 w' (rM v' (vs ++ [.slice p n c]) (ms ++ [m]) :: L) → wpList Try.prog ops Q rest (a.put o.dst v') w') : wpList Try.prog ops Q (o :: rest) a w := by
  obtain ⟨i1, hi1, hy0, hy1, hy2⟩ := info_parts info24z
  have e1 : mkL [.slice p n c] [m] = (mkA (.slice p n c) m).toList := by simp [mkL]
  refine wpList_append_own_at w hgd s x 24 ho B 36 i1 _ 5 56 Try.underlying24 hi1 hy0 hy1 hy2 rfl (by decide) v ms.length (mkL vs ms) hs hS.at ⟨b, 0, none⟩ 1 1 (mkL [.slice p n c] [m]) hx (by rw [e1]; rfl) (news_of hb e1.symm) (fun u hu => ?_) (by unfold maxLen; omega) (by omega) hS.sz fun v' w' hown hg _ hat => h v' w' ?_
  · rw [e1] at hu
    simp only [mkA, List.mem_cons, List.mem_nil_iff, or_false] at hu
    rcases hu with rfl | rfl | rfl | rfl | rfl <;> rfl
  · have := hS.app hown hg hat
    rw [← mkL_app hvs] at this
    rw [rM, List.length_append]
    exact this
end
/-- What comes back of All. -/
def AllP (B : Nat) (w0 : World) (X : List It) (Q : (List Rw × Lx) × Int) (e : Ending) (w' : World) : Prop := ∃ v1 v2 v3 v4 vs, e = .returned (.tuple #[.agg #[v1, v2, v3, v4], .int .i64 Q.2]) ∧ vs.length = Q.1.2.marks.length ∧ Sep B w0 w' (rR v1 Q.1.1 :: rM v2 vs Q.1.2.marks :: rI v3 Q.1.2.counts :: rT v4 Q.1.2.toks :: (colsI vs Q.1.2.marks ++ X))
def zL : Array Value := #[.slice none 0 0, .slice none 0 0, .slice none 0 0, .slice none 0 0]
abbrev bxL (b : Nat) (cs : Array Value) : It := .box b (.cells cs 28 (0, 0))
theorem info46 : (Try.prog.info? 28).map (·.size) = some 4 := by kernel_rfl
theorem zero46 : ∀ w, (zeroValue 28).run Try.prog w = .ok (.agg #[.slice none 0 0, .slice none 0 0, .slice none 0 0, .slice none 0 0]) w := (zero_of_info (show (Try.prog.info? 28).map (fun i => (i.zero, i.size)) = some (some (.agg #[.slice none 0 0, .slice none 0 0, .slice none 0 0, .slice none 0 0]), 4) by kernel_rfl)).1
theorem zero26 : ∀ w, (zeroValue 38).run Try.prog w = .ok (.agg #[.int .i64 0, .int .i64 0, .int .i64 0]) w := (zero_of_info (show (Try.prog.info? 38).map (fun i => (i.zero, i.size)) = some (some (.agg #[.int .i64 0, .int .i64 0, .int .i64 0]), 3) by kernel_rfl)).1
theorem results_lt {fn : Func} {p u : Tmp} (h : fn.results = #[.cell p 28, .tmp u]) (tmps : Array Value) (w : World) (g : Nat) (cs : Array Value)
    (hp : tmps.getD p undef = .pointer (some ⟨g, 0, none⟩)) (hg : w.heap[g]? = some (.cells cs 28 (0, 0))) (hs : cs.size = 4) :
    (results fn tmps).run Try.prog w = .ok (.tuple #[.agg cs, tmps.getD u undef]) w := by
  have hl := run_loadVar_row (P := Try.prog) w g 28 28 _ (0, 0) _ hg Try.underlying28 rfl (by rw [info46, hs])
  rw [results_cell_tmp h, hp]
  simp [asAddr, hl, Result.andThen]
/-- What lies, seen from here. -/
theorem Sep.rebase {B : Nat} {w0 w : World} {L : List It} (h : Sep B w0 w L) : Sep B w w L := ⟨Below.refl _ _, h.sz, h.li, h.ap⟩
theorem Sep.onto {B : Nat} {w0 w w' : World} {L M : List It} (h : Sep B w0 w L) (h2 : Sep B w w' M) : Sep B w0 w' M := ⟨h.bel.trans h2.bel, h2.sz, h2.li, h2.ap⟩
end Go.Proofs.Ytemkppjdfjoipaa.I1
