/- Texts of package regs, one behind the other. -/
import Derived.Test.YtemkppjdfjoipaaProg
import Derived.Test.YtemkppjdfjoipaaW25
import Derived.Deep.SlicePairs
import Derived.Deep.Slices
import Derived.Laws.IdiomArrays
import Derived.OpenShut
import Derived.WideBlind
import Derived.Great.BuildSlice
import Derived.WalkKit
import Derived.Maps.OwnSet
import Derived.Maps.OwnOps
import Derived.Maps.Own
import Derived.DeepKeys5
import Derived.BigFrame
import Derived.WalkMore
import Derived.ScopeJumps
import Derived.StillTailTactics
import Derived.Stop.BytesEq
import Derived.WalkLawsBesides
import Derived.WalkSpells
import Derived.Outline
import Derived.Lib.Walk
import Derived.Lib.Hide
import Derived.Lib.Slices
import Derived.Lib.Strings
import Derived.RegionTactic
import Derived.LoopTactic
import Derived.Below
import Derived.IntWalk
import Derived.Deep.QuietTactic
import Derived.BigQuiet
import Derived.Deep.MidRow
import Derived.Maps.AppendAt
import Derived.Laws.Rows
import Derived.Laws.Tables
import Derived.Deep.WholeRow
import Derived.Deep.Cut
import Derived.Deep.CutRange
import Derived.Lib.SliceRun
import Derived.Laws.MakeOwn
import Derived.Deep.RegionLaw
import Derived.Deep.RegionLawGrows
import Derived.Deep.RegionHeld3
import Derived.RegionCalls
import Derived.Deep.RegionWith
import Derived.Deep.Light
import Derived.Laws.CopyOwn
import Derived.Laws.ResultCell
import Derived.Test.YtemkppjdfjoipaaW9
section
/- Package relex. -/
namespace Go.Proofs.Ytemkppjdfjoipaa.I1.X
set_option linter.unusedSimpArgs false
set_option linter.unusedVariables false
set_option maxRecDepth 100000
open Go.RowKit
/- copiedMarks: plain and its lists. -/
def clen : List Mk → Nat
  | [] => 0
  | m :: r => m.cols.length + clen r
def vsR (bR off : Nat) : List Mk → List Value
  | [] => []
  | m :: r => .slice (some ⟨bR, off, none⟩) m.cols.length m.cols.length :: vsR bR (off + m.cols.length) r
def zcols : List Mk → List Int
  | [] => []
  | m :: r => m.cols ++ zcols r
theorem clen_app : ∀ (a b : List Mk), clen (a ++ b) = clen a + clen b
  | [], b => by simp [clen]
  | m :: a, b => by rw [List.cons_append, clen, clen, clen_app a b]; omega
theorem zcols_app : ∀ (a b : List Mk), zcols (a ++ b) = zcols a ++ zcols b
  | [], b => by simp [zcols]
  | m :: a, b => by rw [List.cons_append, zcols, zcols, zcols_app a b, List.append_assoc]
theorem zcols_len : ∀ (a : List Mk), (zcols a).length = clen a
  | [] => rfl
  | m :: a => by rw [zcols, clen, List.length_append, zcols_len a]
theorem vsR_app (bR : Nat) : ∀ (a b : List Mk) (off : Nat), vsR bR off (a ++ b) = vsR bR off a ++ vsR bR (off + clen a) b
  | [], b, off => by simp [vsR, clen]
  | m :: a, b, off => by rw [List.cons_append, vsR, vsR, clen, vsR_app bR a b, List.cons_append, Nat.add_assoc]
theorem vsR_len (bR : Nat) : ∀ (a : List Mk) (off : Nat), (vsR bR off a).length = a.length
  | [], _ => rfl
  | m :: a, off => by rw [vsR, List.length_cons, List.length_cons, vsR_len bR a]
theorem snocL {α : Type} (l : List α) {j : Nat} (h : j < l.length) : l.take (j + 1) = l.take j ++ [l[j]] := by
  rw [List.take_add_one, List.getElem?_eq_getElem h]; rfl
theorem clen_take (ms : List Mk) {j : Nat} (h : j < ms.length) : clen (ms.take (j + 1)) = clen (ms.take j) + ms[j].cols.length := by
  rw [snocL ms h, clen_app]; simp [clen]
theorem clen_le (ms : List Mk) (j : Nat) : clen (ms.take j) ≤ clen ms := by
  have := clen_app (ms.take j) (ms.drop j)
  rw [List.take_append_drop] at this; omega
theorem mkL_get : ∀ {vs : List Value} {ms : List Mk} (h : vs.length = ms.length) (i : Nat) (hi : i < ms.length) (r : Nat) (hr : r < 5), (mkL vs ms)[i * 5 + r]? = (mkA (vs[i]'(by omega)) ms[i])[r]?
  | [], [], _, i, hi, _, _ => by simp at hi
  | v :: vs, m :: ms, h, 0, _, r, hr => by
    have e : mkL (v :: vs) (m :: ms) = (mkA v m).toList ++ mkL vs ms := rfl
    rw [e, Nat.zero_mul, Nat.zero_add, List.getElem?_append_left (by simp [mkA]; exact hr)]
    simp
  | v :: vs, m :: ms, h, i + 1, hi, r, hr => by
    have e : mkL (v :: vs) (m :: ms) = (mkA v m).toList ++ mkL vs ms := rfl
    have l5 : (mkA v m).toList.length = 5 := rfl
    rw [e, List.getElem?_append_right (by rw [l5]; omega), l5, show (i + 1) * 5 + r - 5 = i * 5 + r by omega, mkL_get (vs := vs) (ms := ms) (by simpa using h) i (by simpa using hi) r hr]
    rfl
/-- A mark's cells. -/
theorem mv_get {D : Nat → Prop} {w : World} {ms : List Mk} {p : Option Addr} {n c : Nat} (h : MV D w ms (.slice p n c)) {i : Nat} (hi : i < ms.length) : n = ms.length ∧ ∃ b o q f, p = some ⟨b, o, none⟩ ∧ D b ∧ IV D w ms[i].cols (.slice q ms[i].cols.length f) ∧ w.cell? ⟨b, o + i * 5, none⟩ = some (.slice q ms[i].cols.length f) ∧ w.cell? ⟨b, o + i * 5 + 1, none⟩ = some (.int .i64 ms[i].opn) ∧ w.cell? ⟨b, o + i * 5 + 2, none⟩ = some (.int .i64 ms[i].col) ∧ w.cell? ⟨b, o + i * 5 + 3, none⟩ = some (.bool ms[i].fresh) ∧ w.cell? ⟨b, o + i * 5 + 4, none⟩ = some (.int .i64 ms[i].lead) := by
  obtain ⟨p', c', he, hh⟩ := h
  injection he with e1 e2 e3
  subst e1 e3
  obtain ⟨b, o, rfl, hb, hc⟩ := hh (by intro e; rw [e] at hi; simp at hi)
  obtain ⟨q, f, h1, h2⟩ := hc i hi
  exact ⟨e2, b, o, q, f, rfl, hb, h1, h2 0 _ rfl, h2 1 _ rfl, h2 2 _ rfl, h2 3 _ rfl, h2 4 _ rfl⟩
/-- All marks' cells, in a row. -/
theorem mv_row {D : Nat → Prop} {w : World} {ms : List Mk} {p : Option Addr} {n c : Nat} (h : MV D w ms (.slice p n c)) (hne : ms ≠ []) : ∃ b o vs, p = some ⟨b, o, none⟩ ∧ D b ∧ vs.length = ms.length ∧ (∀ v ∈ vs, ∃ q n f, v = .slice q n f) ∧ ∀ j u, (mkL vs ms)[j]? = some u → w.cell? ⟨b, o + j, none⟩ = some u := by
  obtain ⟨p', c', he, hh⟩ := h
  injection he with e1 e2 e3
  subst e1 e3
  obtain ⟨b, o, rfl, hb, hc⟩ := hh hne
  have hex : ∀ (k : Nat), k ≤ ms.length → ∃ vs : List Value, vs.length = k ∧ (∀ v ∈ vs, ∃ q n f, v = .slice q n f) ∧ ∀ i (h : i < ms.length) (h2 : i < vs.length), ∀ r v, (mkA vs[i] ms[i])[r]? = some v → w.cell? ⟨b, o + i * 5 + r, none⟩ = some v := by
    intro k
    induction k with
    | zero => exact fun _ => ⟨[], rfl, by simp, fun i h h2 => by simp at h2⟩
    | succ k ih =>
      intro hk
      obtain ⟨vs, hl, hv, hr⟩ := ih (by omega)
      obtain ⟨q, f, h1, h2⟩ := hc k (by omega)
      refine ⟨vs ++ [.slice q ms[k].cols.length f], by simp [hl], fun v hv' => ?_, fun i h h3 r v hrv => ?_⟩
      · rcases List.mem_append.1 hv' with e | e
        · exact hv v e
        · exact ⟨_, _, _, List.mem_singleton.1 e⟩
      · by_cases e : i < k
        · rw [List.getElem_append_left (by omega)] at hrv
          exact hr i h (by omega) r v hrv
        · have e2 : i = k := by simp [hl] at h3; omega
          subst e2
          rw [List.getElem_append_right (by omega)] at hrv
          simp only [hl, Nat.sub_self, List.getElem_cons_zero] at hrv
          exact h2 r v hrv
  obtain ⟨vs, hl, hv, hr⟩ := hex ms.length (Nat.le_refl _)
  refine ⟨b, o, vs, rfl, hb, hl, hv, fun j u hu => ?_⟩
  have hj : j < ms.length * 5 := by have := (List.getElem?_eq_some_iff.1 hu).1; rwa [mkL_len hl] at this
  have hjd : j / 5 < ms.length := by omega
  have e : j = j / 5 * 5 + j % 5 := by omega
  rw [e, mkL_get hl (j / 5) hjd (j % 5) (by omega)] at hu
  have := hr (j / 5) hjd (by omega) (j % 5) u hu
  rw [e, ← Nat.add_assoc]; exact this
theorem make36 (n : Nat) (hn : n ≤ 1000000) (w : World) : (Instr.makeSlice 24 (.int .i64 (n : Nat)) (.int .i64 (n : Nat))).run Try.prog w = .ok (.slice (some ⟨w.heap.size, 0, none⟩) n n) (w.alloc (.cells (madeCells (Value.agg zA).cells (n * 5)) 36)) := by
  obtain ⟨i0, hi, hz0, hz1, hz2⟩ := info_parts info24z
  have h := run_makeSlice (P := Try.prog) w 24 36 i0 _ Try.underlying24 hi hz0 .i64 .i64 (n : Int) (n : Int) (by omega) (by omega) (by rw [hz1]; omega) (by rw [hz2]; omega) (by omega)
  rw [h, hz1, Int.toNat_natCast]; rfl
def zR (n : Nat) : List Value := List.replicate n (.int .i64 0)
theorem make3 (n : Nat) (hn : n ≤ 10000000000) (w : World) : (Instr.makeSlice 25 (.int .i64 (n : Nat)) (.int .i64 (n : Nat))).run Try.prog w = .ok (.slice (some ⟨w.heap.size, 0, none⟩) n n) (w.alloc (.cells (zR n).toArray 3)) := by
  obtain ⟨i0, hi, hz0, hz1, hz2⟩ := info_parts info3b
  have h := run_make (P := Try.prog) w 25 3 i0 (.int .i64 0) Try.underlying25 hi hz0 .i64 .i64 (n : Int) (n : Int) (by omega) (by omega) (by rw [hz2]; omega) (by omega)
  rw [h, hz1]
  have e : madeCells (Value.int .i64 0).cells ((n : Int).toNat * 1) = (zR n).toArray := by
    rw [Int.toNat_natCast, Nat.mul_one]
    apply Array.ext_getElem?
    intro i
    by_cases hi : i < n
    · simp [madeCells, zR, hi, Nat.mod_one, Value.cells]
    · rw [Array.getElem?_eq_none (by simp [madeCells]; omega), Array.getElem?_eq_none (by simp [zR]; omega)]
  rw [e, Int.toNat_natCast]
/-- copy of rows whose elements have some cells. -/
theorem run_copy_rows {P : Program} (w : World) (dT sT ty elem : TypeId) (sz : Nat) (g o dLen dCap : Nat) (a : Addr) (sLen sCap : Nat) (cur : Array Value) (t : TypeId) (cs : List Value)
    (hu : P.underlying dT = some (.slice elem)) (hs : (P.info? elem).map (·.size) = some sz)
    (hg : w.heap[g]? = some (.cells cur t (0, 0))) (hn : cs.length = Nat.min sLen dLen * sz)
    (hsrc : ∀ j v, cs[j]? = some v → w.cell? (a.add j) = some v) (hfit : o + cs.length ≤ cur.size) (h1 : ∀ v ∈ cs, v.oneCell' = true) :
    (Builtin.copy_ #[dT, sT] ty #[.slice (some ⟨g, o, none⟩) dLen dCap, .slice (some a) sLen sCap]).run P w =
      .ok (goInt (Nat.min sLen dLen)) (w.setRow g (cur.toList.take o ++ cs ++ cur.toList.drop (o + cs.length)).toArray) := by
  have hl := run_loadCells_list (P := P) w a cs hsrc
  have hst := run_storeCells_at P g o t cs 0 cur w hg (by simpa using hfit) h1
  cases hq : P.info? elem with
  | none => simp [hq] at hs
  | some i =>
    have hi : i.size = sz := by simpa [hq] using hs
    simp [Builtin.copy_, run_underlying hu, Builtin.lenOf, Builtin.firstCells, sizeOf, typeInfo, hq, hi, ← hn, hl, hst]
end Go.Proofs.Ytemkppjdfjoipaa.I1.X
end
section
/- Package relex. -/
namespace Go.Proofs.Ytemkppjdfjoipaa.I1.X
set_option linter.unusedSimpArgs false
set_option linter.unusedVariables false
set_option maxRecDepth 100000
open Go.RowKit
/- copy into a row that lies. -/
theorem wp_copyS {B g off k : Nat} {w0 w : World} {L : List It} {ops : Array Oper} {rest : List Oper} {o : Oper} {a : Act} {Q : Exit → Act → World → Prop} (hgd : o.guard = none) (d s : Operand) (dT sT : TypeId)
    (ho : o.op = .call { callee := .builtin .copy, args := #[d, s], argTypes := #[dT, sT] }) (elem : TypeId) (sz : Nat) (hu : Try.prog.underlying dT = some (.slice elem)) (hsz : (Try.prog.info? elem).map (·.size) = some sz)
    (ad : Addr) (dLen dCap sLen sCap : Nat) (hd : a.eval d = .slice (some ⟨g, off, none⟩) dLen dCap) (hs : a.eval s = .slice (some ad) sLen sCap)
    (cur : List Value) (t : TypeId) (hS : Sep B w0 w (.box g (.cells cur.toArray t (0, 0)) :: L)) (cs : List Value) (hk : Nat.min sLen dLen = k) (hn : cs.length = k * sz)
    (hsrc : ∀ j v, cs[j]? = some v → w.cell? (ad.add j) = some v) (hfit : off + cs.length ≤ cur.length) (h1 : ∀ v ∈ cs, v.oneCell' = true)
    (h : ∀ w', Sep B w0 w' (.box g (.cells (cur.take off ++ cs ++ cur.drop (off + cs.length)).toArray t (0, 0)) :: L) → wpList Try.prog ops Q rest (a.put o.dst (goInt k)) w') :
    wpList Try.prog ops Q (o :: rest) a w := by
  refine wpList_plain hgd fun K hK => ?_
  have hr := run_copy_rows (P := Try.prog) w dT sT o.type elem sz g off dLen dCap ad sLen sCap cur.toArray t cs hu hsz hS.at.2 (by rw [hk]; exact hn) hsrc (by simpa using hfit) h1
  rw [hk] at hr
  simp only [List.toList_toArray] at hr
  have h2 := h _ (hS.putRow (cur.take off ++ cs ++ cur.drop (off + cs.length)).toArray)
  unfold Oper.wp execOp
  simp only [ho, resolve, invoke, builtin, Sem.run_bind, Sem.run_pure, Result.andThen_ok, List.map_toArray, List.map_cons, List.map_nil, hd, hs, hr]
  exact hK _ _ h2
theorem mkL_set : ∀ (vs : List Value) (ms : List Mk) (j : Nat) (v : Value), vs.length = ms.length → j < ms.length → (mkL vs ms).set (j * 5) v = mkL (vs.set j v) ms
  | [], [], j, v, _, h => by simp at h
  | x :: vs, m :: ms, 0, v, _, _ => by simp [mkL, mkA]
  | x :: vs, m :: ms, j + 1, v, hl, h => by
    have ih := mkL_set vs ms j v (by simpa using hl) (by simpa using h)
    simp only [mkL, List.zipWith_cons_cons, List.flatMap_cons, List.set_cons_succ, mkA] at ih ⊢
    rw [show (j + 1) * 5 = j * 5 + 5 by omega]
    simp [ih]
def vsJ (bR : Nat) (ms : List Mk) (vs0 : List Value) (j : Nat) : List Value := vsR bR 0 (ms.take j) ++ vs0.drop j
theorem vsJ_len {bR : Nat} {ms : List Mk} {vs0 : List Value} {j : Nat} (h : vs0.length = ms.length) (hj : j ≤ ms.length) : (vsJ bR ms vs0 j).length = ms.length := by
  unfold vsJ; rw [List.length_append, vsR_len, List.length_take, List.length_drop]; omega
theorem vsJ_succ {bR : Nat} {ms : List Mk} {vs0 : List Value} {j : Nat} (h : vs0.length = ms.length) (hj : j < ms.length) : (vsJ bR ms vs0 j).set j (.slice (some ⟨bR, clen (ms.take j), none⟩) ms[j].cols.length ms[j].cols.length) = vsJ bR ms vs0 (j + 1) := by
  unfold vsJ
  have hl : (vsR bR 0 (ms.take j)).length = j := by rw [vsR_len, List.length_take]; omega
  rw [List.set_append_right _ _ (by omega), hl, Nat.sub_self, List.drop_eq_getElem_cons (by omega : j < vs0.length), List.set_cons_zero, snocL ms hj, vsR_app, Nat.zero_add]
  simp [vsR]
theorem vsJ_end {bR : Nat} {ms : List Mk} {vs0 : List Value} (h : vs0.length = ms.length) : vsJ bR ms vs0 ms.length = vsR bR 0 ms := by
  unfold vsJ; rw [List.take_length, List.drop_eq_nil_of_le (by omega), List.append_nil]
def rmJ (ms : List Mk) (all j : Nat) : List Value := zi (zcols (ms.take j)) ++ zR (all - clen (ms.take j))
theorem zi_length (l : List Int) : (zi l).length = l.length := by simp [zi]
theorem rmJ_succ {ms : List Mk} {all j : Nat} (hj : j < ms.length) (h : clen ms = all) : (rmJ ms all j).take (clen (ms.take j)) ++ zi ms[j].cols ++ (rmJ ms all j).drop (clen (ms.take j) + (zi ms[j].cols).length) = rmJ ms all (j + 1) := by
  have hl : (zi (zcols (ms.take j))).length = clen (ms.take j) := by rw [zi_length, zcols_len]
  unfold rmJ
  rw [List.take_left' hl, ← List.drop_drop, List.drop_left' hl, zi_length, clen_take ms hj, snocL ms hj, zcols_app]
  have e : zcols [ms[j]] = ms[j].cols := by simp [zcols]
  rw [e]
  have : zi (zcols (ms.take j) ++ ms[j].cols) = zi (zcols (ms.take j)) ++ zi ms[j].cols := by simp [zi]
  rw [this]
  congr 1
  unfold zR
  rw [List.drop_replicate, Nat.sub_sub]
end Go.Proofs.Ytemkppjdfjoipaa.I1.X
end
