/- Package grams. -/
import Derived.Test.YtpmkdpjcpimhkaaProg
import Derived.Test.YtpmkdpjcpimhkaaHi
import Derived.Deep.SlicePairs
import Derived.Deep.Slices
import Derived.Laws.IdiomArrays
import Derived.OpenShut
import Derived.WideBlind
import Derived.Great.BuildSlice
import Derived.WalkKit
import Derived.Maps.OwnSet
import Derived.Maps.OwnOps
import Derived.Maps.Own
import Derived.DeepKeys5
import Derived.BigFrame
import Derived.WalkMore
import Derived.ScopeJumps
import Derived.StillTailTactics
import Derived.Stop.BytesEq
import Derived.WalkLawsBesides
import Derived.WalkSpells
import Derived.Outline
import Derived.Lib.Walk
import Derived.Lib.Hide
import Derived.Lib.Slices
import Derived.Lib.Strings
import Derived.RegionTactic
import Derived.LoopTactic
import Derived.Below
import Derived.IntWalk
import Derived.Deep.QuietTactic
import Derived.BigQuiet
import Derived.Deep.MidRow
import Derived.Maps.AppendAt
import Derived.Laws.Rows
import Derived.Laws.Tables
import Derived.Deep.WholeRow
import Derived.Deep.Cut
import Derived.Deep.CutRange
import Derived.Lib.SliceRun
import Derived.Laws.MakeOwn
import Derived.Deep.RegionLaw
import Derived.Deep.RegionLawGrows
import Derived.Deep.RegionHeld3
import Derived.RegionCalls
import Derived.Deep.RegionWith
import Derived.Deep.Light
import Derived.Laws.CopyOwn
import Derived.Laws.ResultCell
namespace Go.Proofs.Ytpmkdpjcpimhkaa
set_option linter.unusedSimpArgs false
set_option linter.unusedVariables false
set_option maxRecDepth 100000
open Go.RowKit
/- Tables of 64 words in memory. -/
def tC (T : List Nat) : Array Value := (T.map fun n => Value.int .u64 ((n : Nat) : Int)).toArray
theorem tC_size (T : List Nat) : (tC T).size = T.length := by simp [tC]
theorem tC_one (T : List Nat) : (tC T).all (·.oneCell') = true := by
  rw [Array.all_eq_true_iff_forall_mem]
  intro v hv
  unfold tC at hv
  obtain ⟨x, _, rfl⟩ := List.mem_map.1 (List.mem_toArray.1 hv)
  rfl
theorem tC_get (T : List Nat) {i : Nat} (h : i < T.length) : (tC T)[i]? = some (.int .u64 ((T.getD i 0 : Nat) : Int)) := by
  unfold tC
  rw [List.getElem?_toArray, List.getElem?_map, List.getElem?_eq_getElem h]
  simp [List.getD, h]
theorem tC_set (T : List Nat) (k v : Nat) : (tC T).setIfInBounds k (.int .u64 ((v : Nat) : Int)) = tC (T.set k v) := by
  unfold tC
  rw [List.setIfInBounds_toArray, List.map_set]
theorem info54 : (Try.prog.info? 54).map (·.size) = some 64 := by kernel_rfl
theorem zero54 : ∀ w, (zeroValue 54).run Try.prog w = .ok (.agg (tC z64)) w := (zero_of_info (show (Try.prog.info? 54).map (fun i => (i.zero, i.size)) = some (some (.agg (tC z64)), 64) by kernel_rfl)).1
theorem size45 (w : World) : (sizeOf 45).run Try.prog w = .ok 1 w := by
  simp [go_sem, Try.sizeOf45]
theorem wpList_load_T {ops : Array Oper} {rest : List Oper} {op : Oper} {a : Act} {w : World} {Q : Exit → Act → World → Prop} (hgd : op.guard = none) (x : Operand) (ho : op.op = .load 54 x) (b : Nat) (T : List Nat) (hx : a.eval x = .pointer (some ⟨b, 0, none⟩)) (hT : T.length = 64) (hc : w.heap[b]? = some (.cells (tC T) 54))
    (h : wpList Try.prog ops Q rest (a.put op.dst (.agg (tC T))) w) : wpList Try.prog ops Q (op :: rest) a w :=
  wpList_load_mid hgd 54 x ho b 0 hx (tC T).toList _ (fun j v hj => by rw [Nat.zero_add, cell_of_row w b j _ 54 (0, 0) hc]; simpa using hj) Try.underlying54 rfl (by rw [info54]; simp [tC_size, hT]) (by simpa using h)
theorem run_index_T (T : List Nat) {k : Nat} (hT : T.length = 64) (h : k < 64) (x : World) : (Instr.index 54 (.agg (tC T)) (.int .i64 (k : Nat))).run Try.prog x = .ok (.int .u64 ((T.getD k 0 : Nat) : Int)) x := by
  have h1 : (k : Int) < 64 := by omega
  have h3 := tC_get T (i := k) (by omega)
  simp [Instr.index, go_sem, Try.underlying54, h1, h3]
  intro hh; omega
theorem results_T {fn : Func} {p : Tmp} (h : fn.results = #[.cell p 54]) (tmps : Array Value) (w : World) (g : Nat) (T : List Nat)
    (hp : tmps.getD p undef = .pointer (some ⟨g, 0, none⟩)) (hg : w.heap[g]? = some (.cells (tC T) 54 (0, 0))) (hs : T.length = 64) :
    (results fn tmps).run Try.prog w = .ok (.agg (tC T)) w := by
  exact results_cell_row h _ _ g 54 _ (0, 0) _ hp hg Try.underlying54 rfl (by rw [info54, tC_size, hs])
/-- Two tables are compared word by word. -/
theorem words_eq (P : Program) (w : World) (d : Nat) (t e : TypeId) (n : Nat) (ht : P.underlying t = some (.array n e)) (he : P.underlying e = some (.int .u64)) (hsz : ∀ w, (sizeOf e).run P w = .ok 1 w)
    (A B : List Nat) (hA : A.length = n) (hB : B.length = n) : (Op.equalIn (d + 2) t (.agg (tC A)) (.agg (tC B))).run P w = .ok (decide (A = B)) w := by
  have hall : decide (A = B) = (List.range' 0 n 1).all fun i => decide (A.getD i 0 = B.getD i 0) := by
    rw [Bool.eq_iff_iff, decide_eq_true_eq, List.all_eq_true]
    constructor
    · rintro rfl i _; exact decide_eq_true rfl
    · intro h
      apply List.ext_getElem (hA.trans hB.symm)
      intro i h1 h2
      have := h i (List.mem_range'_1.2 ⟨Nat.zero_le _, by omega⟩)
      rw [decide_eq_true_eq, List.getD_eq_getElem?_getD, List.getD_eq_getElem?_getD, List.getElem?_eq_getElem h1, List.getElem?_eq_getElem h2] at this
      exact this
  have hin : ∀ i ∈ List.range' 0 n 1, i < n := fun i hi => by have := (List.mem_range'_1.1 hi).2; omega
  rw [hall, Op.equalIn]
  simp only [Sem.run_bind, run_underlying ht, Result.andThen_ok, hsz, Std.Legacy.Range.forIn_eq_forIn_range', Std.Legacy.Range.size, Nat.sub_zero, Nat.add_sub_cancel, Nat.div_one]
  generalize List.range' 0 n 1 = l at hin
  clear hall
  induction l with
  | nil => simp
  | cons i l ih =>
    have hi := hin i (List.mem_cons_self ..)
    have ih := ih (fun j hj => hin j (List.mem_cons_of_mem _ hj))
    have cA : (part e (tC A) (i * 1)).run P w = .ok (.int .u64 ((A.getD i 0 : Nat) : Int)) w := by
      simp [part, isAgg, run_underlying he, tC_get A (i := i) (by omega)]
    have cB : (part e (tC B) (i * 1)).run P w = .ok (.int .u64 ((B.getD i 0 : Nat) : Int)) w := by
      simp [part, isAgg, run_underlying he, tC_get B (i := i) (by omega)]
    have cE : (Op.equalIn (d + 1) e (.int .u64 ((A.getD i 0 : Nat) : Int)) (.int .u64 ((B.getD i 0 : Nat) : Int))).run P w = .ok (decide (A.getD i 0 = B.getD i 0)) w := by
      rw [run_equalIn_int w d e .u64 .u64 _ _ he]
      congr 1
      rw [Bool.eq_iff_iff]; simp; omega
    simp only [List.forIn_cons, Sem.run_bind, cA, cB, cE, Result.andThen_ok, List.all_cons]
    cases hc : decide (A.getD i 0 = B.getD i 0)
    · simp
    · simp only [Bool.not_true, Bool.false_eq_true, if_false, Sem.run_pure, Result.andThen_ok, Bool.true_and]
      exact ih
theorem guard54 (x y : Operand) (xs ys : Array Value) (w : World) : (eqGuard .eql 54 x y (.agg xs) (.agg ys)).run Try.prog w = .ok () w := by
  have h : Try.prog.eqGuardType Try.prog.depth 54 = false := by kernel_rfl
  simp [eqGuard, h, go_sem]
theorem eql54 {A B : List Nat} (hA : A.length = 64) (hB : B.length = 64) (w : World) : (binOp .eql 54 (.agg (tC A)) (.agg (tC B))).run Try.prog w = .ok (.bool (decide (A = B))) w := by
  have e := fun w => words_eq Try.prog w 9998 54 45 64 Try.underlying54 Try.underlying45 size45 A B hA hB
  simp only [binOp]
  simp [Op.equal, Op.maxDepth, e]
theorem wpList_eql54 {ops : Array Oper} {rest : List Oper} {op : Oper} {a : Act} {w : World} {Q : Exit → Act → World → Prop} (hgd : op.guard = none) (x y : Operand) (t : TypeId) (ho : op.op = .binOp .eql 54 x y t) (A B : List Nat) (hx : a.eval x = .agg (tC A)) (hy : a.eval y = .agg (tC B))
    (hA : A.length = 64) (hB : B.length = 64) (r : Bool) (hr : decide (A = B) = r) (h : wpList Try.prog ops Q rest (a.put op.dst (.bool r)) w) : wpList Try.prog ops Q (op :: rest) a w :=
  wpList_plain hgd fun K hK => by
    unfold Oper.wp execOp
    simp only [ho, hx, hy]
    simp only [Sem.run_bind, guard54, Result.andThen_ok, eql54 hA hB, hr]
    exact hK _ _ h
end Go.Proofs.Ytpmkdpjcpimhkaa
