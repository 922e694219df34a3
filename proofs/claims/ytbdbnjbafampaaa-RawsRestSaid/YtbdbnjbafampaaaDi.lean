/- Packages dfa, mini, munch. -/
import Derived.Test.YtbdbnjbafampaaaProg
import Derived.Test.YtbdbnjbafampaaaDh
import Derived.WalkKit
import Derived.BigFrame
import Derived.Stop.BytesEq
import Derived.WalkLawsBesides
import Derived.WalkSpells
import Derived.Outline
import Derived.Lib.Walk
import Derived.Lib.Hide
import Derived.Lib.Slices
import Derived.Lib.Strings
import Derived.RegionTactic
import Derived.LoopTactic
import Derived.Below
import Derived.IntWalk
import Derived.Deep.QuietTactic
import Derived.BigQuiet
import Derived.Deep.MidRow
import Derived.Maps.AppendAt
import Derived.Laws.Rows
import Derived.Laws.Tables
import Derived.Deep.WholeRow
import Derived.Deep.Cut
import Derived.Deep.CutRange
import Derived.Lib.SliceRun
import Derived.Laws.MakeOwn
import Derived.Deep.RegionLaw
import Derived.Deep.RegionLawGrows
import Derived.Deep.RegionHeld3
import Derived.RegionCalls
import Derived.Deep.RegionWith
import Derived.Deep.Light
import Derived.Laws.CopyOwn
import Derived.Laws.ResultCell
namespace Go.Proofs.Ytbdbnjbafampaaa
set_option linter.unusedSimpArgs false
set_option linter.unusedVariables false
set_option maxRecDepth 100000
open Go.RowKit
/- SameDfa. -/
def clsEq (a b : Df) : Bool := (List.range 256).all fun i => decide (a.cl i = b.cl i)
def sameD (a b : Df) : Bool := decide (a.st = b.st) && (clsEq a b && (decide (a.rl = b.rl) && decide (a.nx = b.nx)))
def clU (d : Df) : List UInt8 := (List.range 256).map fun i => UInt8.ofNat (d.cl i)
theorem clU_len (d : Df) : (clU d).length = 256 := by unfold clU; rw [List.length_map, List.length_range]
theorem clA_cells {d : Df} (h : ∀ i, i < 256 → d.cl i < 256) : clA d = (clU d).map Extern.Stop.cell := by
  unfold clA clU
  rw [List.map_map]
  refine List.map_congr_left fun i hi => ?_
  have := h i (List.mem_range.1 hi)
  show Value.int .u8 (d.cl i : Nat) = Value.int .u8 (Int.ofNat (UInt8.ofNat (d.cl i)).toNat)
  rw [UInt8.toNat_ofNat_of_lt' (by omega)]; rfl
theorem clU_eq {a b : Df} (ha : ∀ i, i < 256 → a.cl i < 256) (hb : ∀ i, i < 256 → b.cl i < 256) : (clU a == clU b) = clsEq a b := by
  rw [Bool.eq_iff_iff, beq_iff_eq]
  unfold clsEq clU
  rw [List.all_eq_true]
  constructor
  · intro h i hi
    have hi' := List.mem_range.1 hi
    have h1 := congrArg (fun l => l[i]?) h
    simp only [List.getElem?_map, List.getElem?_range hi', Option.map_some, Option.some.injEq] at h1
    have h2 := congrArg UInt8.toNat h1
    rw [UInt8.toNat_ofNat_of_lt' (by have := ha i hi'; omega), UInt8.toNat_ofNat_of_lt' (by have := hb i hi'; omega)] at h2
    simpa using h2
  · intro h
    refine List.map_congr_left fun i hi => ?_
    have := h i hi
    simp only [decide_eq_true_eq] at this
    rw [this]
theorem size5 (w : World) : (sizeOf 5).run Try.prog w = .ok 1 w := by
  simp [go_sem, Try.sizeOf5]
theorem eq22 {a b : Df} (ha : ∀ i, i < 256 → a.cl i < 256) (hb : ∀ i, i < 256 → b.cl i < 256) (w : World) : (binOp .neq 22 (.agg (clA a).toArray) (.agg (clA b).toArray)).run Try.prog w = .ok (.bool (!clsEq a b)) w := by
  have e := fun w => run_equalIn_bytes (P := Try.prog) w 9998 22 5 256 Try.underlying22 Try.underlying5 size5 (clU a) (clU b) (clU_len a) (clU_len b)
  rw [clA_cells ha, clA_cells hb, ← clU_eq ha hb]
  simp only [binOp]
  simp [Op.equal, Op.maxDepth, e]
theorem guard22 (x y : Operand) (xs ys : Array Value) (w : World) : (eqGuard .neq 22 x y (.agg xs) (.agg ys)).run Try.prog w = .ok () w := by
  have h : Try.prog.eqGuardType Try.prog.depth 22 = false := by kernel_rfl
  simp [eqGuard, h, go_sem]
theorem wpList_neq22 {ops : Array Oper} {rest : List Oper} {op : Oper} {a : Act} {w : World} {Q : Exit → Act → World → Prop} (x y : Operand) (t : TypeId) (ho : op.op = .binOp .neq 22 x y t) (d e : Df) (hx : a.eval x = .agg (clA d).toArray) (hy : a.eval y = .agg (clA e).toArray)
    (hd : ∀ i, i < 256 → d.cl i < 256) (he : ∀ i, i < 256 → e.cl i < 256) (r : Bool) (hr : (!clsEq d e) = r)
    (hw : Region.wanted op (yielded ops a.tmps) = true) (h : wpList Try.prog ops Q rest (a.put op.dst (.bool r)) w) : wpList Try.prog ops Q (op :: rest) a w :=
  BigFrame.wpList_want hw fun K hK => by
    unfold Oper.wp execOp
    simp only [ho, hx, hy]
    simp only [Sem.run_bind, guard22, Result.andThen_ok, eq22 hd he, hr]
    exact hK _ _ h
theorem wpList_load_22 {ops : Array Oper} {rest : List Oper} {op : Oper} {a : Act} {w : World} {Q : Exit → Act → World → Prop} (x : Operand) (ho : op.op = .load 22 x) (b : Nat) (d : Df) (hx : a.eval x = .pointer (some ⟨b, 1, none⟩)) (hr : w.rangeAt b 1 (clA d))
    (hw : Region.wanted op (yielded ops a.tmps) = true) (h : wpList Try.prog ops Q rest (a.put op.dst (.agg (clA d).toArray)) w) : wpList Try.prog ops Q (op :: rest) a w :=
  BigFrame.wpList_want hw fun K hK => wp_load_mid 22 x ho b 1 hx (clA d) _ hr Try.underlying22 rfl (by rw [info22, clA_len]) (hK _ _ h)
end Go.Proofs.Ytbdbnjbafampaaa
