/- Package raws. -/
import Derived.Test.YtbdbnjbafampaaaProg
import Derived.Test.YtbdbnjbafampaaaRt
import Derived.Test.YtbdbnjbafampaaaEm
import Derived.Test.YtbdbnjbafampaaaRS1
import Derived.WalkKit
import Derived.Deep.SlicePairs
import Derived.Deep.Slices
import Derived.Laws.IdiomArrays
import Derived.OpenShut
import Derived.WideBlind
import Derived.BigFrame
import Derived.WalkMore
import Derived.ScopeJumps
import Derived.StillTailTactics
import Derived.Stop.BytesEq
import Derived.WalkLawsBesides
import Derived.WalkSpells
import Derived.Outline
import Derived.Lib.Walk
import Derived.Lib.Hide
import Derived.Lib.Slices
import Derived.Lib.Strings
import Derived.RegionTactic
import Derived.LoopTactic
import Derived.Below
import Derived.IntWalk
import Derived.Deep.QuietTactic
import Derived.BigQuiet
import Derived.Deep.MidRow
import Derived.Maps.AppendAt
import Derived.Laws.Rows
import Derived.Laws.Tables
import Derived.Deep.WholeRow
import Derived.Deep.Cut
import Derived.Deep.CutRange
import Derived.Lib.SliceRun
import Derived.Laws.MakeOwn
import Derived.Deep.RegionLaw
import Derived.Deep.RegionLawGrows
import Derived.Deep.RegionHeld3
import Derived.RegionCalls
import Derived.Deep.RegionWith
import Derived.Deep.Light
import Derived.Laws.CopyOwn
import Derived.Laws.ResultCell
namespace Go.Proofs.Ytbdbnjbafampaaa
set_option linter.unusedSimpArgs false
set_option linter.unusedVariables false
set_option maxRecDepth 100000
open Go.RowKit
/- A Scan that was handed in. -/
open Go.ChangeShapes Go.WideShapes in
theorem dfa_open {H : Type} {enc : TypeId × Value → H} {w : World} {held : Bool} {fuel : Nat} {cs : List Value} {x : DataW H × List MemPlace} (h : DataW.trod enc Try.prog w 0 (fun _ => true) held fuel 26 cs = some x) (hw : ∀ n ∈ x.1.weights Try.prog 26, n ≤ reachBytes) :
    ∃ (a : Df) (q q2 : Option Addr) (c c2 : Nat), DC a cs.toArray q q2 c c2 ∧ DM (fun b => b < w.heap.size) w a q q2 c c2 := by
  obtain ⟨xs, n, rfl, hx, hlen', hxl, hf⟩ := DataW.trod_struct Try.underlying26 h
  rw [cells26] at hlen'
  have f0 := hf 0 _ rfl
  have f1 := hf 1 _ rfl
  have f2 := hf 2 _ rfl
  have f3 := hf 3 _ rfl
  have hxl3 : xs.length = 4 := hxl
  match xs, hxl3 with
  | [y0, y1, y2, y3], _ =>
    have g0 : DataW.trod enc Try.prog w 0 (fun _ => true) held n 3 ((cs.drop 0).take (Try.prog.cellsOf 3)) = some y0 := f0
    have g1 : DataW.trod enc Try.prog w 0 (fun _ => true) held n 22 ((cs.drop 1).take (Try.prog.cellsOf 22)) = some y1 := f1
    have g2 : DataW.trod enc Try.prog w 0 (fun _ => true) held n 23 ((cs.drop 257).take (Try.prog.cellsOf 23)) = some y2 := f2
    have g3 : DataW.trod enc Try.prog w 0 (fun _ => true) held n 24 ((cs.drop 258).take (Try.prog.cellsOf 24)) = some y3 := f3
    rw [cells3, take1 (by omega)] at g0
    rw [cells22] at g1
    rw [cells23, take1 (by omega)] at g2
    rw [cells24, take1 (by omega)] at g3
    have hd : x.1 = .agg [y0.1, y1.1, y2.1, y3.1] := by rw [hx]; rfl
    have hw2 : ∀ q ∈ y2.1.weights Try.prog 23, q ≤ reachBytes := fun q hq => by
      refine hw q ?_
      rw [hd]
      unfold DataW.weights
      rw [Try.underlying26]
      exact DataW.weights_mem_each (j := 2) (t := 23) (d := y2.1) rfl rfl q hq
    have hw3 : ∀ q ∈ y3.1.weights Try.prog 24, q ≤ reachBytes := fun q hq => by
      refine hw q ?_
      rw [hd]
      unfold DataW.weights
      rw [Try.underlying26]
      exact DataW.weights_mem_each (j := 3) (t := 24) (d := y3.1) rfl rfl q hq
    obtain ⟨st, e0, -, hst⟩ := DataW.trod_int Try.underlying3 g0
    obtain ⟨_, cl, hcl⟩ := class_open g1
    obtain ⟨ls, q, c, e2, h2, l2, l3⟩ := rows_open g2 hw2
    obtain ⟨rl, q2, c2, e3, h3, l4⟩ := ints_open g3 hw3
    have hst' : -9223372036854775808 ≤ st ∧ st ≤ 9223372036854775807 := by simpa [Lit.wf, IntKind.min, IntKind.max, IntKind.signed, IntKind.bits] using hst
    have hsz : cs.toArray.size = 259 := by simpa using hlen'
    have c0 : cs.toArray[0]? = some (.int .i64 st) := by
      have e1 : cs[0] = .int .i64 st := by simpa using e0
      rw [List.getElem?_toArray, List.getElem?_eq_getElem (by omega), e1]
    have cc : ∀ i, i < 256 → cs.toArray[1 + i]? = some (.int .u8 (cl i : Nat)) ∧ cl i < 256 := fun i hi => by
      have h1 := hcl i hi
      rw [List.getElem?_take_of_lt hi, List.getElem?_drop] at h1
      rw [List.getElem?_toArray]
      exact h1
    have c257 : cs.toArray[257]? = some (.slice q ls.length c) := by rw [List.getElem?_toArray, List.getElem?_eq_getElem (by omega), e2]
    have c258 : cs.toArray[258]? = some (.slice q2 rl.length c2) := by rw [List.getElem?_toArray, List.getElem?_eq_getElem (by omega), e3]
    refine ⟨⟨st, cl, ls, rl⟩, q, q2, c, c2, ⟨hsz, fun v hv => ?_, c0, cc, c257, c258⟩, ⟨by rw [← e2]; exact h2, by rw [← e3]; exact h3, fun b h => h, l2, l4, l3⟩⟩
    rw [Array.mem_iff_getElem?] at hv
    obtain ⟨i, hi⟩ := hv
    have hlt := (Array.getElem?_eq_some_iff.1 hi).1
    by_cases i0 : i = 0
    · subst i0; rw [c0] at hi; cases hi; rfl
    · by_cases i1 : i < 257
      · have := (cc (i - 1) (by omega)).1
        rw [show 1 + (i - 1) = i by omega, hi] at this
        cases this; rfl
      · by_cases i2 : i = 257
        · subst i2; rw [c257] at hi; cases hi; rfl
        · have : i = 258 := by omega
          subst this; rw [c258] at hi; cases hi; rfl
theorem cells72 : Try.prog.cellsOf 72 = 260 := by kernel_rfl
theorem cells52 : Try.prog.cellsOf 52 = 1 := by kernel_rfl
def zero72 : Array Value := #[.slice none 0 0] ++ zero26
open Go.ChangeShapes Go.WideShapes in
theorem open_scan {H : Type} {enc : TypeId × Value → H} {w : World} {r : Reach} {b0 : Nat} {held : Bool} {v : Value} {d : DataW H} {p : List MemPlace} (hv : Value.okWide Try.prog w r b0 72 v) (h : DataW.Trod enc Try.prog w 0 (fun _ => true) held 72 v d p) (hw : ∀ n ∈ d.weights Try.prog 72, n ≤ reachBytes) :
    ∃ (vs : Array Value) (ts : List R6.RT) (qa : Option Addr) (ca : Nat) (a : Df) (ds : Array Value) (q q2 : Option Addr) (c c2 : Nat), v = .agg vs ∧ SC vs ds qa ts.length ca ∧ R6.RuV (fun b => b < w.heap.size) w ts (.slice qa ts.length ca) ∧ ts.length ≤ 9223372036854775806 ∧ DC a ds q q2 c c2 ∧ DM (fun b => b < w.heap.size) w a q q2 c c2 := by
  obtain ⟨cs, rfl⟩ : ∃ cs, v = .agg cs := by
    have := hv
    simp [Value.okWide, Try.underlying72] at this
    obtain ⟨cs, h1, _⟩ := this
    exact ⟨cs, h1⟩
  obtain ⟨fuel, hf⟩ := h
  obtain ⟨xs, n, rfl, hx, hlen', hxl, hf⟩ := DataW.trod_struct Try.underlying72 hf
  rw [cells72] at hlen'
  have e : (Value.agg cs).cells.toList = cs.toList := by simp [Value.cells]
  rw [e] at hlen' hf
  have f0 := hf 0 _ rfl
  have f1 := hf 1 _ rfl
  have hxl3 : xs.length = 2 := hxl
  match xs, hxl3 with
  | [y0, y1], _ =>
    have g0 : DataW.trod enc Try.prog w 0 (fun _ => true) held n 52 ((cs.toList.drop 0).take (Try.prog.cellsOf 52)) = some y0 := f0
    have g1 : DataW.trod enc Try.prog w 0 (fun _ => true) held n 26 ((cs.toList.drop 1).take (Try.prog.cellsOf 26)) = some y1 := f1
    rw [cells52, take1 (by omega)] at g0
    rw [cells26] at g1
    have hd : d = .agg [y0.1, y1.1] := by simpa using (Prod.mk.inj hx).1
    have hw0 : ∀ q ∈ y0.1.weights Try.prog 52, q ≤ reachBytes := fun q hq => by
      refine hw q ?_
      rw [hd]
      unfold DataW.weights
      rw [Try.underlying72]
      exact DataW.weights_mem_each (j := 0) (t := 52) (d := y0.1) rfl rfl q hq
    have hw1 : ∀ q ∈ y1.1.weights Try.prog 26, q ≤ reachBytes := fun q hq => by
      refine hw q ?_
      rw [hd]
      unfold DataW.weights
      rw [Try.underlying72]
      exact DataW.weights_mem_each (j := 1) (t := 26) (d := y1.1) rfl rfl q hq
    obtain ⟨ts, qa, ca, e0, hV, hl, -⟩ := R6.rules_open g0 hw0
    obtain ⟨a, q, q2, c, c2, hdc, hdm⟩ := dfa_open g1 hw1
    rw [e0] at hV
    refine ⟨cs, ts, qa, ca, a, _, q, q2, c, c2, rfl, ⟨by simpa using hlen', ?_, fun j v hj => ?_⟩, hV, hl, hdc, hdm⟩
    · rw [← Array.getElem?_toList, List.getElem?_eq_getElem (by omega)]
      exact congrArg some (by simpa using e0)
    · have hlt := (Array.getElem?_eq_some_iff.1 hj).1
      rw [hdc.sz] at hlt
      rw [List.getElem?_toArray, List.getElem?_take_of_lt hlt, List.getElem?_drop, Array.getElem?_toList] at hj
      exact hj
end Go.Proofs.Ytbdbnjbafampaaa
