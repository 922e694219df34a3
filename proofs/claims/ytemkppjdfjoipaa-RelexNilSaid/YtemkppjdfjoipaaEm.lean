/- Packages dfa, mini, munch. -/
import Derived.Test.YtemkppjdfjoipaaProg
import Derived.Test.YtemkppjdfjoipaaV16
import Derived.WalkKit
import Derived.Deep.SlicePairs
import Derived.Deep.Slices
import Derived.Laws.IdiomArrays
import Derived.OpenShut
import Derived.WideBlind
import Derived.BigFrame
import Derived.WalkMore
import Derived.ScopeJumps
import Derived.StillTailTactics
import Derived.Stop.BytesEq
import Derived.WalkLawsBesides
import Derived.WalkSpells
import Derived.Outline
import Derived.Lib.Walk
import Derived.Lib.Hide
import Derived.Lib.Slices
import Derived.Lib.Strings
import Derived.RegionTactic
import Derived.LoopTactic
import Derived.Below
import Derived.IntWalk
import Derived.Deep.QuietTactic
import Derived.BigQuiet
import Derived.Deep.MidRow
import Derived.Maps.AppendAt
import Derived.Laws.Rows
import Derived.Laws.Tables
import Derived.Deep.WholeRow
import Derived.Deep.Cut
import Derived.Deep.CutRange
import Derived.Lib.SliceRun
import Derived.Laws.MakeOwn
import Derived.Deep.RegionLaw
import Derived.Deep.RegionLawGrows
import Derived.Deep.RegionHeld3
import Derived.RegionCalls
import Derived.Deep.RegionWith
import Derived.Deep.Light
import Derived.Laws.CopyOwn
import Derived.Laws.ResultCell
namespace Go.Proofs.Ytemkppjdfjoipaa
set_option linter.unusedSimpArgs false
set_option linter.unusedVariables false
set_option maxRecDepth 100000
open Go.RowKit
/- An automaton that was handed in. -/
open Go.ChangeShapes Go.WideShapes in
theorem weightsAll_mem {H : Type} {P : Program} {e : TypeId} : ∀ {ds : List (DataW H)} {d : DataW H}, d ∈ ds → ∀ n ∈ d.weights P e, n ∈ DataW.weightsAll P e ds
  | a :: ds, d, h, n, hn => by
    rw [DataW.weightsAll]
    rcases List.mem_cons.1 h with rfl | h
    · exact List.mem_append_left _ hn
    · exact List.mem_append_right _ (weightsAll_mem h n hn)
theorem bytes3 : Try.prog.bytesOf 3 = 8 := by kernel_rfl
theorem cells3 : Try.prog.cellsOf 3 = 1 := by kernel_rfl
theorem bytes24 : Try.prog.bytesOf 25 = 24 := by kernel_rfl
theorem cells24 : Try.prog.cellsOf 25 = 1 := by kernel_rfl
theorem cells23 : Try.prog.cellsOf 59 = 1 := by kernel_rfl
theorem cells5 : Try.prog.cellsOf 5 = 1 := by kernel_rfl
theorem cells22 : Try.prog.cellsOf 58 = 256 := by kernel_rfl
theorem cells26 : Try.prog.cellsOf 61 = 259 := by kernel_rfl
open Go.ChangeShapes Go.WideShapes Go.Deep in
theorem ints_open {H : Type} {enc : TypeId × Value → H} {w : World} {held : Bool} {fuel : Nat} {c : Value} {x : DataW H × List MemPlace} (h : DataW.trod enc Try.prog w 0 (fun _ => true) held fuel 25 [c] = some x) (hw : ∀ q ∈ x.1.weights Try.prog 25, q ≤ reachBytes) :
    ∃ (l : List Int) (p : Option Addr) (f : Nat), c = .slice p l.length f ∧ IV (fun b => b < w.heap.size) w l c ∧ l.length ≤ 9223372036854775806 := by
  rcases DataW.trod_slice Try.underlying25 h with ⟨e5, -⟩ | ⟨a, len, cap, elems, rest, n', rfl, e5, hy2, hb, hl, hm', hlen, hel, -, -⟩
  · obtain rfl : c = .slice none 0 0 := by simpa using e5
    exact ⟨[], none, 0, rfl, IV.nil _ _ _ _, by simp⟩
  · obtain rfl : c = .slice (some a) len cap := by simpa using e5
    have hw3 : (elems.length + rest.length) * 8 ≤ reachBytes := by
      rw [hy2] at hw
      unfold DataW.weights at hw
      rw [Try.underlying25] at hw
      simp only [List.length_map, bytes3] at hw
      exact hw _ (List.mem_cons_self ..)
    have hlb : len ≤ 9223372036854775806 := by
      have := reachBytes_lt
      omega
    have each : ∀ i, i < len → ∃ v : Int, w.cell? ((a.add (i * 1)).add 0) = some (.int .i64 v) := fun i hi => by
      have h1 := hel i hi
      rw [List.getElem?_eq_getElem (by omega), cells3] at h1
      obtain ⟨cs', h2, h3⟩ := Option.bind_eq_some_iff.1 h1
      obtain ⟨_, hcl, hcell⟩ := World.cells?_some h2
      match cs', hcl with
      | [c0], _ =>
        obtain ⟨v, e0, -, -⟩ := DataW.trod_int Try.underlying3 h3
        obtain rfl : c0 = .int .i64 v := by simpa using e0
        exact ⟨v, by rw [hcell 0 (by omega)]; rfl⟩
    by_cases h0 : len = 0
    · subst h0
      exact ⟨[], some a, cap, rfl, IV.nil _ _ _ _, by simp⟩
    · obtain ⟨q, hq⟩ := choose_lt each
      have hc0 := hq 0 (by omega)
      have hspot : a.spot = none := by
        have := World.cell?_spot hc0
        simpa [Addr.add] using this
      obtain ⟨b, o, sp⟩ := a
      simp only at hspot
      subst hspot
      have hbl := World.block_lt_of_cell? w _ hc0
      have hbl2 : b < w.heap.size := by simpa [Addr.add] using hbl
      have hpl : ((List.range len).map q).length = len := by simp
      refine ⟨(List.range len).map q, some ⟨b, o, none⟩, cap, by rw [hpl], ⟨some ⟨b, o, none⟩, cap, by rw [hpl], fun _ => ⟨b, o, rfl, hbl2, fun i hi => ?_⟩⟩, by omega⟩
      have hi' : i < len := by rw [hpl] at hi; exact hi
      have h1 := hq i hi'
      have e : ((List.range len).map q)[i] = q i := by simp
      rw [e, ← h1, add_add, add_plain]
      rw [show o + (i * 1 + 0) = o + i by omega]
open Go.ChangeShapes Go.WideShapes Go.Deep in
theorem rows_open {H : Type} {enc : TypeId × Value → H} {w : World} {held : Bool} {fuel : Nat} {c : Value} {x : DataW H × List MemPlace} (h : DataW.trod enc Try.prog w 0 (fun _ => true) held fuel 59 [c] = some x) (hw : ∀ q ∈ x.1.weights Try.prog 59, q ≤ reachBytes) :
    ∃ (ls : List (List Int)) (p : Option Addr) (f : Nat), c = .slice p ls.length f ∧ NV (fun b => b < w.heap.size) w ls c ∧ ls.length ≤ 9223372036854775806 ∧ ∀ s ∈ ls, s.length ≤ 9223372036854775806 := by
  rcases DataW.trod_slice Try.underlying59 h with ⟨e5, -⟩ | ⟨a, len, cap, elems, rest, n', rfl, e5, hy2, hb, hl, hm', hlen, hel, -, -⟩
  · obtain rfl : c = .slice none 0 0 := by simpa using e5
    exact ⟨[], none, 0, rfl, ⟨none, 0, rfl, fun h => absurd rfl h⟩, by simp, by simp⟩
  · obtain rfl : c = .slice (some a) len cap := by simpa using e5
    have hw3 : (elems.length + rest.length) * 24 ≤ reachBytes ∧ ∀ y ∈ elems, ∀ q ∈ y.1.weights Try.prog 25, q ≤ reachBytes := by
      rw [hy2] at hw
      unfold DataW.weights at hw
      rw [Try.underlying59] at hw
      simp only [List.length_map, bytes24] at hw
      refine ⟨hw _ (List.mem_cons_self ..), fun y hy q hq => hw q (List.mem_cons_of_mem _ (List.mem_append_left _ (weightsAll_mem (List.mem_map_of_mem hy) q hq)))⟩
    have hlb : len ≤ 9223372036854775806 := by
      have := reachBytes_lt
      omega
    have each : ∀ i, i < len → ∃ y : List Int × (Option Addr × Nat), IV (fun b => b < w.heap.size) w y.1 (.slice y.2.1 y.1.length y.2.2) ∧ y.1.length ≤ 9223372036854775806 ∧ w.cell? ((a.add (i * 1)).add 0) = some (.slice y.2.1 y.1.length y.2.2) := fun i hi => by
      have h1 := hel i hi
      rw [List.getElem?_eq_getElem (by omega), cells24] at h1
      obtain ⟨cs', h2, h3⟩ := Option.bind_eq_some_iff.1 h1
      obtain ⟨_, hcl, hcell⟩ := World.cells?_some h2
      have hwi := hw3.2 _ (List.getElem_mem (l := elems) (n := i) (by omega))
      obtain ⟨c0, rfl⟩ : ∃ c0, cs' = [c0] := by
        match cs', hcl with
        | [c0], _ => exact ⟨_, rfl⟩
      obtain ⟨l, p, f, rfl, hl1, hl2⟩ := ints_open h3 hwi
      exact ⟨(l, (p, f)), hl1, hl2, by rw [hcell 0 (by omega)]; rfl⟩
    by_cases h0 : len = 0
    · subst h0
      exact ⟨[], some a, cap, rfl, ⟨some a, cap, rfl, fun h => absurd rfl h⟩, by simp, by simp⟩
    · have : Inhabited (List Int × (Option Addr × Nat)) := ⟨([], (none, 0))⟩
      obtain ⟨q, hq⟩ := choose_lt each
      have hc1 := (hq 0 (by omega)).2.2
      have hspot : a.spot = none := by
        have := World.cell?_spot hc1
        simpa [Addr.add] using this
      obtain ⟨b, o, sp⟩ := a
      simp only at hspot
      subst hspot
      have hbl := World.block_lt_of_cell? w _ hc1
      have hbl2 : b < w.heap.size := by simpa [Addr.add] using hbl
      have hpl : ((List.range len).map fun i => (q i).1).length = len := by simp
      refine ⟨(List.range len).map fun i => (q i).1, some ⟨b, o, none⟩, cap, by rw [hpl], ⟨some ⟨b, o, none⟩, cap, by rw [hpl], fun _ => ⟨b, o, rfl, hbl2, fun i hi => ?_⟩⟩, by omega, fun s hs => ?_⟩
      · have hi' : i < len := by rw [hpl] at hi; exact hi
        have e : ((List.range len).map fun i => (q i).1)[i] = (q i).1 := by simp
        rw [e]
        obtain ⟨h1, _, h2⟩ := hq i hi'
        refine ⟨(q i).2.1, (q i).2.2, h1, ?_⟩
        rw [← h2, add_add, add_plain]
        rw [show o + (i * 1 + 0) = o + i by omega]
      · obtain ⟨i, hi, rfl⟩ := List.mem_map.1 hs
        exact (hq i (List.mem_range.1 hi)).2.1
theorem take1 {α : Type} {l : List α} {o : Nat} (h : o < l.length) : (l.drop o).take 1 = [l[o]] := by
  rw [List.drop_eq_getElem_cons h]; rfl
open Go.ChangeShapes Go.WideShapes Go.Deep in
theorem class_open {H : Type} {enc : TypeId × Value → H} {w : World} {held : Bool} {fuel : Nat} {cs : List Value} {x : DataW H × List MemPlace} (h : DataW.trod enc Try.prog w 0 (fun _ => true) held fuel 58 cs = some x) :
    cs.length = 256 ∧ ∃ cl : Nat → Nat, ∀ i, i < 256 → cs[i]? = some (.int .u8 (cl i : Nat)) ∧ cl i < 256 := by
  obtain ⟨xs, m, _, ex, hlen, hl, hel⟩ := DataW.trod_array Try.underlying58 h
  rw [cells22] at hlen
  refine ⟨hlen, ?_⟩
  have each : ∀ i, i < 256 → ∃ v : Nat, cs[i]? = some (.int .u8 (v : Nat)) ∧ v < 256 := fun i hi => by
    have h1 := hel i hi
    rw [cells5, Nat.mul_one, take1 (by omega), List.getElem?_eq_getElem (by omega)] at h1
    obtain ⟨v, e0, -, hwf⟩ := DataW.trod_int Try.underlying5 h1
    have e1 : cs[i] = .int .u8 v := by simpa using e0
    have hb : 0 ≤ v ∧ v ≤ 255 := by simpa [Lit.wf, IntKind.min, IntKind.max, IntKind.signed, IntKind.bits] using hwf
    refine ⟨v.toNat, ?_, by omega⟩
    rw [List.getElem?_eq_getElem (by omega), e1, Int.toNat_of_nonneg hb.1]
  obtain ⟨q, hq⟩ := choose_lt each
  exact ⟨q, hq⟩
open Go.ChangeShapes Go.WideShapes in
theorem open_dfa {H : Type} {enc : TypeId × Value → H} {w : World} {r : Reach} {b0 : Nat} {held : Bool} {v : Value} {d : DataW H} {p : List MemPlace} (hv : Value.okWide Try.prog w r b0 61 v) (h : DataW.Trod enc Try.prog w 0 (fun _ => true) held 61 v d p) (hw : ∀ n ∈ d.weights Try.prog 61, n ≤ reachBytes) :
    ∃ (a : Df) (ds : Array Value) (q q2 : Option Addr) (c c2 : Nat), v = .agg ds ∧ DC a ds q q2 c c2 ∧ DM (fun b => b < w.heap.size) w a q q2 c c2 ∧ (-9223372036854775808 ≤ a.st ∧ a.st ≤ 9223372036854775807) := by
  obtain ⟨cs, rfl⟩ : ∃ cs, v = .agg cs := by
    have := hv
    simp [Value.okWide, Try.underlying61] at this
    obtain ⟨cs, h1, _⟩ := this
    exact ⟨cs, h1⟩
  obtain ⟨fuel, hf⟩ := h
  obtain ⟨xs, n, rfl, hx, hlen', hxl, hf⟩ := DataW.trod_struct Try.underlying61 hf
  rw [cells26] at hlen'
  have e : (Value.agg cs).cells.toList = cs.toList := by simp [Value.cells]
  rw [e] at hlen' hf
  have f0 := hf 0 _ rfl
  have f1 := hf 1 _ rfl
  have f2 := hf 2 _ rfl
  have f3 := hf 3 _ rfl
  have hxl3 : xs.length = 4 := hxl
  match xs, hxl3 with
  | [y0, y1, y2, y3], _ =>
    have g0 : DataW.trod enc Try.prog w 0 (fun _ => true) held n 3 ((cs.toList.drop 0).take (Try.prog.cellsOf 3)) = some y0 := f0
    have g1 : DataW.trod enc Try.prog w 0 (fun _ => true) held n 58 ((cs.toList.drop 1).take (Try.prog.cellsOf 58)) = some y1 := f1
    have g2 : DataW.trod enc Try.prog w 0 (fun _ => true) held n 59 ((cs.toList.drop 257).take (Try.prog.cellsOf 59)) = some y2 := f2
    have g3 : DataW.trod enc Try.prog w 0 (fun _ => true) held n 25 ((cs.toList.drop 258).take (Try.prog.cellsOf 25)) = some y3 := f3
    rw [cells3, take1 (by omega)] at g0
    rw [cells22] at g1
    rw [cells23, take1 (by omega)] at g2
    rw [cells24, take1 (by omega)] at g3
    have hd : d = .agg [y0.1, y1.1, y2.1, y3.1] := by simpa using (Prod.mk.inj hx).1
    have hw2 : ∀ q ∈ y2.1.weights Try.prog 59, q ≤ reachBytes := fun q hq => by
      refine hw q ?_
      rw [hd]
      unfold DataW.weights
      rw [Try.underlying61]
      exact DataW.weights_mem_each (j := 2) (t := 59) (d := y2.1) rfl rfl q hq
    have hw3 : ∀ q ∈ y3.1.weights Try.prog 25, q ≤ reachBytes := fun q hq => by
      refine hw q ?_
      rw [hd]
      unfold DataW.weights
      rw [Try.underlying61]
      exact DataW.weights_mem_each (j := 3) (t := 25) (d := y3.1) rfl rfl q hq
    obtain ⟨st, e0, -, hst⟩ := DataW.trod_int Try.underlying3 g0
    obtain ⟨_, cl, hcl⟩ := class_open g1
    obtain ⟨ls, q, c, e2, h2, l2, l3⟩ := rows_open g2 hw2
    obtain ⟨rl, q2, c2, e3, h3, l4⟩ := ints_open g3 hw3
    have hst' : -9223372036854775808 ≤ st ∧ st ≤ 9223372036854775807 := by simpa [Lit.wf, IntKind.min, IntKind.max, IntKind.signed, IntKind.bits] using hst
    have hsz : cs.size = 259 := by simpa using hlen'
    have c0 : cs[0]? = some (.int .i64 st) := by
      have e1 : cs.toList[0] = .int .i64 st := by simpa using e0
      rw [← Array.getElem?_toList, List.getElem?_eq_getElem (by omega), e1]
    have cc : ∀ i, i < 256 → cs[1 + i]? = some (.int .u8 (cl i : Nat)) ∧ cl i < 256 := fun i hi => by
      have h1 := hcl i hi
      rw [List.getElem?_take_of_lt hi, List.getElem?_drop, Array.getElem?_toList] at h1
      exact h1
    have c257 : cs[257]? = some (.slice q ls.length c) := by rw [← Array.getElem?_toList, List.getElem?_eq_getElem (by omega), e2]
    have c258 : cs[258]? = some (.slice q2 rl.length c2) := by rw [← Array.getElem?_toList, List.getElem?_eq_getElem (by omega), e3]
    refine ⟨⟨st, cl, ls, rl⟩, cs, q, q2, c, c2, rfl, ⟨hsz, fun v hv => ?_, c0, cc, c257, c258⟩, ⟨by rw [← e2]; exact h2, by rw [← e3]; exact h3, fun b h => h, l2, l4, l3⟩, hst'⟩
    rw [Array.mem_iff_getElem?] at hv
    obtain ⟨i, hi⟩ := hv
    have hlt := (Array.getElem?_eq_some_iff.1 hi).1
    by_cases i0 : i = 0
    · subst i0; rw [c0] at hi; cases hi; rfl
    · by_cases i1 : i < 257
      · have := (cc (i - 1) (by omega)).1
        rw [show 1 + (i - 1) = i by omega, hi] at this
        cases this; rfl
      · by_cases i2 : i = 257
        · subst i2; rw [c257] at hi; cases hi; rfl
        · have : i = 258 := by omega
          subst this; rw [c258] at hi; cases hi; rfl
end Go.Proofs.Ytemkppjdfjoipaa
