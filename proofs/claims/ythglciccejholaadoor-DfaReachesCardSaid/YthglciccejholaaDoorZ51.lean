/- Texts of package regs, one behind the other. -/
import Derived.Test.YthglciccejholaaDoorProg
import Derived.Test.YthglciccejholaaDoorZ40
import Derived.WalkKit
import Derived.Deep.SlicePairs
import Derived.Deep.Slices
import Derived.Laws.IdiomArrays
import Derived.OpenShut
import Derived.WideBlind
import Derived.BigFrame
import Derived.WalkMore
import Derived.ScopeJumps
import Derived.StillTailTactics
import Derived.Stop.BytesEq
import Derived.WalkLawsBesides
import Derived.WalkSpells
import Derived.Outline
import Derived.Lib.Walk
import Derived.Lib.Hide
import Derived.Lib.Slices
import Derived.Lib.Strings
import Derived.RegionTactic
import Derived.LoopTactic
import Derived.Below
import Derived.IntWalk
import Derived.Deep.QuietTactic
import Derived.BigQuiet
import Derived.Deep.MidRow
import Derived.Maps.AppendAt
import Derived.Laws.Rows
import Derived.Laws.Tables
import Derived.Deep.WholeRow
import Derived.Deep.Cut
import Derived.Deep.CutRange
import Derived.Lib.SliceRun
import Derived.Laws.MakeOwn
import Derived.Deep.RegionLaw
import Derived.Deep.RegionLawGrows
import Derived.Deep.RegionHeld3
import Derived.RegionCalls
import Derived.Deep.RegionWith
import Derived.Deep.Light
import Derived.Laws.CopyOwn
import Derived.Laws.ResultCell
import Derived.Test.YthglciccejholaaDoorRows
import Derived.Test.YthglciccejholaaDoorZ13
import Derived.ProofKit
import Derived.LaidMore
import Derived.Stop.Joined
import Derived.Lib.LaidTab
import Derived.Test.YthglciccejholaaDoorZ50
import Derived.Test.YthglciccejholaaDoorZ46
import Derived.Test.YthglciccejholaaDoorZ41
import Derived.Test.YthglciccejholaaDoorZ49
import Derived.RangeFuncNested
import Derived.RangeFuncBound
import Derived.RangeFuncCalls
import Derived.RangeFuncLeaves
import Derived.RangeFuncBox
import Derived.Shelf.Abstract
import Derived.Shelf.RegionOpen
import Derived.OwnWalkIn
import Derived.TacticsInMore
import Derived.LoopNIn
import Derived.LoopIn
section
/- Packages dfa, mini, munch. -/
namespace Go.Proofs.YthglciccejholaaDoor
set_option linter.unusedSimpArgs false
set_option linter.unusedVariables false
set_option maxRecDepth 100000
open Go.RowKit
/- An automaton that was handed in. -/
open Go.ChangeShapes Go.WideShapes in
theorem d7_weightsAll_mem {H : Type} {P : Program} {e : TypeId} : ∀ {ds : List (DataW H)} {d : DataW H}, d ∈ ds → ∀ n ∈ d.weights P e, n ∈ DataW.weightsAll P e ds
  | a :: ds, d, h, n, hn => by
    rw [DataW.weightsAll]
    rcases List.mem_cons.1 h with rfl | h
    · exact List.mem_append_left _ hn
    · exact List.mem_append_right _ (d7_weightsAll_mem h n hn)
theorem d7_bytes3 : Tryd.prog.bytesOf 3 = 8 := by kernel_rfl
theorem d7_cells3 : Tryd.prog.cellsOf 3 = 1 := by kernel_rfl
theorem bytes24 : Tryd.prog.bytesOf 39 = 24 := by kernel_rfl
theorem cells24 : Tryd.prog.cellsOf 39 = 1 := by kernel_rfl
theorem cells23 : Tryd.prog.cellsOf 46 = 1 := by kernel_rfl
theorem cells5 : Tryd.prog.cellsOf 5 = 1 := by kernel_rfl
theorem d7_cells22 : Tryd.prog.cellsOf 45 = 256 := by kernel_rfl
theorem cells26 : Tryd.prog.cellsOf 48 = 259 := by kernel_rfl
open Go.ChangeShapes Go.WideShapes Go.Deep in
theorem d7_ints_open {H : Type} {enc : TypeId × Value → H} {w : World} {held : Bool} {fuel : Nat} {c : Value} {x : DataW H × List MemPlace} (h : DataW.trod enc Tryd.prog w 0 (fun _ => true) held fuel 39 [c] = some x) (hw : ∀ q ∈ x.1.weights Tryd.prog 39, q ≤ reachBytes) :
    ∃ (l : List Int) (p : Option Addr) (f : Nat), c = .slice p l.length f ∧ IV (fun b => b < w.heap.size) w l c ∧ l.length ≤ 9223372036854775806 := by
  rcases DataW.trod_slice Tryd.underlying39 h with ⟨e5, -⟩ | ⟨a, len, cap, elems, rest, n', rfl, e5, hy2, hb, hl, hm', hlen, hel, -, -⟩
  · obtain rfl : c = .slice none 0 0 := by simpa using e5
    exact ⟨[], none, 0, rfl, IV.nil _ _ _ _, by simp⟩
  · obtain rfl : c = .slice (some a) len cap := by simpa using e5
    have hw3 : (elems.length + rest.length) * 8 ≤ reachBytes := by
      rw [hy2] at hw
      unfold DataW.weights at hw
      rw [Tryd.underlying39] at hw
      simp only [List.length_map, d7_bytes3] at hw
      exact hw _ (List.mem_cons_self ..)
    have hlb : len ≤ 9223372036854775806 := by
      have := reachBytes_lt
      omega
    have each : ∀ i, i < len → ∃ v : Int, w.cell? ((a.add (i * 1)).add 0) = some (.int .i64 v) := fun i hi => by
      have h1 := hel i hi
      rw [List.getElem?_eq_getElem (by omega), d7_cells3] at h1
      obtain ⟨cs', h2, h3⟩ := Option.bind_eq_some_iff.1 h1
      obtain ⟨_, hcl, hcell⟩ := World.cells?_some h2
      match cs', hcl with
      | [c0], _ =>
        obtain ⟨v, e0, -, -⟩ := DataW.trod_int Tryd.underlying3 h3
        obtain rfl : c0 = .int .i64 v := by simpa using e0
        exact ⟨v, by rw [hcell 0 (by omega)]; rfl⟩
    by_cases h0 : len = 0
    · subst h0
      exact ⟨[], some a, cap, rfl, IV.nil _ _ _ _, by simp⟩
    · obtain ⟨q, hq⟩ := choose_lt each
      have hc0 := hq 0 (by omega)
      have hspot : a.spot = none := by
        have := World.cell?_spot hc0
        simpa [Addr.add] using this
      obtain ⟨b, o, sp⟩ := a
      simp only at hspot
      subst hspot
      have hbl := World.block_lt_of_cell? w _ hc0
      have hbl2 : b < w.heap.size := by simpa [Addr.add] using hbl
      have hpl : ((List.range len).map q).length = len := by simp
      refine ⟨(List.range len).map q, some ⟨b, o, none⟩, cap, by rw [hpl], ⟨some ⟨b, o, none⟩, cap, by rw [hpl], fun _ => ⟨b, o, rfl, hbl2, fun i hi => ?_⟩⟩, by omega⟩
      have hi' : i < len := by rw [hpl] at hi; exact hi
      have h1 := hq i hi'
      have e : ((List.range len).map q)[i] = q i := by simp
      rw [e, ← h1, add_add, add_plain]
      rw [show o + (i * 1 + 0) = o + i by omega]
open Go.ChangeShapes Go.WideShapes Go.Deep in
theorem rows_open {H : Type} {enc : TypeId × Value → H} {w : World} {held : Bool} {fuel : Nat} {c : Value} {x : DataW H × List MemPlace} (h : DataW.trod enc Tryd.prog w 0 (fun _ => true) held fuel 46 [c] = some x) (hw : ∀ q ∈ x.1.weights Tryd.prog 46, q ≤ reachBytes) :
    ∃ (ls : List (List Int)) (p : Option Addr) (f : Nat), c = .slice p ls.length f ∧ NV (fun b => b < w.heap.size) w ls c ∧ ls.length ≤ 9223372036854775806 ∧ ∀ s ∈ ls, s.length ≤ 9223372036854775806 := by
  rcases DataW.trod_slice Tryd.underlying46 h with ⟨e5, -⟩ | ⟨a, len, cap, elems, rest, n', rfl, e5, hy2, hb, hl, hm', hlen, hel, -, -⟩
  · obtain rfl : c = .slice none 0 0 := by simpa using e5
    exact ⟨[], none, 0, rfl, ⟨none, 0, rfl, fun h => absurd rfl h⟩, by simp, by simp⟩
  · obtain rfl : c = .slice (some a) len cap := by simpa using e5
    have hw3 : (elems.length + rest.length) * 24 ≤ reachBytes ∧ ∀ y ∈ elems, ∀ q ∈ y.1.weights Tryd.prog 39, q ≤ reachBytes := by
      rw [hy2] at hw
      unfold DataW.weights at hw
      rw [Tryd.underlying46] at hw
      simp only [List.length_map, bytes24] at hw
      refine ⟨hw _ (List.mem_cons_self ..), fun y hy q hq => hw q (List.mem_cons_of_mem _ (List.mem_append_left _ (d7_weightsAll_mem (List.mem_map_of_mem hy) q hq)))⟩
    have hlb : len ≤ 9223372036854775806 := by
      have := reachBytes_lt
      omega
    have each : ∀ i, i < len → ∃ y : List Int × (Option Addr × Nat), IV (fun b => b < w.heap.size) w y.1 (.slice y.2.1 y.1.length y.2.2) ∧ y.1.length ≤ 9223372036854775806 ∧ w.cell? ((a.add (i * 1)).add 0) = some (.slice y.2.1 y.1.length y.2.2) := fun i hi => by
      have h1 := hel i hi
      rw [List.getElem?_eq_getElem (by omega), cells24] at h1
      obtain ⟨cs', h2, h3⟩ := Option.bind_eq_some_iff.1 h1
      obtain ⟨_, hcl, hcell⟩ := World.cells?_some h2
      have hwi := hw3.2 _ (List.getElem_mem (l := elems) (n := i) (by omega))
      obtain ⟨c0, rfl⟩ : ∃ c0, cs' = [c0] := by
        match cs', hcl with
        | [c0], _ => exact ⟨_, rfl⟩
      obtain ⟨l, p, f, rfl, hl1, hl2⟩ := d7_ints_open h3 hwi
      exact ⟨(l, (p, f)), hl1, hl2, by rw [hcell 0 (by omega)]; rfl⟩
    by_cases h0 : len = 0
    · subst h0
      exact ⟨[], some a, cap, rfl, ⟨some a, cap, rfl, fun h => absurd rfl h⟩, by simp, by simp⟩
    · have : Inhabited (List Int × (Option Addr × Nat)) := ⟨([], (none, 0))⟩
      obtain ⟨q, hq⟩ := choose_lt each
      have hc1 := (hq 0 (by omega)).2.2
      have hspot : a.spot = none := by
        have := World.cell?_spot hc1
        simpa [Addr.add] using this
      obtain ⟨b, o, sp⟩ := a
      simp only at hspot
      subst hspot
      have hbl := World.block_lt_of_cell? w _ hc1
      have hbl2 : b < w.heap.size := by simpa [Addr.add] using hbl
      have hpl : ((List.range len).map fun i => (q i).1).length = len := by simp
      refine ⟨(List.range len).map fun i => (q i).1, some ⟨b, o, none⟩, cap, by rw [hpl], ⟨some ⟨b, o, none⟩, cap, by rw [hpl], fun _ => ⟨b, o, rfl, hbl2, fun i hi => ?_⟩⟩, by omega, fun s hs => ?_⟩
      · have hi' : i < len := by rw [hpl] at hi; exact hi
        have e : ((List.range len).map fun i => (q i).1)[i] = (q i).1 := by simp
        rw [e]
        obtain ⟨h1, _, h2⟩ := hq i hi'
        refine ⟨(q i).2.1, (q i).2.2, h1, ?_⟩
        rw [← h2, add_add, add_plain]
        rw [show o + (i * 1 + 0) = o + i by omega]
      · obtain ⟨i, hi, rfl⟩ := List.mem_map.1 hs
        exact (hq i (List.mem_range.1 hi)).2.1
theorem take1 {α : Type} {l : List α} {o : Nat} (h : o < l.length) : (l.drop o).take 1 = [l[o]] := by
  rw [List.drop_eq_getElem_cons h]; rfl
open Go.ChangeShapes Go.WideShapes Go.Deep in
theorem class_open {H : Type} {enc : TypeId × Value → H} {w : World} {held : Bool} {fuel : Nat} {cs : List Value} {x : DataW H × List MemPlace} (h : DataW.trod enc Tryd.prog w 0 (fun _ => true) held fuel 45 cs = some x) :
    cs.length = 256 ∧ ∃ cl : Nat → Nat, ∀ i, i < 256 → cs[i]? = some (.int .u8 (cl i : Nat)) ∧ cl i < 256 := by
  obtain ⟨xs, m, _, ex, hlen, hl, hel⟩ := DataW.trod_array Tryd.underlying45 h
  rw [d7_cells22] at hlen
  refine ⟨hlen, ?_⟩
  have each : ∀ i, i < 256 → ∃ v : Nat, cs[i]? = some (.int .u8 (v : Nat)) ∧ v < 256 := fun i hi => by
    have h1 := hel i hi
    rw [cells5, Nat.mul_one, take1 (by omega), List.getElem?_eq_getElem (by omega)] at h1
    obtain ⟨v, e0, -, hwf⟩ := DataW.trod_int Tryd.underlying5 h1
    have e1 : cs[i] = .int .u8 v := by simpa using e0
    have hb : 0 ≤ v ∧ v ≤ 255 := by simpa [Lit.wf, IntKind.min, IntKind.max, IntKind.signed, IntKind.bits] using hwf
    refine ⟨v.toNat, ?_, by omega⟩
    rw [List.getElem?_eq_getElem (by omega), e1, Int.toNat_of_nonneg hb.1]
  obtain ⟨q, hq⟩ := choose_lt each
  exact ⟨q, hq⟩
open Go.ChangeShapes Go.WideShapes in
theorem open_dfa {H : Type} {enc : TypeId × Value → H} {w : World} {r : Reach} {b0 : Nat} {held : Bool} {v : Value} {d : DataW H} {p : List MemPlace} (hv : Value.okWide Tryd.prog w r b0 48 v) (h : DataW.Trod enc Tryd.prog w 0 (fun _ => true) held 48 v d p) (hw : ∀ n ∈ d.weights Tryd.prog 48, n ≤ reachBytes) :
    ∃ (a : Df) (ds : Array Value) (q q2 : Option Addr) (c c2 : Nat), v = .agg ds ∧ DC a ds q q2 c c2 ∧ DM (fun b => b < w.heap.size) w a q q2 c c2 ∧ (-9223372036854775808 ≤ a.st ∧ a.st ≤ 9223372036854775807) := by
  obtain ⟨cs, rfl⟩ : ∃ cs, v = .agg cs := by
    have := hv
    simp [Value.okWide, Tryd.underlying48] at this
    obtain ⟨cs, h1, _⟩ := this
    exact ⟨cs, h1⟩
  obtain ⟨fuel, hf⟩ := h
  obtain ⟨xs, n, rfl, hx, hlen', hxl, hf⟩ := DataW.trod_struct Tryd.underlying48 hf
  rw [cells26] at hlen'
  have e : (Value.agg cs).cells.toList = cs.toList := by simp [Value.cells]
  rw [e] at hlen' hf
  have f0 := hf 0 _ rfl
  have f1 := hf 1 _ rfl
  have f2 := hf 2 _ rfl
  have f3 := hf 3 _ rfl
  have hxl3 : xs.length = 4 := hxl
  match xs, hxl3 with
  | [y0, y1, y2, y3], _ =>
    have g0 : DataW.trod enc Tryd.prog w 0 (fun _ => true) held n 3 ((cs.toList.drop 0).take (Tryd.prog.cellsOf 3)) = some y0 := f0
    have g1 : DataW.trod enc Tryd.prog w 0 (fun _ => true) held n 45 ((cs.toList.drop 1).take (Tryd.prog.cellsOf 45)) = some y1 := f1
    have g2 : DataW.trod enc Tryd.prog w 0 (fun _ => true) held n 46 ((cs.toList.drop 257).take (Tryd.prog.cellsOf 46)) = some y2 := f2
    have g3 : DataW.trod enc Tryd.prog w 0 (fun _ => true) held n 39 ((cs.toList.drop 258).take (Tryd.prog.cellsOf 39)) = some y3 := f3
    rw [d7_cells3, take1 (by omega)] at g0
    rw [d7_cells22] at g1
    rw [cells23, take1 (by omega)] at g2
    rw [cells24, take1 (by omega)] at g3
    have hd : d = .agg [y0.1, y1.1, y2.1, y3.1] := by simpa using (Prod.mk.inj hx).1
    have hw2 : ∀ q ∈ y2.1.weights Tryd.prog 46, q ≤ reachBytes := fun q hq => by
      refine hw q ?_
      rw [hd]
      unfold DataW.weights
      rw [Tryd.underlying48]
      exact DataW.weights_mem_each (j := 2) (t := 46) (d := y2.1) rfl rfl q hq
    have hw3 : ∀ q ∈ y3.1.weights Tryd.prog 39, q ≤ reachBytes := fun q hq => by
      refine hw q ?_
      rw [hd]
      unfold DataW.weights
      rw [Tryd.underlying48]
      exact DataW.weights_mem_each (j := 3) (t := 39) (d := y3.1) rfl rfl q hq
    obtain ⟨st, e0, -, hst⟩ := DataW.trod_int Tryd.underlying3 g0
    obtain ⟨_, cl, hcl⟩ := class_open g1
    obtain ⟨ls, q, c, e2, h2, l2, l3⟩ := rows_open g2 hw2
    obtain ⟨rl, q2, c2, e3, h3, l4⟩ := d7_ints_open g3 hw3
    have hst' : -9223372036854775808 ≤ st ∧ st ≤ 9223372036854775807 := by simpa [Lit.wf, IntKind.min, IntKind.max, IntKind.signed, IntKind.bits] using hst
    have hsz : cs.size = 259 := by simpa using hlen'
    have c0 : cs[0]? = some (.int .i64 st) := by
      have e1 : cs.toList[0] = .int .i64 st := by simpa using e0
      rw [← Array.getElem?_toList, List.getElem?_eq_getElem (by omega), e1]
    have cc : ∀ i, i < 256 → cs[1 + i]? = some (.int .u8 (cl i : Nat)) ∧ cl i < 256 := fun i hi => by
      have h1 := hcl i hi
      rw [List.getElem?_take_of_lt hi, List.getElem?_drop, Array.getElem?_toList] at h1
      exact h1
    have c257 : cs[257]? = some (.slice q ls.length c) := by rw [← Array.getElem?_toList, List.getElem?_eq_getElem (by omega), e2]
    have c258 : cs[258]? = some (.slice q2 rl.length c2) := by rw [← Array.getElem?_toList, List.getElem?_eq_getElem (by omega), e3]
    refine ⟨⟨st, cl, ls, rl⟩, cs, q, q2, c, c2, rfl, ⟨hsz, fun v hv => ?_, c0, cc, c257, c258⟩, ⟨by rw [← e2]; exact h2, by rw [← e3]; exact h3, fun b h => h, l2, l4, l3⟩, hst'⟩
    rw [Array.mem_iff_getElem?] at hv
    obtain ⟨i, hi⟩ := hv
    have hlt := (Array.getElem?_eq_some_iff.1 hi).1
    by_cases i0 : i = 0
    · subst i0; rw [c0] at hi; cases hi; rfl
    · by_cases i1 : i < 257
      · have := (cc (i - 1) (by omega)).1
        rw [show 1 + (i - 1) = i by omega, hi] at this
        cases this; rfl
      · by_cases i2 : i = 257
        · subst i2; rw [c257] at hi; cases hi; rfl
        · have : i = 258 := by omega
          subst this; rw [c258] at hi; cases hi; rfl
end Go.Proofs.YthglciccejholaaDoor
end
section
/- What the library's listed table gives the walks, and a world in which it lies. -/
namespace Go.Proofs.YthglciccejholaaDoor
open Go.ChangeShapes Go.WideShapes Go.ChangeAt Go.RowKit R5
set_option linter.unusedVariables false
abbrev lst : List (String × DataW Unit) := [("math/bits.deBruijn64tab", Rows.laid_math_bits_deBruijn64tab)]
theorem gTab : Tryd.prog.globalNamed "math/bits.deBruijn64tab" = some 0 := by kernel_rfl
theorem gTabT : (Tryd.prog.globals[0]?).map (·.type) = some 177 := by kernel_rfl
theorem cells5t : Tryd.prog.cellsOf 5 = 1 := by kernel_rfl
theorem cells177 : Tryd.prog.cellsOf 177 = 64 := by kernel_rfl
theorem tab_met (os : Os) (args : Array Value) : laidMetH Tryd.prog lst ((World.doorLaid Tryd.prog 14 os).forCall (fun _ _ => 0) ⟨#[], args, []⟩).memory :=
  laidMetH_of_parts3 (fuel := 8) (laidMet_of_run' 8 (by kernel_rfl) (by kernel_rfl)) (by kernel_rfl) (by kernel_rfl)
theorem tab_of {W : World} (h : laidMetH Tryd.prog lst W) : Tb W ∧ 0 < W.heap.size := by
  rw [MakeChecks.laidMetH_plain _ _ _ (by kernel_rfl)] at h
  have hL : laidMet Tryd.prog (("math/bits.deBruijn64tab", Lib.tabData .u8 (Lib.deBruijn64tab.map fun n : Nat => (n : Int))) :: []) W := h
  have hT := Lib.tabIs_of_head gTab gTabT Tryd.underlying177 Tryd.underlying5 cells5t cells177 hL
  have key : Tb W := fun j hj => by
    rw [hT.cell gTab j (by simpa using hj)]
    congr 2
    simp [List.getD, List.getElem?_map, List.getElem?_eq_getElem hj]
  refine ⟨key, ?_⟩
  have h0 := key 0 (by decide)
  exact World.block_lt_of_cell? W ⟨0, 0, none⟩ h0
end Go.Proofs.YthglciccejholaaDoor
end
section
/- Package dfa. -/
namespace Go.Proofs.YthglciccejholaaDoor
set_option linter.unusedSimpArgs false
set_option linter.unusedVariables false
set_option maxRecDepth 100000
open Go.RowKit Go.Shelf
/- DfaRuns. -/
open Go.Maps
set_option maxHeartbeats 32000000 in
theorem runs_any {D : Nat → Prop} {w : World} {d : Df} {ds : Array Value} {p q : Option Addr} {c f : Nat} (s0 : Int) (t : ByteArray) (ht : t.size ≤ 9223372036854775806) (hd : DC d ds p q c f) (hm : DM D w d p q c f) (h0 : 0 < w.heap.size) (hT : R5.Tb w) :
    Calls Tryd.prog 6 #[.agg ds, .int .i64 s0, .string t] w fun e w' => e = .returned (.bool true) ∧ Below w.heap.size w w' := by
  have HM := Lib.hid (fun (z : World) (hz : Below w.heap.size w z) => hm.up hz)
  have HAL := Lib.hid (fun (z : World) (hz : Below w.heap.size w z) => alive7_any (w := z) (by have := hz.size; omega) (hT.mono (hz.block 0 h0)))
  have HD := Lib.hid hd
  have HSZ := Lib.hid hd.sz
  have hz48 := (zero_of_info info26r).1
  obtain ⟨b3, hb3⟩ : ∃ b, w.heap.size = b := ⟨_, rfl⟩
  have S0 := Lib.hid ((Sep.start w).allocAt hb3 (.cells ds 48))
  have HBIG := Lib.hid (fun (z : World) (hz : Below w.heap.size w z) => big_any (w := z) 20000 (by omega) hd (HM.out z hz))
  clear hd hm h0 hT
  go_enter Tryd.func6, Tryd.ntmps6
  go_upto_region 1 with fail
  refine at_world (fun v => Sep w.heap.size w v [.box b3 (.cells ds 48)]) S0.out fun y hy => ?_
  have S1 := Lib.hid hy
  have HB1 : Hid (BX y b3 ds) := Lib.hid hy.at.2
  clear S0 hy hb3
  by_cases h1 : 3000 < t.size
  · have h1I : (3000 : Int) < (t.size : Int) := by omega
    go_wp2_with fail
    go_ret
    exact ⟨rfl, S1.out.bel⟩
  have h1I : ¬ (3000 : Int) < (t.size : Int) := by omega
  go_wp2_with (refine wpList_load_Dg _ rfl b3 ds rfl HB1.out HSZ.out rfl ?_)
  refine (HBIG.out y S1.out.bel).mono ?_
  rintro _ w1 ⟨rfl, hbb⟩
  have S2 := Lib.hid (S1.out.up hbb)
  have HB2 : Hid (BX w1 b3 ds) := Lib.hid S2.out.at.2
  clear hbb S1 HB1 HBIG
  obtain ⟨bg, hbg⟩ : ∃ bg, bigD 20000 d = bg := ⟨_, rfl⟩
  rw [hbg]
  cases bg with
  | true =>
    clear hbg
    go_wp2_with fail
    go_ret
    exact ⟨rfl, S2.out.bel⟩
  | false =>
    have hno := bigD_no hbg
    have HL1 : Hid (d.nx.length ≤ 1000000) := Lib.hid (by omega)
    have HL2 : Hid (d.rl.length ≤ 1000000) := Lib.hid (by omega)
    have HL3 : Hid (∀ r ∈ d.nx, r.length ≤ 1000000) := Lib.hid fun r hr => by have := sumL_mem hr; omega
    have HTW := Lib.hid (twin_dfa HD.out (HM.out w1 S2.out.bel) HL1.out HL2.out HL3.out)
    clear hno hbg
    go_wp2_with (refine wpList_load_Dg _ rfl b3 ds rfl HB2.out HSZ.out rfl ?_)
    refine HTW.out.mono ?_
    rintro _ w2 ⟨es, g, cap, zs, ms, q2, f2, rfl, hde, k1, k2, k3, k4, k5, hbb⟩
    have S3 := Lib.hid (S2.out.up hbb)
    have HTD : Hid (TD w1.heap.size w2 d g cap q2 f2) := Lib.hid ⟨⟨zs, ms, k1, k2, k3, k4⟩, k5⟩
    have HDE := Lib.hid hde
    have HESZ := Lib.hid hde.sz
    obtain ⟨b7, hb7⟩ : ∃ b, w2.heap.size = b := ⟨_, rfl⟩
    have S4 := Lib.hid (S3.out.allocAt hb7 (.cells zero26 48))
    have HB7 := Lib.hid S4.out.at.2
    have HT4 : Hid (TD w1.heap.size ((w2.alloc (.cells zero26 48)).setRow b7 es) d g cap q2 f2) := Lib.hid (HTD.out.up (below_row ((Below.refl w2.heap.size w2).alloc (Nat.le_refl _) _) (by omega) es))
    clear hbb k1 k2 k3 k4 k5 hde HTW HTD S2 S3 HB2
    go_upto_region 4 with (refine wpList_store_row rfl 48 (.tmp 7) (.tmp 24) rfl b7 es rfl rfl 48 zero26 HB7.out (by rw [info26, HESZ.out]) (by rw [zero26_size, HESZ.out]) (Array.all_eq_true_iff_forall_mem.2 HDE.out.one) ?_)
    refine at_world (fun v => Sep w.heap.size w v [.box b7 (.cells es 48), .box b3 (.cells ds 48)] ∧ TD w1.heap.size v d g cap q2 f2) ⟨S4.out.putRow es, HT4.out⟩ fun z hz => ?_
    have S5 := Lib.hid hz.1
    have T5 := Lib.hid hz.2
    clear hz S4 HB7 HT4 hb7 hz48
    have HBE : Hid (∀ v : World, Below z.heap.size z v → BX v b7 es) := Lib.hid fun v hv => (S5.out.up hv).at.2
    have HBD : Hid (∀ v : World, Below z.heap.size z v → BX v b3 ds) := Lib.hid fun v hv => (S5.out.up hv).tl.at.2
    have HWZ : Hid (∀ v : World, Below z.heap.size z v → Below w.heap.size w v) := Lib.hid fun v hv => (S5.out.up hv).bel
    have HDT : Hid (∀ v : World, Below z.heap.size z v → DM (fun b => b < v.heap.size) v d (some ⟨g, 0, none⟩) q2 cap f2) := Lib.hid fun v hv => (T5.out.up hv).dm HL1.out HL2.out HL3.out
    have C1 := Lib.hid (fun (v : World) (hv : Below z.heap.size z v) => runR_any (w := v) s0 t HDE.out (HDT.out v hv) ht)
    have C2 := Lib.hid (fun (v : World) (hv : Below z.heap.size z v) => refrun_any (w := v) s0 t HD.out (HM.out v (HWZ.out v hv)) ht)
    have C3 := Lib.hid (fun (v : World) (hv : Below z.heap.size z v) => ruleR_any (w := v) t HDE.out (HDT.out v hv) ht)
    have C4 := Lib.hid (fun (v : World) (hv : Below z.heap.size z v) => refrule_any (w := v) t HD.out (HM.out v (HWZ.out v hv)) ht)
    have HLF := Lib.hid (fun (v : World) (hv : Below z.heap.size z v) => left_dfa HD.out (HM.out v (HWZ.out v hv)) HDE.out (T5.out.up hv) HL1.out HL2.out HL3.out)
    obtain ⟨⟨r1, e1⟩, hr1⟩ : ∃ r, runF d s0 (bl t) = r := ⟨_, rfl⟩
    obtain ⟨⟨r2, e2⟩, hr2⟩ : ∃ r, ruleF d (bl t) = r := ⟨_, rfl⟩
    rw [hr1] at C1 C2
    rw [hr2] at C3 C4
    unfold tup at C1 C2 C3 C4
    simp only at C1 C2 C3 C4
    have q1 : (r1 == r1) = true := by simp
    have q2' : (e1 == e1) = true := by simp
    have q3 : (r2 == r2) = true := by simp
    have q4 : (e2 == e2) = true := by simp
    have HB0 := Lib.hid (Below.refl z.heap.size z)
    have HX := Lib.hid (HBE.out z HB0.out)
    clear hr1 hr2 T5 S5
    go_wp2_with (refine wpList_load_D rfl (.tmp 7) rfl b7 es rfl HX.out HESZ.out ?_)
    refine (C1.out z HB0.out).mono ?_
    rintro _ u1 ⟨rfl, hbb⟩
    have HB1 := Lib.hid (HB0.out.trans (hbb.mono HB0.out.size))
    clear hbb HX C1 HB0
    have HX := Lib.hid (HBD.out u1 HB1.out)
    go_wp2_with (refine wpList_load_D rfl (.tmp 3) rfl b3 ds rfl HX.out HSZ.out ?_)
    refine (C2.out u1 HB1.out).mono ?_
    rintro _ u2 ⟨rfl, hbb⟩
    have HB2 := Lib.hid (HB1.out.trans (hbb.mono HB1.out.size))
    clear hbb HX C2 HB1
    have HX := Lib.hid (HBE.out u2 HB2.out)
    go_wp2_with (refine wpList_load_D rfl (.tmp 7) rfl b7 es rfl HX.out HESZ.out ?_)
    refine (C3.out u2 HB2.out).mono ?_
    rintro _ u3 ⟨rfl, hbb⟩
    have HB3 := Lib.hid (HB2.out.trans (hbb.mono HB2.out.size))
    clear hbb HX C3 HB2
    have HX := Lib.hid (HBD.out u3 HB3.out)
    go_wp2_with (refine wpList_load_D rfl (.tmp 3) rfl b3 ds rfl HX.out HSZ.out ?_)
    refine (C4.out u3 HB3.out).mono ?_
    rintro _ u4 ⟨rfl, hbb⟩
    have HB4 := Lib.hid (HB3.out.trans (hbb.mono HB3.out.size))
    clear hbb HX C4 HB3
    have HX := Lib.hid (HBE.out u4 HB4.out)
    have HY := Lib.hid (HBD.out u4 HB4.out)
    go_wp2_with (first | (refine wpList_load_Dg _ rfl b7 es rfl HX.out HESZ.out rfl ?_) | (refine wpList_load_Dg _ rfl b3 ds rfl HY.out HSZ.out rfl ?_))
    refine (HLF.out u4 HB4.out).mono ?_
    rintro _ u5 ⟨rfl, hbb⟩
    have HB5 := Lib.hid (HB4.out.trans (hbb.mono HB4.out.size))
    clear hbb HX HY HB4 HLF
    go_wp2_with fail
    refine (HAL.out u5 (HWZ.out u5 HB5.out)).mono ?_
    rintro _ u6 ⟨rfl, hbb⟩
    have HB6 := Lib.hid (HB5.out.trans (hbb.mono HB5.out.size))
    clear hbb HB5
    go_wp2_with fail
    go_ret
    exact ⟨rfl, HWZ.out u6 HB6.out⟩
end Go.Proofs.YthglciccejholaaDoor
end
