/- Package grams. -/
import Derived.Test.YtpmkdpjcpimhkaaProg
import Derived.Test.YtpmkdpjcpimhkaaIn
import Derived.Deep.SlicePairs
import Derived.Deep.Slices
import Derived.Laws.IdiomArrays
import Derived.OpenShut
import Derived.WideBlind
import Derived.Great.BuildSlice
import Derived.WalkKit
import Derived.Maps.OwnSet
import Derived.Maps.OwnOps
import Derived.Maps.Own
import Derived.DeepKeys5
import Derived.BigFrame
import Derived.WalkMore
import Derived.ScopeJumps
import Derived.StillTailTactics
import Derived.Stop.BytesEq
import Derived.WalkLawsBesides
import Derived.WalkSpells
import Derived.Outline
import Derived.Lib.Walk
import Derived.Lib.Hide
import Derived.Lib.Slices
import Derived.Lib.Strings
import Derived.RegionTactic
import Derived.LoopTactic
import Derived.Below
import Derived.IntWalk
import Derived.Deep.QuietTactic
import Derived.BigQuiet
import Derived.Deep.MidRow
import Derived.Maps.AppendAt
import Derived.Laws.Rows
import Derived.Laws.Tables
import Derived.Deep.WholeRow
import Derived.Deep.Cut
import Derived.Deep.CutRange
import Derived.Lib.SliceRun
import Derived.Laws.MakeOwn
import Derived.Deep.RegionLaw
import Derived.Deep.RegionLawGrows
import Derived.Deep.RegionHeld3
import Derived.RegionCalls
import Derived.Deep.RegionWith
import Derived.Deep.Light
import Derived.Laws.CopyOwn
import Derived.Laws.ResultCell
namespace Go.Proofs.Ytpmkdpjcpimhkaa
set_option linter.unusedSimpArgs false
set_option linter.unusedVariables false
set_option maxRecDepth 100000
open Go.RowKit
/- A grammar that was handed in; a production. -/
open Go.ChangeShapes Go.WideShapes in
theorem weightsAll_mem {H : Type} {P : Program} {e : TypeId} : ∀ {ds : List (DataW H)} {d : DataW H}, d ∈ ds → ∀ n ∈ d.weights P e, n ∈ DataW.weightsAll P e ds
  | a :: ds, d, h, n, hn => by
    rw [DataW.weightsAll]
    rcases List.mem_cons.1 h with rfl | h
    · exact List.mem_append_left _ hn
    · exact List.mem_append_right _ (weightsAll_mem h n hn)
theorem bytes3 : Try.prog.bytesOf 3 = 8 := by kernel_rfl
theorem cells3 : Try.prog.cellsOf 3 = 1 := by kernel_rfl
open Go.ChangeShapes Go.WideShapes Go.Deep in
theorem ints_open {H : Type} {enc : TypeId × Value → H} {w : World} {held : Bool} {fuel : Nat} {c : Value} {x : DataW H × List MemPlace} (h : DataW.trod enc Try.prog w 0 (fun _ => true) held fuel 31 [c] = some x) (hw : ∀ q ∈ x.1.weights Try.prog 31, q ≤ reachBytes) :
    ∃ (l : List Int) (p : Option Addr) (f : Nat), c = .slice p l.length f ∧ IV (fun b => b < w.heap.size) w l c ∧ l.length ≤ 9223372036854775806 ∧ l.length ≤ f := by
  rcases DataW.trod_slice Try.underlying31 h with ⟨e5, -⟩ | ⟨a, len, cap, elems, rest, n', rfl, e5, hy2, hb, hl, hm', hlen, hel, -, -⟩
  · obtain rfl : c = .slice none 0 0 := by simpa using e5
    exact ⟨[], none, 0, rfl, IV.nil _ _ _ _, by simp, by simp⟩
  · obtain rfl : c = .slice (some a) len cap := by simpa using e5
    have hw3 : (elems.length + rest.length) * 8 ≤ reachBytes := by
      rw [hy2] at hw
      unfold DataW.weights at hw
      rw [Try.underlying31] at hw
      simp only [List.length_map, bytes3] at hw
      exact hw _ (List.mem_cons_self ..)
    have hlb : len ≤ 9223372036854775806 := by
      have := reachBytes_lt
      omega
    have each : ∀ i, i < len → ∃ v : Int, w.cell? ((a.add (i * 1)).add 0) = some (.int .i64 v) := fun i hi => by
      have h1 := hel i hi
      rw [List.getElem?_eq_getElem (by omega), cells3] at h1
      obtain ⟨cs', h2, h3⟩ := Option.bind_eq_some_iff.1 h1
      obtain ⟨_, hcl, hcell⟩ := World.cells?_some h2
      match cs', hcl with
      | [c0], _ =>
        obtain ⟨v, e0, -, -⟩ := DataW.trod_int Try.underlying3 h3
        obtain rfl : c0 = .int .i64 v := by simpa using e0
        exact ⟨v, by rw [hcell 0 (by omega)]; rfl⟩
    by_cases h0 : len = 0
    · subst h0
      exact ⟨[], some a, cap, rfl, IV.nil _ _ _ _, by simp, by simp⟩
    · obtain ⟨q, hq⟩ := choose_lt each
      have hc0 := hq 0 (by omega)
      have hspot : a.spot = none := by
        have := World.cell?_spot hc0
        simpa [Addr.add] using this
      obtain ⟨b, o, sp⟩ := a
      simp only at hspot
      subst hspot
      have hbl := World.block_lt_of_cell? w _ hc0
      have hbl2 : b < w.heap.size := by simpa [Addr.add] using hbl
      have hpl : ((List.range len).map q).length = len := by simp
      refine ⟨(List.range len).map q, some ⟨b, o, none⟩, cap, by rw [hpl], ⟨some ⟨b, o, none⟩, cap, by rw [hpl], fun _ => ⟨b, o, rfl, hbl2, fun i hi => ?_⟩⟩, by omega, by rw [hpl]; exact hl⟩
      have hi' : i < len := by rw [hpl] at hi; exact hi
      have h1 := hq i hi'
      have e : ((List.range len).map q)[i] = q i := by simp
      rw [e, ← h1, add_add, add_plain]
      rw [show o + (i * 1 + 0) = o + i by omega]
theorem take1 {α : Type} {l : List α} {o : Nat} (h : o < l.length) : (l.drop o).take 1 = [l[o]] := by
  rw [List.drop_eq_getElem_cons h]; rfl
theorem bytes38 : Try.prog.bytesOf 38 = 40 := by kernel_rfl
theorem cells38 : Try.prog.cellsOf 38 = 3 := by kernel_rfl
theorem cells4 : Try.prog.cellsOf 4 = 1 := by kernel_rfl
theorem cells31 : Try.prog.cellsOf 31 = 1 := by kernel_rfl
theorem cells22 : Try.prog.cellsOf 22 = 1 := by kernel_rfl
theorem cells24 : Try.prog.cellsOf 24 = 4 := by kernel_rfl
open Go.ChangeShapes Go.WideShapes Go.Deep in
theorem prod_open {H : Type} {enc : TypeId × Value → H} {w : World} {held : Bool} {fuel : Nat} {cs : List Value} {x : DataW H × List MemPlace} (h : DataW.trod enc Try.prog w 0 (fun _ => true) held fuel 38 cs = some x) (hw : ∀ q ∈ x.1.weights Try.prog 38, q ≤ reachBytes) :
    ∃ (r : Pr) (p : Option Addr) (f : Nat), cs = [.int .i64 r.hd, .slice p r.bd.length f, .bool r.rt] ∧ IV (fun b => b < w.heap.size) w r.bd (.slice p r.bd.length f) ∧ r.bd.length ≤ 9223372036854775806 ∧ r.bd.length ≤ f := by
  obtain ⟨xs, n, rfl, hx, hlen', hxl, hf⟩ := DataW.trod_struct Try.underlying38 h
  rw [cells38] at hlen'
  have f0 := hf 0 _ rfl
  have f1 := hf 1 _ rfl
  have f2 := hf 2 _ rfl
  have hxl3 : xs.length = 3 := hxl
  match xs, hxl3 with
  | [y0, y1, y2], _ =>
    have g0 : DataW.trod enc Try.prog w 0 (fun _ => true) held n 3 ((cs.drop 0).take (Try.prog.cellsOf 3)) = some y0 := f0
    have g1 : DataW.trod enc Try.prog w 0 (fun _ => true) held n 31 ((cs.drop 1).take (Try.prog.cellsOf 31)) = some y1 := f1
    have g2 : DataW.trod enc Try.prog w 0 (fun _ => true) held n 4 ((cs.drop 2).take (Try.prog.cellsOf 4)) = some y2 := f2
    rw [cells3, take1 (by omega)] at g0
    rw [cells31, take1 (by omega)] at g1
    rw [cells4, take1 (by omega)] at g2
    have hd : x.1 = .agg [y0.1, y1.1, y2.1] := by rw [hx]; rfl
    have hw1 : ∀ q ∈ y1.1.weights Try.prog 31, q ≤ reachBytes := fun q hq => by
      refine hw q ?_
      rw [hd]
      unfold DataW.weights
      rw [Try.underlying38]
      exact DataW.weights_mem_each (j := 1) (t := 31) (d := y1.1) rfl rfl q hq
    obtain ⟨a, e0, -, -⟩ := DataW.trod_int Try.underlying3 g0
    obtain ⟨l, p, f, e1, h1, h2, h3⟩ := ints_open g1 hw1
    obtain ⟨b, e2, -⟩ := DataW.trod_bool Try.underlying4 g2
    refine ⟨⟨a, l, b⟩, p, f, ?_, by rw [← e1]; exact h1, h2, h3⟩
    match cs, hlen' with
    | [v0, v1, v2], _ =>
      simp at e0 e1 e2
      rw [e0, e1, e2]
open Go.ChangeShapes Go.WideShapes Go.Deep in
theorem prods_open {H : Type} {enc : TypeId × Value → H} {w : World} {held : Bool} {fuel : Nat} {c : Value} {x : DataW H × List MemPlace} (h : DataW.trod enc Try.prog w 0 (fun _ => true) held fuel 22 [c] = some x) (hw : ∀ q ∈ x.1.weights Try.prog 22, q ≤ reachBytes) :
    ∃ (ps : List Pr) (p : Option Addr) (f : Nat), c = .slice p ps.length f ∧ GM (fun b => b < w.heap.size) w ps p ∧ ps.length ≤ f := by
  rcases DataW.trod_slice Try.underlying22 h with ⟨e5, -⟩ | ⟨a, len, cap, elems, rest, n', rfl, e5, hy2, hb, hl, hm', hlen, hel, -, -⟩
  · obtain rfl : c = .slice none 0 0 := by simpa using e5
    exact ⟨[], none, 0, rfl, ⟨fun h => absurd rfl h, fun b h => h, by simp, by simp⟩, by simp⟩
  · obtain rfl : c = .slice (some a) len cap := by simpa using e5
    have hw3 : (elems.length + rest.length) * 40 ≤ reachBytes ∧ ∀ y ∈ elems, ∀ q ∈ y.1.weights Try.prog 38, q ≤ reachBytes := by
      rw [hy2] at hw
      unfold DataW.weights at hw
      rw [Try.underlying22] at hw
      simp only [List.length_map, bytes38] at hw
      refine ⟨hw _ (List.mem_cons_self ..), fun y hy q hq => hw q (List.mem_cons_of_mem _ (List.mem_append_left _ (weightsAll_mem (List.mem_map_of_mem hy) q hq)))⟩
    have hlb : len ≤ 9223372036854775806 := by
      have := reachBytes_lt
      omega
    have each : ∀ i, i < len → ∃ y : Pr × (Option Addr × Nat), IV (fun b => b < w.heap.size) w y.1.bd (.slice y.2.1 y.1.bd.length y.2.2) ∧ y.1.bd.length ≤ 9223372036854775806 ∧ y.1.bd.length ≤ y.2.2 ∧ w.cell? ((a.add (i * 3)).add 0) = some (.int .i64 y.1.hd) ∧ w.cell? ((a.add (i * 3)).add 1) = some (.slice y.2.1 y.1.bd.length y.2.2) ∧ w.cell? ((a.add (i * 3)).add 2) = some (.bool y.1.rt) := fun i hi => by
      have h1 := hel i hi
      rw [List.getElem?_eq_getElem (by omega), cells38] at h1
      obtain ⟨cs', h2, h3⟩ := Option.bind_eq_some_iff.1 h1
      obtain ⟨_, hcl, hcell⟩ := World.cells?_some h2
      have hwi := hw3.2 _ (List.getElem_mem (l := elems) (n := i) (by omega))
      obtain ⟨r, p, f, rfl, hi1, hi2, hi3⟩ := prod_open h3 hwi
      exact ⟨(r, (p, f)), hi1, hi2, hi3, by rw [hcell 0 (by omega)]; rfl, by rw [hcell 1 (by omega)]; rfl, by rw [hcell 2 (by omega)]; rfl⟩
    by_cases h0 : len = 0
    · subst h0
      exact ⟨[], some a, cap, rfl, ⟨fun h => absurd rfl h, fun b h => h, by simp, by simp⟩, by simp⟩
    · have : Inhabited (Pr × (Option Addr × Nat)) := ⟨(⟨0, [], false⟩, (none, 0))⟩
      obtain ⟨q, hq⟩ := choose_lt each
      have hc1 := (hq 0 (by omega)).2.2.2.1
      have hspot : a.spot = none := by
        have := World.cell?_spot hc1
        simpa [Addr.add] using this
      obtain ⟨b, o, sp⟩ := a
      simp only at hspot
      subst hspot
      have hbl := World.block_lt_of_cell? w _ hc1
      have hbl2 : b < w.heap.size := by simpa [Addr.add] using hbl
      have hpl : ((List.range len).map fun i => (q i).1).length = len := by simp
      refine ⟨(List.range len).map fun i => (q i).1, some ⟨b, o, none⟩, cap, by rw [hpl], ⟨fun _ => ⟨b, o, rfl, hbl2, fun i hi => ?_⟩, fun b h => h, by omega, fun s hs => ?_⟩, by rw [hpl]; exact hl⟩
      · have hi' : i < len := by rw [hpl] at hi; exact hi
        have e : ((List.range len).map fun i => (q i).1)[i] = (q i).1 := by simp
        rw [e]
        obtain ⟨h1, _, h2, h3, h4, h5⟩ := hq i hi'
        refine ⟨(q i).2.1, (q i).2.2, ?_, ?_, ?_, h1, h2⟩
        · rw [← h3, add_add, add_plain, show o + (i * 3 + 0) = o + i * 3 by omega]
        · rw [← h4, add_add, add_plain, show o + (i * 3 + 1) = o + i * 3 + 1 by omega]
        · rw [← h5, add_add, add_plain, show o + (i * 3 + 2) = o + i * 3 + 2 by omega]
      · obtain ⟨i, hi, rfl⟩ := List.mem_map.1 hs
        exact (hq i (List.mem_range.1 hi)).2.1
open Go.ChangeShapes Go.WideShapes in
theorem open_gram {H : Type} {enc : TypeId × Value → H} {w : World} {r : Reach} {b0 : Nat} {held : Bool} {v : Value} {d : DataW H} {p : List MemPlace} (hv : Value.okWide Try.prog w r b0 24 v) (h : DataW.Trod enc Try.prog w 0 (fun _ => true) held 24 v d p) (hw : ∀ n ∈ d.weights Try.prog 24, n ≤ reachBytes) :
    ∃ (g : Gr) (q : Option Addr) (c : Nat), v = .agg #[.int .i64 g.t, .int .i64 g.s, .int .i64 g.st, .slice q g.ps.length c] ∧ GM (fun b => b < w.heap.size) w g.ps q ∧ g.ps.length ≤ c := by
  obtain ⟨cs, rfl⟩ : ∃ cs, v = .agg cs := by
    have := hv
    simp [Value.okWide, Try.underlying24] at this
    obtain ⟨cs, h1, _⟩ := this
    exact ⟨cs, h1⟩
  obtain ⟨fuel, hf⟩ := h
  obtain ⟨xs, n, rfl, hx, hlen', hxl, hf⟩ := DataW.trod_struct Try.underlying24 hf
  rw [cells24] at hlen'
  have e : (Value.agg cs).cells.toList = cs.toList := by simp [Value.cells]
  rw [e] at hlen' hf
  have f0 := hf 0 _ rfl
  have f1 := hf 1 _ rfl
  have f2 := hf 2 _ rfl
  have f3 := hf 3 _ rfl
  have hxl3 : xs.length = 4 := hxl
  match xs, hxl3 with
  | [y0, y1, y2, y3], _ =>
    have g0 : DataW.trod enc Try.prog w 0 (fun _ => true) held n 3 ((cs.toList.drop 0).take (Try.prog.cellsOf 3)) = some y0 := f0
    have g1 : DataW.trod enc Try.prog w 0 (fun _ => true) held n 3 ((cs.toList.drop 1).take (Try.prog.cellsOf 3)) = some y1 := f1
    have g2 : DataW.trod enc Try.prog w 0 (fun _ => true) held n 3 ((cs.toList.drop 2).take (Try.prog.cellsOf 3)) = some y2 := f2
    have g3 : DataW.trod enc Try.prog w 0 (fun _ => true) held n 22 ((cs.toList.drop 3).take (Try.prog.cellsOf 22)) = some y3 := f3
    rw [cells3, take1 (by omega)] at g0
    rw [cells3, take1 (by omega)] at g1
    rw [cells3, take1 (by omega)] at g2
    rw [cells22, take1 (by omega)] at g3
    have hd : d = .agg [y0.1, y1.1, y2.1, y3.1] := by simpa using (Prod.mk.inj hx).1
    have hw3 : ∀ q ∈ y3.1.weights Try.prog 22, q ≤ reachBytes := fun q hq => by
      refine hw q ?_
      rw [hd]
      unfold DataW.weights
      rw [Try.underlying24]
      exact DataW.weights_mem_each (j := 3) (t := 22) (d := y3.1) rfl rfl q hq
    obtain ⟨t, e0, -, -⟩ := DataW.trod_int Try.underlying3 g0
    obtain ⟨s, e1, -, -⟩ := DataW.trod_int Try.underlying3 g1
    obtain ⟨st, e2, -, -⟩ := DataW.trod_int Try.underlying3 g2
    obtain ⟨ps, q, c, e3, h3, h4⟩ := prods_open g3 hw3
    refine ⟨⟨t, s, st, ps⟩, q, c, ?_, h3, h4⟩
    have hsz : cs.size = 4 := by simpa using hlen'
    obtain ⟨l⟩ := cs
    match l, hlen' with
    | [v0, v1, v2, v3], _ =>
      simp at e0 e1 e2 e3
      rw [e0, e1, e2, e3]
open Go.ChangeShapes Go.WideShapes in
theorem open_prod {H : Type} {enc : TypeId × Value → H} {w : World} {r : Reach} {b0 : Nat} {held : Bool} {v : Value} {d : DataW H} {p : List MemPlace} (hv : Value.okWide Try.prog w r b0 38 v) (h : DataW.Trod enc Try.prog w 0 (fun _ => true) held 38 v d p) (hw : ∀ n ∈ d.weights Try.prog 38, n ≤ reachBytes) :
    ∃ (r : Pr) (q : Option Addr) (c : Nat), v = .agg #[.int .i64 r.hd, .slice q r.bd.length c, .bool r.rt] ∧ IV (fun b => b < w.heap.size) w r.bd (.slice q r.bd.length c) ∧ r.bd.length ≤ 9223372036854775806 ∧ r.bd.length ≤ c := by
  obtain ⟨cs, rfl⟩ : ∃ cs, v = .agg cs := by
    have := hv
    simp [Value.okWide, Try.underlying38] at this
    obtain ⟨cs, h1, _⟩ := this
    exact ⟨cs, h1⟩
  obtain ⟨fuel, hf⟩ := h
  have e : (Value.agg cs).cells.toList = cs.toList := by simp [Value.cells]
  rw [e] at hf
  obtain ⟨r, q, c, hcs, h1, h2, h3⟩ := prod_open hf hw
  refine ⟨r, q, c, ?_, h1, h2, h3⟩
  obtain ⟨l⟩ := cs
  simp at hcs
  rw [hcs]
end Go.Proofs.Ytpmkdpjcpimhkaa
