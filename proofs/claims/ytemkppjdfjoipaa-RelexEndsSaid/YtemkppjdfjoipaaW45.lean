/- Texts of package regs, one behind the other. -/
import Derived.Test.YtemkppjdfjoipaaProg
import Derived.Test.YtemkppjdfjoipaaYk
import Derived.Deep.SlicePairs
import Derived.Deep.Slices
import Derived.Laws.IdiomArrays
import Derived.OpenShut
import Derived.WideBlind
import Derived.Great.BuildSlice
import Derived.WalkKit
import Derived.Maps.OwnSet
import Derived.Maps.OwnOps
import Derived.Maps.Own
import Derived.DeepKeys5
import Derived.BigFrame
import Derived.WalkMore
import Derived.ScopeJumps
import Derived.StillTailTactics
import Derived.Stop.BytesEq
import Derived.WalkLawsBesides
import Derived.WalkSpells
import Derived.Outline
import Derived.Lib.Walk
import Derived.Lib.Hide
import Derived.Lib.Slices
import Derived.Lib.Strings
import Derived.RegionTactic
import Derived.LoopTactic
import Derived.Below
import Derived.IntWalk
import Derived.Deep.QuietTactic
import Derived.BigQuiet
import Derived.Deep.MidRow
import Derived.Maps.AppendAt
import Derived.Laws.Rows
import Derived.Laws.Tables
import Derived.Deep.WholeRow
import Derived.Deep.Cut
import Derived.Deep.CutRange
import Derived.Lib.SliceRun
import Derived.Laws.MakeOwn
import Derived.Deep.RegionLaw
import Derived.Deep.RegionLawGrows
import Derived.Deep.RegionHeld3
import Derived.RegionCalls
import Derived.Deep.RegionWith
import Derived.Deep.Light
import Derived.Laws.CopyOwn
import Derived.Laws.ResultCell
import Derived.Test.YtemkppjdfjoipaaW16
section
/- Edit -/
namespace Go.Proofs.Ytemkppjdfjoipaa.I1.X
set_option linter.unusedSimpArgs false
set_option linter.unusedVariables false
set_option maxRecDepth 100000
open Go.RowKit
/- Edit, where nothing is refused. -/
theorem edit_ok {N : Nat} {w : World} {b : Nat} {d : Df} {kl : List Int} {s x t : ByteArray} {st en : Nat} (hsc : ScV N w b d kl s) (hf : Fine d kl s) (hg : Fine d kl t) (hE : Ed.checkZ s.size (st : Nat) (en : Nat) x = 0) (ht : Ed.apS s (st : Nat) (en : Nat) x = t) (he : Ed1 (bl s) (bl t) st en x.size) :
    Calls Try.prog 16 #[.pointer (some ⟨b, 0, none⟩), Ed.ed (st : Nat) (en : Nat) x] w (EdQ w d kl s t st en (st + x.size)) := by
  have hn : N ≤ w.heap.size := by
    obtain ⟨bs, p1, p2, p3, p4, c1, c2, c3, c4, h⟩ := hsc
    exact h.nw
  refine (edit_fr (BB := w.heap.size) (XF := []) hn (Nat.le_refl _) (Sep.start w) hsc hf hg hE ht he).mono ?_
  rintro e w' ⟨bq, bs, q1, q3, q4, e1, e3, e4, bT, bR, cnt, o1, o2, o3, o4, r1, r2, r3, r4, l1, l2, l3, l4, vs, J, rfl, hc, hR⟩
  exact ⟨bq, q1, q3, q4, e1, e3, e4, bT, bR, cnt, rfl, ⟨hR.sc, hc, hR.sp.tl.sub (.cons_cons _ (.cons_cons _ (.cons_cons _ (.cons_cons _ (.cons_cons _ (List.nil_sublist _))))))⟩⟩
end Go.Proofs.Ytemkppjdfjoipaa.I1.X
end
section
/- Packages dfa, mini, munch. -/
namespace Go.Proofs.Ytemkppjdfjoipaa
set_option linter.unusedSimpArgs false
set_option linter.unusedVariables false
set_option maxRecDepth 100000
open Go.RowKit
/- An automaton that was handed in. -/
open Go.ChangeShapes Go.WideShapes in
theorem weightsAll_mem {H : Type} {P : Program} {e : TypeId} : ∀ {ds : List (DataW H)} {d : DataW H}, d ∈ ds → ∀ n ∈ d.weights P e, n ∈ DataW.weightsAll P e ds
  | a :: ds, d, h, n, hn => by
    rw [DataW.weightsAll]
    rcases List.mem_cons.1 h with rfl | h
    · exact List.mem_append_left _ hn
    · exact List.mem_append_right _ (weightsAll_mem h n hn)
theorem bytes3 : Try.prog.bytesOf 3 = 8 := by kernel_rfl
theorem cells3 : Try.prog.cellsOf 3 = 1 := by kernel_rfl
theorem bytes24 : Try.prog.bytesOf 25 = 24 := by kernel_rfl
theorem cells24 : Try.prog.cellsOf 25 = 1 := by kernel_rfl
theorem cells23 : Try.prog.cellsOf 59 = 1 := by kernel_rfl
theorem cells5 : Try.prog.cellsOf 5 = 1 := by kernel_rfl
theorem cells22 : Try.prog.cellsOf 58 = 256 := by kernel_rfl
theorem cells26 : Try.prog.cellsOf 61 = 259 := by kernel_rfl
open Go.ChangeShapes Go.WideShapes Go.Deep in
theorem ints_open {H : Type} {enc : TypeId × Value → H} {w : World} {held : Bool} {fuel : Nat} {c : Value} {x : DataW H × List MemPlace} (h : DataW.trod enc Try.prog w 0 (fun _ => true) held fuel 25 [c] = some x) (hw : ∀ q ∈ x.1.weights Try.prog 25, q ≤ reachBytes) :
    ∃ (l : List Int) (p : Option Addr) (f : Nat), c = .slice p l.length f ∧ IV (fun b => b < w.heap.size) w l c ∧ l.length ≤ 9223372036854775806 := by
  rcases DataW.trod_slice Try.underlying25 h with ⟨e5, -⟩ | ⟨a, len, cap, elems, rest, n', rfl, e5, hy2, hb, hl, hm', hlen, hel, -, -⟩
  · obtain rfl : c = .slice none 0 0 := by simpa using e5
    exact ⟨[], none, 0, rfl, IV.nil _ _ _ _, by simp⟩
  · obtain rfl : c = .slice (some a) len cap := by simpa using e5
    have hw3 : (elems.length + rest.length) * 8 ≤ reachBytes := by
      rw [hy2] at hw
      unfold DataW.weights at hw
      rw [Try.underlying25] at hw
      simp only [List.length_map, bytes3] at hw
      exact hw _ (List.mem_cons_self ..)
    have hlb : len ≤ 9223372036854775806 := by
      have := reachBytes_lt
      omega
    have each : ∀ i, i < len → ∃ v : Int, w.cell? ((a.add (i * 1)).add 0) = some (.int .i64 v) := fun i hi => by
      have h1 := hel i hi
      rw [List.getElem?_eq_getElem (by omega), cells3] at h1
      obtain ⟨cs', h2, h3⟩ := Option.bind_eq_some_iff.1 h1
      obtain ⟨_, hcl, hcell⟩ := World.cells?_some h2
      match cs', hcl with
      | [c0], _ =>
        obtain ⟨v, e0, -, -⟩ := DataW.trod_int Try.underlying3 h3
        obtain rfl : c0 = .int .i64 v := by simpa using e0
        exact ⟨v, by rw [hcell 0 (by omega)]; rfl⟩
    by_cases h0 : len = 0
    · subst h0
      exact ⟨[], some a, cap, rfl, IV.nil _ _ _ _, by simp⟩
    · obtain ⟨q, hq⟩ := choose_lt each
      have hc0 := hq 0 (by omega)
      have hspot : a.spot = none := by
        have := World.cell?_spot hc0
        simpa [Addr.add] using this
      obtain ⟨b, o, sp⟩ := a
      simp only at hspot
      subst hspot
      have hbl := World.block_lt_of_cell? w _ hc0
      have hbl2 : b < w.heap.size := by simpa [Addr.add] using hbl
      have hpl : ((List.range len).map q).length = len := by simp
      refine ⟨(List.range len).map q, some ⟨b, o, none⟩, cap, by rw [hpl], ⟨some ⟨b, o, none⟩, cap, by rw [hpl], fun _ => ⟨b, o, rfl, hbl2, fun i hi => ?_⟩⟩, by omega⟩
      have hi' : i < len := by rw [hpl] at hi; exact hi
      have h1 := hq i hi'
      have e : ((List.range len).map q)[i] = q i := by simp
      rw [e, ← h1, add_add, add_plain]
      rw [show o + (i * 1 + 0) = o + i by omega]
open Go.ChangeShapes Go.WideShapes Go.Deep in
theorem rows_open {H : Type} {enc : TypeId × Value → H} {w : World} {held : Bool} {fuel : Nat} {c : Value} {x : DataW H × List MemPlace} (h : DataW.trod enc Try.prog w 0 (fun _ => true) held fuel 59 [c] = some x) (hw : ∀ q ∈ x.1.weights Try.prog 59, q ≤ reachBytes) :
    ∃ (ls : List (List Int)) (p : Option Addr) (f : Nat), c = .slice p ls.length f ∧ NV (fun b => b < w.heap.size) w ls c ∧ ls.length ≤ 9223372036854775806 ∧ ∀ s ∈ ls, s.length ≤ 9223372036854775806 := by
  rcases DataW.trod_slice Try.underlying59 h with ⟨e5, -⟩ | ⟨a, len, cap, elems, rest, n', rfl, e5, hy2, hb, hl, hm', hlen, hel, -, -⟩
  · obtain rfl : c = .slice none 0 0 := by simpa using e5
    exact ⟨[], none, 0, rfl, ⟨none, 0, rfl, fun h => absurd rfl h⟩, by simp, by simp⟩
  · obtain rfl : c = .slice (some a) len cap := by simpa using e5
    have hw3 : (elems.length + rest.length) * 24 ≤ reachBytes ∧ ∀ y ∈ elems, ∀ q ∈ y.1.weights Try.prog 25, q ≤ reachBytes := by
      rw [hy2] at hw
      unfold DataW.weights at hw
      rw [Try.underlying59] at hw
      simp only [List.length_map, bytes24] at hw
      refine ⟨hw _ (List.mem_cons_self ..), fun y hy q hq => hw q (List.mem_cons_of_mem _ (List.mem_append_left _ (weightsAll_mem (List.mem_map_of_mem hy) q hq)))⟩
    have hlb : len ≤ 9223372036854775806 := by
      have := reachBytes_lt
      omega
    have each : ∀ i, i < len → ∃ y : List Int × (Option Addr × Nat), IV (fun b => b < w.heap.size) w y.1 (.slice y.2.1 y.1.length y.2.2) ∧ y.1.length ≤ 9223372036854775806 ∧ w.cell? ((a.add (i * 1)).add 0) = some (.slice y.2.1 y.1.length y.2.2) := fun i hi => by
      have h1 := hel i hi
      rw [List.getElem?_eq_getElem (by omega), cells24] at h1
      obtain ⟨cs', h2, h3⟩ := Option.bind_eq_some_iff.1 h1
      obtain ⟨_, hcl, hcell⟩ := World.cells?_some h2
      have hwi := hw3.2 _ (List.getElem_mem (l := elems) (n := i) (by omega))
      obtain ⟨c0, rfl⟩ : ∃ c0, cs' = [c0] := by
        match cs', hcl with
        | [c0], _ => exact ⟨_, rfl⟩
      obtain ⟨l, p, f, rfl, hl1, hl2⟩ := ints_open h3 hwi
      exact ⟨(l, (p, f)), hl1, hl2, by rw [hcell 0 (by omega)]; rfl⟩
    by_cases h0 : len = 0
    · subst h0
      exact ⟨[], some a, cap, rfl, ⟨some a, cap, rfl, fun h => absurd rfl h⟩, by simp, by simp⟩
    · have : Inhabited (List Int × (Option Addr × Nat)) := ⟨([], (none, 0))⟩
      obtain ⟨q, hq⟩ := choose_lt each
      have hc1 := (hq 0 (by omega)).2.2
      have hspot : a.spot = none := by
        have := World.cell?_spot hc1
        simpa [Addr.add] using this
      obtain ⟨b, o, sp⟩ := a
      simp only at hspot
      subst hspot
      have hbl := World.block_lt_of_cell? w _ hc1
      have hbl2 : b < w.heap.size := by simpa [Addr.add] using hbl
      have hpl : ((List.range len).map fun i => (q i).1).length = len := by simp
      refine ⟨(List.range len).map fun i => (q i).1, some ⟨b, o, none⟩, cap, by rw [hpl], ⟨some ⟨b, o, none⟩, cap, by rw [hpl], fun _ => ⟨b, o, rfl, hbl2, fun i hi => ?_⟩⟩, by omega, fun s hs => ?_⟩
      · have hi' : i < len := by rw [hpl] at hi; exact hi
        have e : ((List.range len).map fun i => (q i).1)[i] = (q i).1 := by simp
        rw [e]
        obtain ⟨h1, _, h2⟩ := hq i hi'
        refine ⟨(q i).2.1, (q i).2.2, h1, ?_⟩
        rw [← h2, add_add, add_plain]
        rw [show o + (i * 1 + 0) = o + i by omega]
      · obtain ⟨i, hi, rfl⟩ := List.mem_map.1 hs
        exact (hq i (List.mem_range.1 hi)).2.1
theorem take1 {α : Type} {l : List α} {o : Nat} (h : o < l.length) : (l.drop o).take 1 = [l[o]] := by
  rw [List.drop_eq_getElem_cons h]; rfl
open Go.ChangeShapes Go.WideShapes Go.Deep in
theorem class_open {H : Type} {enc : TypeId × Value → H} {w : World} {held : Bool} {fuel : Nat} {cs : List Value} {x : DataW H × List MemPlace} (h : DataW.trod enc Try.prog w 0 (fun _ => true) held fuel 58 cs = some x) :
    cs.length = 256 ∧ ∃ cl : Nat → Nat, ∀ i, i < 256 → cs[i]? = some (.int .u8 (cl i : Nat)) ∧ cl i < 256 := by
  obtain ⟨xs, m, _, ex, hlen, hl, hel⟩ := DataW.trod_array Try.underlying58 h
  rw [cells22] at hlen
  refine ⟨hlen, ?_⟩
  have each : ∀ i, i < 256 → ∃ v : Nat, cs[i]? = some (.int .u8 (v : Nat)) ∧ v < 256 := fun i hi => by
    have h1 := hel i hi
    rw [cells5, Nat.mul_one, take1 (by omega), List.getElem?_eq_getElem (by omega)] at h1
    obtain ⟨v, e0, -, hwf⟩ := DataW.trod_int Try.underlying5 h1
    have e1 : cs[i] = .int .u8 v := by simpa using e0
    have hb : 0 ≤ v ∧ v ≤ 255 := by simpa [Lit.wf, IntKind.min, IntKind.max, IntKind.signed, IntKind.bits] using hwf
    refine ⟨v.toNat, ?_, by omega⟩
    rw [List.getElem?_eq_getElem (by omega), e1, Int.toNat_of_nonneg hb.1]
  obtain ⟨q, hq⟩ := choose_lt each
  exact ⟨q, hq⟩
end Go.Proofs.Ytemkppjdfjoipaa
end
