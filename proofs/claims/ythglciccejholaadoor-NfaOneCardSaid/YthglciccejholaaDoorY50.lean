/- Texts of package regs, one behind the other. -/
import Derived.Test.YthglciccejholaaDoorProg
import Derived.Test.YthglciccejholaaDoorY47
import Derived.Test.YthglciccejholaaDoorRG45
import Derived.Test.YthglciccejholaaDoorY29
import Derived.Test.YthglciccejholaaDoorY48
import Derived.Test.YthglciccejholaaDoorN28
import Derived.Test.YthglciccejholaaDoorBg
import Derived.WalkKit
import Derived.BigFrame
import Derived.WalkMore
import Derived.ScopeJumps
import Derived.StillTailTactics
import Derived.Stop.BytesEq
import Derived.WalkLawsBesides
import Derived.WalkSpells
import Derived.Outline
import Derived.Lib.Walk
import Derived.Lib.Hide
import Derived.Lib.Slices
import Derived.Lib.Strings
import Derived.RegionTactic
import Derived.LoopTactic
import Derived.Below
import Derived.IntWalk
import Derived.Deep.QuietTactic
import Derived.BigQuiet
import Derived.Deep.MidRow
import Derived.Maps.AppendAt
import Derived.Laws.Rows
import Derived.Laws.Tables
import Derived.Deep.WholeRow
import Derived.Deep.Cut
import Derived.Deep.CutRange
import Derived.Lib.SliceRun
import Derived.Laws.MakeOwn
import Derived.Deep.RegionLaw
import Derived.Deep.RegionLawGrows
import Derived.Deep.RegionHeld3
import Derived.RegionCalls
import Derived.Deep.RegionWith
import Derived.Deep.Light
import Derived.Laws.CopyOwn
import Derived.Laws.ResultCell
import Derived.Test.YthglciccejholaaDoorN14
import Derived.Deep.SlicePairs
import Derived.Deep.Slices
import Derived.Laws.IdiomArrays
import Derived.OpenShut
import Derived.WideBlind
section
/- Package regs, taken over. -/
namespace Go.Proofs.YthglciccejholaaDoor.R5
set_option linter.unusedSimpArgs false
set_option linter.unusedVariables false
set_option maxRecDepth 100000
open Go.RowKit
/- NfaOne: the walk. -/
open Classical in
theorem accT_one (t : RT) (x : List UInt8) : accT [t] x = if Lt t x then [0] else [] := by
  unfold accT
  by_cases h : Lt t x
  · rw [if_pos h]
    simp [h]
  · rw [if_neg h]
    simp [h]
theorem bs_data (s : ByteArray) : bs s.data.toList = s := by
  obtain ⟨⟨l⟩⟩ := s
  rfl
theorem msz_ok {t : RT} (h : refE [t] = 0) : checkE t = 0 := (refE_iff.1 h).2.1 t (by simp)
/-- What the pattern's answer and the automaton's are. -/
theorem one_math {t : RT} (h : refE [t] = 0) (x : List UInt8) : (accT [t] x = [0] ∧ matB t x = true) ∨ (accT [t] x = [] ∧ matB t x = false) := by
  obtain ⟨hm, hs, _⟩ := checkE_ok (msz_ok h)
  have h1 := matB_ok hm hs x
  have h2 := lt_lg t x hm
  rw [accT_one]
  by_cases h3 : Lt t x
  · left; rw [if_pos h3]; exact ⟨rfl, h1.2 (h2.1 h3)⟩
  · right; rw [if_neg h3]
    refine ⟨rfl, ?_⟩
    cases hb : matB t x with
    | false => rfl
    | true => exact absurd (h2.2 (h1.1 hb)) h3
end Go.Proofs.YthglciccejholaaDoor.R5
end
section
/- Package nfa: an automaton as an argument. -/
namespace Go.Proofs.YthglciccejholaaDoor
set_option linter.unusedSimpArgs false
set_option linter.unusedVariables false
set_option maxRecDepth 100000
open Go.RowKit
/- An automaton that was handed in. -/
open Go.ChangeShapes Go.WideShapes in
theorem weightsAll_mem {H : Type} {P : Program} {e : TypeId} : ∀ {ds : List (DataW H)} {d : DataW H}, d ∈ ds → ∀ n ∈ d.weights P e, n ∈ DataW.weightsAll P e ds
  | a :: ds, d, h, n, hn => by
    rw [DataW.weightsAll]
    rcases List.mem_cons.1 h with rfl | h
    · exact List.mem_append_left _ hn
    · exact List.mem_append_right _ (weightsAll_mem h n hn)
theorem bytes3 : Tryd.prog.bytesOf 3 = 8 := by kernel_rfl
theorem cells3 : Tryd.prog.cellsOf 3 = 1 := by kernel_rfl
theorem bytesTS : Tryd.prog.bytesOf 73 = 72 := by kernel_rfl
theorem cellsTS : Tryd.prog.cellsOf 73 = 7 := by kernel_rfl
theorem cellsSET : Tryd.prog.cellsOf 24 = 4 := by kernel_rfl
theorem cellsTII : Tryd.prog.cellsOf 39 = 1 := by kernel_rfl
theorem cellsTSS : Tryd.prog.cellsOf 31 = 1 := by kernel_rfl
theorem cellsTN : Tryd.prog.cellsOf 33 = 2 := by kernel_rfl
open Go.ChangeShapes Go.WideShapes Go.Deep in
theorem ints_open {H : Type} {enc : TypeId × Value → H} {w : World} {held : Bool} {fuel : Nat} {c : Value} {x : DataW H × List MemPlace} (h : DataW.trod enc Tryd.prog w 0 (fun _ => true) held fuel 39 [c] = some x) (hw : ∀ q ∈ x.1.weights Tryd.prog 39, q ≤ reachBytes) :
    ∃ (l : List Int) (p : Option Addr) (f : Nat), c = .slice p l.length f ∧ IV (fun b => b < w.heap.size) w l c ∧ l.length ≤ 9223372036854775806 := by
  rcases DataW.trod_slice Tryd.underlying39 h with ⟨e5, -⟩ | ⟨a, len, cap, elems, rest, n', rfl, e5, hy2, hb, hl, hm', hlen, hel, -, -⟩
  · obtain rfl : c = .slice none 0 0 := by simpa using e5
    exact ⟨[], none, 0, rfl, IV.nil _ _ _ _, by simp⟩
  · obtain rfl : c = .slice (some a) len cap := by simpa using e5
    have hw3 : (elems.length + rest.length) * 8 ≤ reachBytes := by
      rw [hy2] at hw
      unfold DataW.weights at hw
      rw [Tryd.underlying39] at hw
      simp only [List.length_map, bytes3] at hw
      exact hw _ (List.mem_cons_self ..)
    have hlb : len ≤ 9223372036854775806 := by
      have := reachBytes_lt
      omega
    have each : ∀ i, i < len → ∃ v : Int, w.cell? ((a.add (i * 1)).add 0) = some (.int .i64 v) := fun i hi => by
      have h1 := hel i hi
      rw [List.getElem?_eq_getElem (by omega), cells3] at h1
      obtain ⟨cs', h2, h3⟩ := Option.bind_eq_some_iff.1 h1
      obtain ⟨_, hcl, hcell⟩ := World.cells?_some h2
      match cs', hcl with
      | [c0], _ =>
        obtain ⟨v, e0, -, -⟩ := DataW.trod_int Tryd.underlying3 h3
        obtain rfl : c0 = .int .i64 v := by simpa using e0
        exact ⟨v, by rw [hcell 0 (by omega)]; rfl⟩
    by_cases h0 : len = 0
    · subst h0
      exact ⟨[], some a, cap, rfl, IV.nil _ _ _ _, by simp⟩
    · obtain ⟨q, hq⟩ := choose_lt each
      have hc0 := hq 0 (by omega)
      have hspot : a.spot = none := by
        have := World.cell?_spot hc0
        simpa [Addr.add] using this
      obtain ⟨b, o, sp⟩ := a
      simp only at hspot
      subst hspot
      have hbl := World.block_lt_of_cell? w _ hc0
      have hbl2 : b < w.heap.size := by simpa [Addr.add] using hbl
      have hpl : ((List.range len).map q).length = len := by simp
      refine ⟨(List.range len).map q, some ⟨b, o, none⟩, cap, by rw [hpl], ⟨some ⟨b, o, none⟩, cap, by rw [hpl], fun _ => ⟨b, o, rfl, hbl2, fun i hi => ?_⟩⟩, by omega⟩
      have hi' : i < len := by rw [hpl] at hi; exact hi
      have h1 := hq i hi'
      have e : ((List.range len).map q)[i] = q i := by simp
      rw [e, ← h1, add_add, add_plain]
      rw [show o + (i * 1 + 0) = o + i by omega]
open Go.ChangeShapes Go.WideShapes Go.Deep in
theorem words_open {H : Type} {enc : TypeId × Value → H} {w : World} {base : Nat} {sp : Nat → Bool} {held : Bool} {fuel : Nat} {c0 c1 c2 c3 : Value} {x : DataW H × List MemPlace} (h : DataW.trod enc Tryd.prog w base sp held fuel 24 [c0, c1, c2, c3] = some x) :
    ∃ u : Nat → Int, c0 = .int .u64 (u 0) ∧ c1 = .int .u64 (u 1) ∧ c2 = .int .u64 (u 2) ∧ c3 = .int .u64 (u 3) ∧ ∀ i, 0 ≤ u i ∧ u i ≤ 18446744073709551615 := by
  obtain ⟨y0, y1, y2, y3, m, hx, hy0, hy1, hy2, hy3⟩ := trod_array4 Tryd.underlying24 (by kernel_rfl) h
  obtain ⟨x0, e0, rfl, w0⟩ := DataW.trod_int Tryd.underlying22 hy0
  obtain ⟨x1, e1, rfl, w1⟩ := DataW.trod_int Tryd.underlying22 hy1
  obtain ⟨x2, e2, rfl, w2⟩ := DataW.trod_int Tryd.underlying22 hy2
  obtain ⟨x3, e3, rfl, w3⟩ := DataW.trod_int Tryd.underlying22 hy3
  simp at e0 e1 e2 e3
  subst e0 e1 e2 e3
  have g : ∀ n : Int, (Lit.int .u64 n).wf = true → 0 ≤ n ∧ n ≤ 18446744073709551615 := fun n h => by
    simpa [Lit.wf, IntKind.min, IntKind.max, IntKind.signed, IntKind.bits] using h
  refine ⟨fun i => if i = 0 then x0 else if i = 1 then x1 else if i = 2 then x2 else x3, rfl, rfl, rfl, rfl, fun i => ?_⟩
  simp only
  split
  · exact g _ w0
  · split
    · exact g _ w1
    · split
      · exact g _ w2
      · exact g _ w3
open Go.ChangeShapes Go.WideShapes Go.Deep in
theorem steps_open {H : Type} {enc : TypeId × Value → H} {w : World} {held : Bool} {fuel : Nat} {c : Value} {x : DataW H × List MemPlace} (h : DataW.trod enc Tryd.prog w 0 (fun _ => true) held fuel 31 [c] = some x) (hw : ∀ q ∈ x.1.weights Tryd.prog 31, q ≤ reachBytes) :
    ∃ (ss : List Nst) (p : Option Addr) (f : Nat), c = .slice p ss.length f ∧ SV (fun b => b < w.heap.size) w ss c ∧ ss.length ≤ 9223372036854775806 ∧ ∀ s ∈ ss, s.fr.length ≤ 9223372036854775806 ∧ okW s.u := by
  rcases DataW.trod_slice Tryd.underlying31 h with ⟨e5, -⟩ | ⟨a, len, cap, elems, rest, n', rfl, e5, hy2, hb, hl, hm', hlen, hel, -, -⟩
  · obtain rfl : c = .slice none 0 0 := by simpa using e5
    exact ⟨[], none, 0, rfl, ⟨none, 0, rfl, fun h => absurd rfl h⟩, by simp, by simp⟩
  · obtain rfl : c = .slice (some a) len cap := by simpa using e5
    have hw3 : (elems.length + rest.length) * 72 ≤ reachBytes ∧ ∀ y ∈ elems, ∀ q ∈ y.1.weights Tryd.prog 73, q ≤ reachBytes := by
      rw [hy2] at hw
      unfold DataW.weights at hw
      rw [Tryd.underlying31] at hw
      simp only [List.length_map, bytesTS] at hw
      refine ⟨hw _ (List.mem_cons_self ..), fun y hy q hq => hw q (List.mem_cons_of_mem _ (List.mem_append_left _ (weightsAll_mem (List.mem_map_of_mem hy) q hq)))⟩
    have hlb : len ≤ 9223372036854775806 := by
      have := reachBytes_lt
      omega
    have each : ∀ i, i < len → ∃ y : Nst × (Option Addr × Nat), IV (fun b => b < w.heap.size) w y.1.fr (.slice y.2.1 y.1.fr.length y.2.2) ∧ y.1.fr.length ≤ 9223372036854775806 ∧ okW y.1.u ∧ ∀ j, j < 7 → w.cell? ((a.add (i * 7)).add j) = (stC y.1.u y.1.to (.slice y.2.1 y.1.fr.length y.2.2) y.1.rl)[j]? := fun i hi => by
      have h1 := hel i hi
      rw [List.getElem?_eq_getElem (by omega), cellsTS] at h1
      obtain ⟨cs', h2, h3⟩ := Option.bind_eq_some_iff.1 h1
      obtain ⟨_, hcl, hcell⟩ := World.cells?_some h2
      have hwi := hw3.2 _ (List.getElem_mem (l := elems) (n := i) (by omega))
      obtain ⟨c0, c1, c2, c3, c4, c5, c6, rfl⟩ : ∃ c0 c1 c2 c3 c4 c5 c6, cs' = [c0, c1, c2, c3, c4, c5, c6] := by
        match cs', hcl with
        | [c0, c1, c2, c3, c4, c5, c6], _ => exact ⟨_, _, _, _, _, _, _, rfl⟩
      obtain ⟨xs, n, rfl, hx, hlen', hxl, hf⟩ := DataW.trod_struct Tryd.underlying73 h3
      · skip
        have f0 := hf 0 _ rfl
        have f1 := hf 1 _ rfl
        have f2 := hf 2 _ rfl
        have f3 := hf 3 _ rfl
        have hxl3 : xs.length = 4 := hxl
        match xs, hxl3 with
        | [y0, y1, y2, y3], _ =>
          have g0 : DataW.trod enc Tryd.prog w 0 (fun _ => true) held n 24 [c0, c1, c2, c3] = some y0 := f0
          have g1 : DataW.trod enc Tryd.prog w 0 (fun _ => true) held n 3 [c4] = some y1 := f1
          have g2 : DataW.trod enc Tryd.prog w 0 (fun _ => true) held n 39 [c5] = some y2 := f2
          have g3 : DataW.trod enc Tryd.prog w 0 (fun _ => true) held n 3 [c6] = some y3 := f3
          obtain ⟨u, rfl, rfl, rfl, rfl, hu⟩ := words_open g0
          obtain ⟨tg, e1, -, -⟩ := DataW.trod_int Tryd.underlying3 g1
          obtain rfl : c4 = .int .i64 tg := by simpa using e1
          obtain ⟨rl, e3, -, -⟩ := DataW.trod_int Tryd.underlying3 g3
          obtain rfl : c6 = .int .i64 rl := by simpa using e3
          have hd : (elems[i]).1 = .agg [y0.1, y1.1, y2.1, y3.1] := by
            have := (Prod.mk.inj hx).1
            simpa using this
          have hw2 : ∀ q ∈ y2.1.weights Tryd.prog 39, q ≤ reachBytes := fun q hq => by
            refine hwi q ?_
            rw [hd]
            unfold DataW.weights
            rw [Tryd.underlying73]
            exact DataW.weights_mem_each (j := 2) (t := 39) (d := y2.1) rfl rfl q hq
          obtain ⟨l, p, f, rfl, hl1, hl2⟩ := ints_open g2 hw2
          refine ⟨(⟨u, tg, l, rl⟩, (p, f)), hl1, hl2, hu, fun j hj => ?_⟩
          rw [hcell j hj]
          rcases (by omega : j = 0 ∨ j = 1 ∨ j = 2 ∨ j = 3 ∨ j = 4 ∨ j = 5 ∨ j = 6) with rfl | rfl | rfl | rfl | rfl | rfl | rfl <;> rfl
    by_cases h0 : len = 0
    · subst h0
      exact ⟨[], some a, cap, rfl, ⟨some a, cap, rfl, fun h => absurd rfl h⟩, by simp, by simp⟩
    · have : Inhabited (Nst × (Option Addr × Nat)) := ⟨(⟨fun _ => 0, 0, [], 0⟩, (none, 0))⟩
      obtain ⟨q, hq⟩ := choose_lt each
      have hc0 := (hq 0 (by omega)).2.2.2 0 (by omega)
      have hc1 : w.cell? ((a.add (0 * 7)).add 0) = some (.int .u64 ((q 0).1.u 0)) := hc0
      have hspot : a.spot = none := by
        have := World.cell?_spot hc1
        simpa [Addr.add] using this
      obtain ⟨b, o, sp⟩ := a
      simp only at hspot
      subst hspot
      have hbl := World.block_lt_of_cell? w _ hc1
      have hbl2 : b < w.heap.size := by simpa [Addr.add] using hbl
      have hpl : ((List.range len).map fun i => (q i).1).length = len := by simp
      refine ⟨(List.range len).map fun i => (q i).1, some ⟨b, o, none⟩, cap, by rw [hpl], ⟨some ⟨b, o, none⟩, cap, by rw [hpl], fun _ => ⟨b, o, rfl, hbl2, fun i hi => ?_⟩⟩, by omega, fun s hs => ?_⟩
      · have hi' : i < len := by rw [hpl] at hi; exact hi
        have e : ((List.range len).map fun i => (q i).1)[i] = (q i).1 := by simp
        rw [e]
        obtain ⟨h1, _, _, h2⟩ := hq i hi'
        refine ⟨(q i).2.1, (q i).2.2, h1, fun j y hy => ?_⟩
        have hj : j < 7 := (Array.getElem?_eq_some_iff.1 hy).1
        have h3 := h2 j hj
        rw [← hy, ← h3, add_add, add_plain]
        rw [show o + (i * 7 + j) = o + i * 7 + j by omega]
      · obtain ⟨i, hi, rfl⟩ := List.mem_map.1 hs
        have := hq i (List.mem_range.1 hi)
        exact ⟨this.2.1, this.2.2.1⟩
open Go.ChangeShapes Go.WideShapes in
theorem open_nfa {H : Type} {enc : TypeId × Value → H} {w : World} {r : Reach} {b0 : Nat} {held : Bool} {v : Value} {d : DataW H} {p : List MemPlace} (hv : Value.okWide Tryd.prog w r b0 33 v) (h : DataW.Trod enc Tryd.prog w 0 (fun _ => true) held 33 v d p) (hw : ∀ n ∈ d.weights Tryd.prog 33, n ≤ reachBytes) :
    ∃ (st : Int) (ss : List Nst) (q : Option Addr) (c : Nat), v = .agg #[.int .i64 st, .slice q ss.length c] ∧ SV (fun b => b < w.heap.size) w ss (.slice q ss.length c) ∧ ss.length ≤ 9223372036854775806 ∧ (-9223372036854775808 ≤ st ∧ st ≤ 9223372036854775807) ∧ ∀ s ∈ ss, s.fr.length ≤ 9223372036854775806 ∧ okW s.u := by
  obtain ⟨cs, rfl⟩ : ∃ cs, v = .agg cs := by
    have := hv
    simp [Value.okWide, Tryd.underlying33] at this
    obtain ⟨cs, h1, _⟩ := this
    exact ⟨cs, h1⟩
  obtain ⟨fuel, hf⟩ := h
  obtain ⟨xs, n, rfl, hx, hlen', hxl, hf⟩ := DataW.trod_struct Tryd.underlying33 hf
  rw [cellsTN] at hlen'
  have e : (Value.agg cs).cells.toList = cs.toList := by simp [Value.cells]
  rw [e] at hlen' hf
  obtain ⟨cl⟩ := cs
  simp only at hlen' hf
  match cl, hlen' with
  | [c0, c1], _ =>
    have f0 := hf 0 _ rfl
    have f1 := hf 1 _ rfl
    have hxl3 : xs.length = 2 := hxl
    match xs, hxl3 with
    | [y0, y1], _ =>
      have g0 : DataW.trod enc Tryd.prog w 0 (fun _ => true) held n 3 [c0] = some y0 := f0
      have g1 : DataW.trod enc Tryd.prog w 0 (fun _ => true) held n 31 [c1] = some y1 := f1
      obtain ⟨st, e0, -, hst⟩ := DataW.trod_int Tryd.underlying3 g0
      obtain rfl : c0 = .int .i64 st := by simpa using e0
      have hd : d = .agg [y0.1, y1.1] := by simpa using (Prod.mk.inj hx).1
      have hw2 : ∀ q ∈ y1.1.weights Tryd.prog 31, q ≤ reachBytes := fun q hq => by
        refine hw q ?_
        rw [hd]
        unfold DataW.weights
        rw [Tryd.underlying33]
        exact DataW.weights_mem_each (j := 1) (t := 31) (d := y1.1) rfl rfl q hq
      obtain ⟨ss, q, c, rfl, h1, h2, h3⟩ := steps_open g1 hw2
      have hst' : -9223372036854775808 ≤ st ∧ st ≤ 9223372036854775807 := by simpa [Lit.wf, IntKind.min, IntKind.max, IntKind.signed, IntKind.bits] using hst
      exact ⟨st, ss, q, c, rfl, h1, h2, hst', h3⟩
end Go.Proofs.YthglciccejholaaDoor
end
