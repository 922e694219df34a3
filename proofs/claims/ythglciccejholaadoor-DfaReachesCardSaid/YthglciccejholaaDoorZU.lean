/- Texts of package dfa, one behind the other. -/
import Derived.Test.YthglciccejholaaDoorProg
import Derived.Test.YthglciccejholaaDoorN14
import Derived.Deep.SlicePairs
import Derived.Deep.Slices
import Derived.Laws.IdiomArrays
import Derived.OpenShut
import Derived.WideBlind
import Derived.WalkKit
import Derived.WalkLawsBesides
import Derived.WalkSpells
import Derived.Outline
import Derived.Lib.Walk
import Derived.Lib.Hide
import Derived.Lib.Slices
import Derived.Lib.Strings
import Derived.RegionTactic
import Derived.LoopTactic
import Derived.Below
import Derived.IntWalk
import Derived.Deep.QuietTactic
import Derived.BigQuiet
import Derived.Deep.MidRow
import Derived.Maps.AppendAt
import Derived.Laws.Rows
import Derived.Laws.Tables
import Derived.Deep.WholeRow
import Derived.Deep.Cut
import Derived.Deep.CutRange
import Derived.Lib.SliceRun
import Derived.Laws.MakeOwn
import Derived.Test.YthglciccejholaaDoorZ9
import Derived.Test.YthglciccejholaaDoorZ7
import Derived.Test.YthglciccejholaaDoorZ1
import Derived.RangeFuncNested
import Derived.RangeFuncBound
import Derived.RangeFuncCalls
import Derived.RangeFuncLeaves
import Derived.RangeFuncBox
import Derived.Shelf.Abstract
import Derived.Shelf.RegionOpen
import Derived.OwnWalkIn
import Derived.TacticsInMore
import Derived.LoopNIn
import Derived.LoopIn
import Derived.Test.YthglciccejholaaDoorZ45
import Derived.Test.YthglciccejholaaDoorGi
import Derived.Test.YthglciccejholaaDoorZ44
import Derived.Test.YthglciccejholaaDoorZ49
import Derived.Test.YthglciccejholaaDoorZ50
import Derived.Test.YthglciccejholaaDoorZ4
section
/- Package nfa: an automaton as an argument. -/
namespace Go.Proofs.YthglciccejholaaDoor
set_option linter.unusedSimpArgs false
set_option linter.unusedVariables false
set_option maxRecDepth 100000
open Go.RowKit
/- An automaton that was handed in. -/
open Go.ChangeShapes Go.WideShapes in
theorem weightsAll_mem {H : Type} {P : Program} {e : TypeId} : ∀ {ds : List (DataW H)} {d : DataW H}, d ∈ ds → ∀ n ∈ d.weights P e, n ∈ DataW.weightsAll P e ds
  | a :: ds, d, h, n, hn => by
    rw [DataW.weightsAll]
    rcases List.mem_cons.1 h with rfl | h
    · exact List.mem_append_left _ hn
    · exact List.mem_append_right _ (weightsAll_mem h n hn)
theorem bytes3 : Tryd.prog.bytesOf 3 = 8 := by kernel_rfl
theorem cells3 : Tryd.prog.cellsOf 3 = 1 := by kernel_rfl
theorem bytesTS : Tryd.prog.bytesOf 73 = 72 := by kernel_rfl
theorem cellsTS : Tryd.prog.cellsOf 73 = 7 := by kernel_rfl
theorem cellsSET : Tryd.prog.cellsOf 24 = 4 := by kernel_rfl
theorem cellsTII : Tryd.prog.cellsOf 39 = 1 := by kernel_rfl
theorem cellsTSS : Tryd.prog.cellsOf 31 = 1 := by kernel_rfl
theorem cellsTN : Tryd.prog.cellsOf 33 = 2 := by kernel_rfl
open Go.ChangeShapes Go.WideShapes Go.Deep in
theorem ints_open {H : Type} {enc : TypeId × Value → H} {w : World} {held : Bool} {fuel : Nat} {c : Value} {x : DataW H × List MemPlace} (h : DataW.trod enc Tryd.prog w 0 (fun _ => true) held fuel 39 [c] = some x) (hw : ∀ q ∈ x.1.weights Tryd.prog 39, q ≤ reachBytes) :
    ∃ (l : List Int) (p : Option Addr) (f : Nat), c = .slice p l.length f ∧ IV (fun b => b < w.heap.size) w l c ∧ l.length ≤ 9223372036854775806 := by
  rcases DataW.trod_slice Tryd.underlying39 h with ⟨e5, -⟩ | ⟨a, len, cap, elems, rest, n', rfl, e5, hy2, hb, hl, hm', hlen, hel, -, -⟩
  · obtain rfl : c = .slice none 0 0 := by simpa using e5
    exact ⟨[], none, 0, rfl, IV.nil _ _ _ _, by simp⟩
  · obtain rfl : c = .slice (some a) len cap := by simpa using e5
    have hw3 : (elems.length + rest.length) * 8 ≤ reachBytes := by
      rw [hy2] at hw
      unfold DataW.weights at hw
      rw [Tryd.underlying39] at hw
      simp only [List.length_map, bytes3] at hw
      exact hw _ (List.mem_cons_self ..)
    have hlb : len ≤ 9223372036854775806 := by
      have := reachBytes_lt
      omega
    have each : ∀ i, i < len → ∃ v : Int, w.cell? ((a.add (i * 1)).add 0) = some (.int .i64 v) := fun i hi => by
      have h1 := hel i hi
      rw [List.getElem?_eq_getElem (by omega), cells3] at h1
      obtain ⟨cs', h2, h3⟩ := Option.bind_eq_some_iff.1 h1
      obtain ⟨_, hcl, hcell⟩ := World.cells?_some h2
      match cs', hcl with
      | [c0], _ =>
        obtain ⟨v, e0, -, -⟩ := DataW.trod_int Tryd.underlying3 h3
        obtain rfl : c0 = .int .i64 v := by simpa using e0
        exact ⟨v, by rw [hcell 0 (by omega)]; rfl⟩
    by_cases h0 : len = 0
    · subst h0
      exact ⟨[], some a, cap, rfl, IV.nil _ _ _ _, by simp⟩
    · obtain ⟨q, hq⟩ := choose_lt each
      have hc0 := hq 0 (by omega)
      have hspot : a.spot = none := by
        have := World.cell?_spot hc0
        simpa [Addr.add] using this
      obtain ⟨b, o, sp⟩ := a
      simp only at hspot
      subst hspot
      have hbl := World.block_lt_of_cell? w _ hc0
      have hbl2 : b < w.heap.size := by simpa [Addr.add] using hbl
      have hpl : ((List.range len).map q).length = len := by simp
      refine ⟨(List.range len).map q, some ⟨b, o, none⟩, cap, by rw [hpl], ⟨some ⟨b, o, none⟩, cap, by rw [hpl], fun _ => ⟨b, o, rfl, hbl2, fun i hi => ?_⟩⟩, by omega⟩
      have hi' : i < len := by rw [hpl] at hi; exact hi
      have h1 := hq i hi'
      have e : ((List.range len).map q)[i] = q i := by simp
      rw [e, ← h1, add_add, add_plain]
      rw [show o + (i * 1 + 0) = o + i by omega]
open Go.ChangeShapes Go.WideShapes Go.Deep in
theorem words_open {H : Type} {enc : TypeId × Value → H} {w : World} {base : Nat} {sp : Nat → Bool} {held : Bool} {fuel : Nat} {c0 c1 c2 c3 : Value} {x : DataW H × List MemPlace} (h : DataW.trod enc Tryd.prog w base sp held fuel 24 [c0, c1, c2, c3] = some x) :
    ∃ u : Nat → Int, c0 = .int .u64 (u 0) ∧ c1 = .int .u64 (u 1) ∧ c2 = .int .u64 (u 2) ∧ c3 = .int .u64 (u 3) ∧ ∀ i, 0 ≤ u i ∧ u i ≤ 18446744073709551615 := by
  obtain ⟨y0, y1, y2, y3, m, hx, hy0, hy1, hy2, hy3⟩ := trod_array4 Tryd.underlying24 (by kernel_rfl) h
  obtain ⟨x0, e0, rfl, w0⟩ := DataW.trod_int Tryd.underlying22 hy0
  obtain ⟨x1, e1, rfl, w1⟩ := DataW.trod_int Tryd.underlying22 hy1
  obtain ⟨x2, e2, rfl, w2⟩ := DataW.trod_int Tryd.underlying22 hy2
  obtain ⟨x3, e3, rfl, w3⟩ := DataW.trod_int Tryd.underlying22 hy3
  simp at e0 e1 e2 e3
  subst e0 e1 e2 e3
  have g : ∀ n : Int, (Lit.int .u64 n).wf = true → 0 ≤ n ∧ n ≤ 18446744073709551615 := fun n h => by
    simpa [Lit.wf, IntKind.min, IntKind.max, IntKind.signed, IntKind.bits] using h
  refine ⟨fun i => if i = 0 then x0 else if i = 1 then x1 else if i = 2 then x2 else x3, rfl, rfl, rfl, rfl, fun i => ?_⟩
  simp only
  split
  · exact g _ w0
  · split
    · exact g _ w1
    · split
      · exact g _ w2
      · exact g _ w3
open Go.ChangeShapes Go.WideShapes Go.Deep in
theorem steps_open {H : Type} {enc : TypeId × Value → H} {w : World} {held : Bool} {fuel : Nat} {c : Value} {x : DataW H × List MemPlace} (h : DataW.trod enc Tryd.prog w 0 (fun _ => true) held fuel 31 [c] = some x) (hw : ∀ q ∈ x.1.weights Tryd.prog 31, q ≤ reachBytes) :
    ∃ (ss : List Nst) (p : Option Addr) (f : Nat), c = .slice p ss.length f ∧ SV (fun b => b < w.heap.size) w ss c ∧ ss.length ≤ 9223372036854775806 ∧ ∀ s ∈ ss, s.fr.length ≤ 9223372036854775806 ∧ okW s.u := by
  rcases DataW.trod_slice Tryd.underlying31 h with ⟨e5, -⟩ | ⟨a, len, cap, elems, rest, n', rfl, e5, hy2, hb, hl, hm', hlen, hel, -, -⟩
  · obtain rfl : c = .slice none 0 0 := by simpa using e5
    exact ⟨[], none, 0, rfl, ⟨none, 0, rfl, fun h => absurd rfl h⟩, by simp, by simp⟩
  · obtain rfl : c = .slice (some a) len cap := by simpa using e5
    have hw3 : (elems.length + rest.length) * 72 ≤ reachBytes ∧ ∀ y ∈ elems, ∀ q ∈ y.1.weights Tryd.prog 73, q ≤ reachBytes := by
      rw [hy2] at hw
      unfold DataW.weights at hw
      rw [Tryd.underlying31] at hw
      simp only [List.length_map, bytesTS] at hw
      refine ⟨hw _ (List.mem_cons_self ..), fun y hy q hq => hw q (List.mem_cons_of_mem _ (List.mem_append_left _ (weightsAll_mem (List.mem_map_of_mem hy) q hq)))⟩
    have hlb : len ≤ 9223372036854775806 := by
      have := reachBytes_lt
      omega
    have each : ∀ i, i < len → ∃ y : Nst × (Option Addr × Nat), IV (fun b => b < w.heap.size) w y.1.fr (.slice y.2.1 y.1.fr.length y.2.2) ∧ y.1.fr.length ≤ 9223372036854775806 ∧ okW y.1.u ∧ ∀ j, j < 7 → w.cell? ((a.add (i * 7)).add j) = (stC y.1.u y.1.to (.slice y.2.1 y.1.fr.length y.2.2) y.1.rl)[j]? := fun i hi => by
      have h1 := hel i hi
      rw [List.getElem?_eq_getElem (by omega), cellsTS] at h1
      obtain ⟨cs', h2, h3⟩ := Option.bind_eq_some_iff.1 h1
      obtain ⟨_, hcl, hcell⟩ := World.cells?_some h2
      have hwi := hw3.2 _ (List.getElem_mem (l := elems) (n := i) (by omega))
      obtain ⟨c0, c1, c2, c3, c4, c5, c6, rfl⟩ : ∃ c0 c1 c2 c3 c4 c5 c6, cs' = [c0, c1, c2, c3, c4, c5, c6] := by
        match cs', hcl with
        | [c0, c1, c2, c3, c4, c5, c6], _ => exact ⟨_, _, _, _, _, _, _, rfl⟩
      obtain ⟨xs, n, rfl, hx, hlen', hxl, hf⟩ := DataW.trod_struct Tryd.underlying73 h3
      · skip
        have f0 := hf 0 _ rfl
        have f1 := hf 1 _ rfl
        have f2 := hf 2 _ rfl
        have f3 := hf 3 _ rfl
        have hxl3 : xs.length = 4 := hxl
        match xs, hxl3 with
        | [y0, y1, y2, y3], _ =>
          have g0 : DataW.trod enc Tryd.prog w 0 (fun _ => true) held n 24 [c0, c1, c2, c3] = some y0 := f0
          have g1 : DataW.trod enc Tryd.prog w 0 (fun _ => true) held n 3 [c4] = some y1 := f1
          have g2 : DataW.trod enc Tryd.prog w 0 (fun _ => true) held n 39 [c5] = some y2 := f2
          have g3 : DataW.trod enc Tryd.prog w 0 (fun _ => true) held n 3 [c6] = some y3 := f3
          obtain ⟨u, rfl, rfl, rfl, rfl, hu⟩ := words_open g0
          obtain ⟨tg, e1, -, -⟩ := DataW.trod_int Tryd.underlying3 g1
          obtain rfl : c4 = .int .i64 tg := by simpa using e1
          obtain ⟨rl, e3, -, -⟩ := DataW.trod_int Tryd.underlying3 g3
          obtain rfl : c6 = .int .i64 rl := by simpa using e3
          have hd : (elems[i]).1 = .agg [y0.1, y1.1, y2.1, y3.1] := by
            have := (Prod.mk.inj hx).1
            simpa using this
          have hw2 : ∀ q ∈ y2.1.weights Tryd.prog 39, q ≤ reachBytes := fun q hq => by
            refine hwi q ?_
            rw [hd]
            unfold DataW.weights
            rw [Tryd.underlying73]
            exact DataW.weights_mem_each (j := 2) (t := 39) (d := y2.1) rfl rfl q hq
          obtain ⟨l, p, f, rfl, hl1, hl2⟩ := ints_open g2 hw2
          refine ⟨(⟨u, tg, l, rl⟩, (p, f)), hl1, hl2, hu, fun j hj => ?_⟩
          rw [hcell j hj]
          rcases (by omega : j = 0 ∨ j = 1 ∨ j = 2 ∨ j = 3 ∨ j = 4 ∨ j = 5 ∨ j = 6) with rfl | rfl | rfl | rfl | rfl | rfl | rfl <;> rfl
    by_cases h0 : len = 0
    · subst h0
      exact ⟨[], some a, cap, rfl, ⟨some a, cap, rfl, fun h => absurd rfl h⟩, by simp, by simp⟩
    · have : Inhabited (Nst × (Option Addr × Nat)) := ⟨(⟨fun _ => 0, 0, [], 0⟩, (none, 0))⟩
      obtain ⟨q, hq⟩ := choose_lt each
      have hc0 := (hq 0 (by omega)).2.2.2 0 (by omega)
      have hc1 : w.cell? ((a.add (0 * 7)).add 0) = some (.int .u64 ((q 0).1.u 0)) := hc0
      have hspot : a.spot = none := by
        have := World.cell?_spot hc1
        simpa [Addr.add] using this
      obtain ⟨b, o, sp⟩ := a
      simp only at hspot
      subst hspot
      have hbl := World.block_lt_of_cell? w _ hc1
      have hbl2 : b < w.heap.size := by simpa [Addr.add] using hbl
      have hpl : ((List.range len).map fun i => (q i).1).length = len := by simp
      refine ⟨(List.range len).map fun i => (q i).1, some ⟨b, o, none⟩, cap, by rw [hpl], ⟨some ⟨b, o, none⟩, cap, by rw [hpl], fun _ => ⟨b, o, rfl, hbl2, fun i hi => ?_⟩⟩, by omega, fun s hs => ?_⟩
      · have hi' : i < len := by rw [hpl] at hi; exact hi
        have e : ((List.range len).map fun i => (q i).1)[i] = (q i).1 := by simp
        rw [e]
        obtain ⟨h1, _, _, h2⟩ := hq i hi'
        refine ⟨(q i).2.1, (q i).2.2, h1, fun j y hy => ?_⟩
        have hj : j < 7 := (Array.getElem?_eq_some_iff.1 hy).1
        have h3 := h2 j hj
        rw [← hy, ← h3, add_add, add_plain]
        rw [show o + (i * 7 + j) = o + i * 7 + j by omega]
      · obtain ⟨i, hi, rfl⟩ := List.mem_map.1 hs
        have := hq i (List.mem_range.1 hi)
        exact ⟨this.2.1, this.2.2.1⟩
open Go.ChangeShapes Go.WideShapes in
theorem open_nfa {H : Type} {enc : TypeId × Value → H} {w : World} {r : Reach} {b0 : Nat} {held : Bool} {v : Value} {d : DataW H} {p : List MemPlace} (hv : Value.okWide Tryd.prog w r b0 33 v) (h : DataW.Trod enc Tryd.prog w 0 (fun _ => true) held 33 v d p) (hw : ∀ n ∈ d.weights Tryd.prog 33, n ≤ reachBytes) :
    ∃ (st : Int) (ss : List Nst) (q : Option Addr) (c : Nat), v = .agg #[.int .i64 st, .slice q ss.length c] ∧ SV (fun b => b < w.heap.size) w ss (.slice q ss.length c) ∧ ss.length ≤ 9223372036854775806 ∧ (-9223372036854775808 ≤ st ∧ st ≤ 9223372036854775807) ∧ ∀ s ∈ ss, s.fr.length ≤ 9223372036854775806 ∧ okW s.u := by
  obtain ⟨cs, rfl⟩ : ∃ cs, v = .agg cs := by
    have := hv
    simp [Value.okWide, Tryd.underlying33] at this
    obtain ⟨cs, h1, _⟩ := this
    exact ⟨cs, h1⟩
  obtain ⟨fuel, hf⟩ := h
  obtain ⟨xs, n, rfl, hx, hlen', hxl, hf⟩ := DataW.trod_struct Tryd.underlying33 hf
  rw [cellsTN] at hlen'
  have e : (Value.agg cs).cells.toList = cs.toList := by simp [Value.cells]
  rw [e] at hlen' hf
  obtain ⟨cl⟩ := cs
  simp only at hlen' hf
  match cl, hlen' with
  | [c0, c1], _ =>
    have f0 := hf 0 _ rfl
    have f1 := hf 1 _ rfl
    have hxl3 : xs.length = 2 := hxl
    match xs, hxl3 with
    | [y0, y1], _ =>
      have g0 : DataW.trod enc Tryd.prog w 0 (fun _ => true) held n 3 [c0] = some y0 := f0
      have g1 : DataW.trod enc Tryd.prog w 0 (fun _ => true) held n 31 [c1] = some y1 := f1
      obtain ⟨st, e0, -, hst⟩ := DataW.trod_int Tryd.underlying3 g0
      obtain rfl : c0 = .int .i64 st := by simpa using e0
      have hd : d = .agg [y0.1, y1.1] := by simpa using (Prod.mk.inj hx).1
      have hw2 : ∀ q ∈ y1.1.weights Tryd.prog 31, q ≤ reachBytes := fun q hq => by
        refine hw q ?_
        rw [hd]
        unfold DataW.weights
        rw [Tryd.underlying33]
        exact DataW.weights_mem_each (j := 1) (t := 31) (d := y1.1) rfl rfl q hq
      obtain ⟨ss, q, c, rfl, h1, h2, h3⟩ := steps_open g1 hw2
      have hst' : -9223372036854775808 ≤ st ∧ st ≤ 9223372036854775807 := by simpa [Lit.wf, IntKind.min, IntKind.max, IntKind.signed, IntKind.bits] using hst
      exact ⟨st, ss, q, c, rfl, h1, h2, hst', h3⟩
end Go.Proofs.YthglciccejholaaDoor
end
section
/- Package dfa. -/
namespace Go.Proofs.YthglciccejholaaDoor
set_option linter.unusedSimpArgs false
set_option linter.unusedVariables false
set_option maxRecDepth 100000
open Go.RowKit Go.Shelf
/- NfaBig. -/
set_option maxHeartbeats 8000000 in
theorem nbig_any {D : Nat → Prop} {w : World} {st : Int} {ss : List Nst} {q : Option Addr} {c : Nat} (m : Nat) (hm : m ≤ 1000000) (hD : ∀ b, D b → b < w.heap.size) (hSV : SV D w ss (.slice q ss.length c)) (hfl : ∀ s ∈ ss, s.fr.length ≤ 9223372036854775806) (hln : ss.length ≤ 9223372036854775806) :
    Calls Tryd.prog 23 #[nV st q ss.length c, .int .i64 (m : Nat)] w fun e w' => e = .returned (.bool (bigN m ss)) ∧ Below w.heap.size w w' := by
  have HSV := Lib.hid hSV
  have HFL := Lib.hid hfl
  have HD := Lib.hid hD
  have S0 := Lib.hid ((Sb.start w).alloc (.cells #[.int .i64 st, .slice q ss.length c] 33))
  clear hSV hfl hD
  unfold nV bigN
  go_enter Tryd.func23, Tryd.ntmps23
  go_wp2_with fail
  go_loopw [5, 6] (fun a i wr => ∃ j k : Nat, i = .int .i64 (j : Nat) ∧ a = .int .i64 (k : Nat) ∧ j ≤ ss.length ∧ Hid (k = ss.length + capF m (ss.take j)) ∧ k ≤ 9223372036854775806 ∧ Hid (Sb w wr [(w.heap.size, .cells #[.int .i64 st, .slice q ss.length c] 33)])) (fun _ i _ => ss.length - (intOf i).toNat)
  case atStart => exact ⟨0, ss.length, rfl, rfl, by omega, Lib.hid (by simp [capF]), hln, S0⟩
  case round =>
    clear S0
    obtain ⟨j, k, rfl, rfl, hj, HK, hkb, HS⟩ := hrel
    obtain ⟨wo, rfl⟩ : ∃ wo : World, wo = wr := ⟨_, rfl⟩
    have cq : wo.cell? ⟨w.heap.size, 1, none⟩ = some (.slice q ss.length c) := HS.out.cell 1
    by_cases hgo : j < ss.length ∧ k ≤ m
    · obtain ⟨hlt, hkm⟩ := hgo
      obtain ⟨q', c', he, hSV⟩ := HSV.out
      cases he
      obtain ⟨bb, o, rfl, hDb, hx⟩ := hSV (by intro e; subst e; simp at hlt)
      obtain ⟨qf, f, hiv, hcell⟩ := hx j hlt
      have hbw := HD.out bb hDb
      have ce : ∀ i y, (stC (ss[j]).u (ss[j]).to (.slice qf (ss[j]).fr.length f) (ss[j]).rl)[i]? = some y → wo.cell? ⟨bb, o + j * 7 + i, none⟩ = some y := fun i y hy => (cell_same (HS.out.1.block bb hbw) _).trans (hcell i y hy)
      have hf1 := capF_take m ss j hlt
      have hfl := HFL.out ss[j] (List.getElem_mem hlt)
      have d5 : wo.cell? ⟨bb, o + j * 7 + 5, none⟩ = some (.slice qf (ss[j]).fr.length f) := ce 5 _ rfl
      generalize (ss[j]).fr = fr at *
      generalize fr.length = frl at *
      have hk2 := HK.out
      have HK2 : Hid (k + min frl (m + 1) = ss.length + capF m (ss.take (j + 1))) := Lib.hid (by rw [hf1]; omega)
      have hltI : (j : Int) < (ss.length : Int) := by omega
      have hjI : ¬ (j : Int) < 0 := by omega
      have hkI : (k : Int) ≤ (m : Int) := by omega
      have HS2 : Hid (Sb w wo [(w.heap.size, .cells #[.int .i64 st, .slice (some ⟨bb, o, none⟩) ss.length c] 33)]) := HS
      clear hx hSV hcell hiv ce hf1 hk2 HK HS
      go_wp2_with fail
      go_roundw
      case rel => exact ⟨j + 1, k + min frl (m + 1), by go_num, vint6 (by omega), by omega, HK2, by omega, HS2⟩
      case measure => simp [intOf]; omega
    · have hr : decide (m < ss.length + capF m ss) = decide (m < k) := by
        rw [decide_eq_decide, HK.out]
        have h1 := capF_take_le m ss j
        by_cases hlt : j < ss.length
        · have : ¬ k ≤ m := fun h => hgo ⟨hlt, h⟩
          have := HK.out
          omega
        · rw [List.take_of_length_le (by omega)]
      have HRES := Lib.hid hr
      clear hr
      by_cases hlt : j < ss.length
      · have hkm : m < k := by
          by_cases h : k ≤ m
          · exact absurd ⟨hlt, h⟩ hgo
          · omega
        have hltI : (j : Int) < (ss.length : Int) := by omega
        have hkI : ¬ (k : Int) ≤ (m : Int) := by omega
        have hkI2 : (m : Int) < (k : Int) := by omega
        clear hgo HK
        go_wp2_with fail
        go_ret
        exact ⟨vbool6 (by rw [HRES.out]; simp [hkm]), HS.out.1⟩
      · have hltI : ¬ (j : Int) < (ss.length : Int) := by omega
        clear hgo HK
        by_cases hkm : m < k
        · have hkI2 : (m : Int) < (k : Int) := by omega
          go_wp2_with fail
          go_ret
          exact ⟨vbool6 (by rw [HRES.out]; simp [hkm]), HS.out.1⟩
        · have hkI2 : ¬ (m : Int) < (k : Int) := by omega
          go_wp2_with fail
          go_ret
          exact ⟨vbool6 (by rw [HRES.out]; simp; omega), HS.out.1⟩
end Go.Proofs.YthglciccejholaaDoor
end
section
/- Package dfa. -/
namespace Go.Proofs.YthglciccejholaaDoor
set_option linter.unusedSimpArgs false
set_option linter.unusedVariables false
set_option maxRecDepth 100000
open Go.RowKit Go.Shelf
/- What the sets mean. -/
open Go.Maps
theorem idx_get {κ : Type} [DecidableEq κ] {L : List κ} {x : κ} (h : x ∈ L) : L[idx L x]? = some x := by
  have hlt := idx_lt h
  have h1 : L[idx L x]'hlt = x := by unfold idx; exact List.getElem_idxOf _
  rw [List.getElem?_eq_getElem hlt, h1]
theorem byF_to {ss : List Nst} {c x : Nat} : byF ss c x = true ↔ toOf hasU ss (UInt8.ofNat c) x = some (toN ss x) := by
  unfold byF toOf toN
  cases ss[x]? with
  | none => simp
  | some s =>
    simp only [Bool.and_eq_true, decide_eq_true_eq]
    constructor
    · intro h; rw [if_pos h]
    · intro h
      split at h
      · rename_i h2; exact h2
      · cases h
theorem to_toN {ss : List Nst} {c x t : Nat} (h : toOf hasU ss (UInt8.ofNat c) x = some t) : t = toN ss x ∧ x < ss.length := by
  unfold toOf toN at *
  cases e : ss[x]? with
  | none => rw [e] at h; cases h
  | some s =>
    rw [e] at h
    simp only at h ⊢
    split at h
    · cases h; exact ⟨rfl, (List.getElem?_eq_some_iff.1 e).1⟩
    · cases h
theorem mem_gl {ss : List Nst} {y : Nat} : ∀ (xs acc : List Nat), y ∈ xs.foldl (fun a x => rch a (toN ss x)) acc ↔ y ∈ acc ∨ ∃ x ∈ xs, y = toN ss x
  | [], acc => by simp
  | x :: xs, acc => by
    rw [List.foldl_cons, mem_gl xs, mem_rch]
    simp only [List.mem_cons, exists_eq_or_imp]
    constructor
    · rintro ((h | h) | h)
      · exact .inl h
      · exact .inr (.inl h)
      · exact .inr (.inr h)
    · rintro (h | h | h)
      · exact .inl (.inl h)
      · exact .inl (.inr h)
      · exact .inr h
theorem inb_fr {ss : List Nst} (h : InB ss) : ∀ s x, x ∈ frOf ss s → x.toNat < ss.length := fun s x hx => by
  have := h s x hx; omega
/-- Where a byte leads from a set. -/
theorem mem_lead {ss : List Nst} (hn : ss.length ≤ 4096) (hi : InB ss) (hto : ∀ s ∈ ss, s.to < ss.length) (l : List Nat) (c y : Nat) : y ∈ leadL ss (mb l) (byF ss c) ↔ ∃ x ∈ l, ∃ t, toOf hasU ss (UInt8.ofNat c) x = some t ∧ Rt ss t y := by
  have hx : ∀ x, x ∈ (List.range 4096).filter (fun x => mb l x && byF ss c x) ↔ x ∈ l ∧ toOf hasU ss (UInt8.ofNat c) x = some (toN ss x) := fun x => by
    rw [List.mem_filter, List.mem_range, Bool.and_eq_true, mb_iff, byF_to]
    constructor
    · exact fun h => h.2
    · intro h
      have := (to_toN h.2).2
      exact ⟨by omega, h⟩
  have h2 := gl_ok (ss := ss) ((List.range 4096).filter fun x => mb l x && byF ss c x) [] .nil (by simp) (fun x hxx => by
    have h3 := ((hx x).1 hxx).2
    have h4 := (to_toN h3).2
    unfold toOf at h3
    unfold toN
    rw [List.getElem?_eq_getElem h4] at h3 ⊢
    simp only at h3 ⊢
    split at h3
    · have := hto _ (List.getElem_mem h4); omega
    · cases h3)
  have h3 := goF_spec ss ss.length (inb_fr hi) (ss.length + 1) 0 _ _ h2.1 h2.2 (by omega) (by omega) (fun b hb => ⟨b, hb, .refl b⟩) (fun a ha => ha) (fun j hj => by omega)
  unfold leadL gl
  rw [h3.2 y]
  constructor
  · rintro ⟨a, ha, hr⟩
    rcases (mem_gl _ _).1 ha with h | ⟨x, h4, rfl⟩
    · cases h
    · obtain ⟨h5, h6⟩ := (hx x).1 h4
      exact ⟨x, h5, _, h6, hr⟩
  · rintro ⟨x, h5, t, h6, hr⟩
    obtain ⟨rfl, -⟩ := to_toN h6
    exact ⟨_, (mem_gl _ _).2 (.inr ⟨x, (hx x).2 ⟨h5, h6⟩, rfl⟩), hr⟩
/-- A row says where a set leads, sort by sort. -/
structure Tr (ss : List Nst) (lv : Nat → Bool) (bys : List (Nat → Bool)) (sets : List (List Nat)) (f : Nat → Bool) (k : Nat) (row : List Int) : Prop where
  ln : row.length = k
  tr : ∀ s (h : s < bys.length), s < k → (nmA lv (leadL ss f bys[s]) = false → row.getD s 0 = -1) ∧ (nmA lv (leadL ss f bys[s]) = true → ∃ (i : Nat) (m : List Nat), sets[i]? = some m ∧ row.getD s 0 = (i : Int) ∧ ∀ x, x < 4096 → (x ∈ m ↔ x ∈ leadL ss f bys[s]))
theorem Tr.app {ss : List Nst} {lv : Nat → Bool} {bys : List (Nat → Bool)} {sets : List (List Nat)} {f : Nat → Bool} {k : Nat} {row : List Int} (h : Tr ss lv bys sets f k row) (t : List (List Nat)) : Tr ss lv bys (sets ++ t) f k row := by
  refine ⟨h.ln, fun s hs hk => ⟨(h.tr s hs hk).1, fun ha => ?_⟩⟩
  obtain ⟨i, m, h1, h2, h3⟩ := (h.tr s hs hk).2 ha
  exact ⟨i, m, by rw [List.getElem?_append_left (List.getElem?_eq_some_iff.1 h1).1]; exact h1, h2, h3⟩
theorem nm_tr (lv : Nat → Bool) (sets : List (List Nat)) (l : List Nat) : (nmA lv l = false → nmR lv sets l = -1) ∧ (nmA lv l = true → ∃ (i : Nat) (m : List Nat), (nmS lv sets l)[i]? = some m ∧ nmR lv sets l = (i : Int) ∧ ∀ x, x < 4096 → (x ∈ m ↔ x ∈ l)) := by
  unfold nmR nmS
  constructor
  · intro h; rw [h]; rfl
  · intro h
    rw [h]
    by_cases hi : nmI sets l = true
    · have h2 : kS (mb l) ∈ sets.map fun l => kS (mb l) := by unfold nmI at hi; exact of_decide_eq_true hi
      have h3 := idx_get h2
      rw [hi]
      rw [List.getElem?_map] at h3
      obtain ⟨m, h4, h5⟩ := Option.map_eq_some_iff.1 h3
      refine ⟨_, m, by simpa using h4, by simp, fun x hx => ?_⟩
      have := kS_iff.1 h5 x hx
      rw [Bool.eq_iff_iff, mb_iff, mb_iff] at this
      exact this
    · have hi2 : nmI sets l = false := by simpa using hi
      rw [hi2]
      exact ⟨sets.length, l, by simp, by simp, fun x _ => Iff.rfl⟩
theorem getD_app1 (l : List Int) (a : Int) (s : Nat) (h : s < l.length) : (l ++ [a]).getD s 0 = l.getD s 0 := by
  simp [List.getD, List.getElem?_append_left h]
theorem getD_app2 (l : List Int) (a : Int) : (l ++ [a]).getD l.length 0 = a := by simp [List.getD]
theorem onF_tr (ss : List Nst) (lv : Nat → Bool) (bys : List (Nat → Bool)) (f : Nat → Bool) (sets : List (List Nat)) : ∀ k, k ≤ bys.length → Tr ss lv bys (onF ss lv bys f k sets).1 f k (onF ss lv bys f k sets).2
  | 0, _ => ⟨rfl, fun s _ h => by omega⟩
  | k + 1, hk => by
    have hkb : k < bys.length := hk
    have ih := onF_tr ss lv bys f sets k (Nat.le_of_lt hkb)
    have hl := onF_len ss lv bys f sets k
    rw [onF, List.getElem?_eq_getElem hkb]
    simp only [Option.getD_some]
    generalize onF ss lv bys f k sets = g at *
    obtain ⟨t, ht, -⟩ := nmS_pre lv g.1 (leadL ss f bys[k])
    have hn := nm_tr lv g.1 (leadL ss f bys[k])
    rw [ht] at hn ⊢
    have ih2 := ih.app t
    refine ⟨by simp [hl], fun s hs hk2 => ?_⟩
    by_cases e : s = k
    · subst e
      have hg := getD_app2 g.2 (nmR lv g.1 (leadL ss f bys[s]))
      rw [hl] at hg
      rw [hg]
      exact hn
    · rw [getD_app1 _ _ _ (by omega)]
      exact ih2.tr s hs (by omega)
/-- What find finds: each set's row, and the first set. -/
theorem fnF_tr (ss : List Nst) (lv : Nat → Bool) (bys : List (Nat → Bool)) : ∀ (q at_ : Nat) (sets : List (List Nat)) (nums : List (List Int)), nums.length = at_ → (∀ (i : Nat) (r : List Int), nums[i]? = some r → ∃ l, sets[i]? = some l ∧ Tr ss lv bys sets (mb l) bys.length r) →
    (∀ (i : Nat) (r : List Int), (fnF ss lv bys q at_ sets nums).2.2[i]? = some r → ∃ l, (fnF ss lv bys q at_ sets nums).2.1[i]? = some l ∧ Tr ss lv bys (fnF ss lv bys q at_ sets nums).2.1 (mb l) bys.length r) ∧ ∃ t, (fnF ss lv bys q at_ sets nums).2.1 = sets ++ t
  | 0, _, sets, _, _, h => ⟨h, [], by simp [fnF]⟩
  | q + 1, at_, sets, nums, hl, h => by
    rw [fnF]
    cases hx : sets[at_]? with
    | none => exact ⟨h, [], by simp⟩
    | some l =>
      simp only
      by_cases hb : 2048 < sets.length
      · rw [if_pos hb]; exact ⟨h, [], by simp⟩
      · rw [if_neg hb]
        obtain ⟨t, ht, -⟩ := onF_pre ss lv bys (mb l) sets bys.length
        have htr := onF_tr ss lv bys (mb l) sets bys.length (Nat.le_refl _)
        generalize onF ss lv bys (mb l) bys.length sets = g at *
        obtain ⟨g1, g2⟩ := g
        simp only at ht htr ⊢
        subst ht
        have ih := fnF_tr ss lv bys q (at_ + 1) (sets ++ t) (nums ++ [g2]) (by simp [hl]) (fun i r hr => by
          by_cases hi : i < nums.length
          · rw [List.getElem?_append_left hi] at hr
            obtain ⟨m, h1, h2⟩ := h i r hr
            exact ⟨m, by rw [List.getElem?_append_left (List.getElem?_eq_some_iff.1 h1).1]; exact h1, h2.app t⟩
          · have hi2 : i = nums.length := by
              have := (List.getElem?_eq_some_iff.1 hr).1
              simp at this; omega
            subst hi2
            simp at hr
            subst hr
            rw [hl]
            exact ⟨l, by rw [List.getElem?_append_left (List.getElem?_eq_some_iff.1 hx).1]; exact hx, htr⟩)
        obtain ⟨h1, u, h2⟩ := ih
        exact ⟨h1, t ++ u, by rw [h2, List.append_assoc]⟩
end Go.Proofs.YthglciccejholaaDoor
end
section
/- Package dfa. -/
namespace Go.Proofs.YthglciccejholaaDoor
set_option linter.unusedSimpArgs false
set_option linter.unusedVariables false
set_option maxRecDepth 100000
open Go.RowKit Go.Shelf
/- The states that are alive. -/
open Go.Maps
theorem push_get (bk : List (List Int)) (j k : Nat) (i : Int) : (bkPush bk j i)[k]?.getD [] = if j = k ∧ j < bk.length then bk[k]?.getD [] ++ [i] else bk[k]?.getD [] := by
  unfold bkPush
  rw [List.getElem?_set]
  by_cases e : j = k
  · subst e
    rw [if_pos rfl]
    by_cases h : j < bk.length
    · rw [if_pos h, if_pos ⟨rfl, h⟩]; rfl
    · rw [if_neg h, if_neg (fun g => h g.2), List.getElem?_eq_none (by omega)]
  · rw [if_neg e, if_neg (fun g => e g.1)]
theorem push_mono {bk : List (List Int)} {j k : Nat} {i x : Int} (h : x ∈ bk[k]?.getD []) : x ∈ (bkPush bk j i)[k]?.getD [] := by
  rw [push_get]; split
  · exact List.mem_append_left _ h
  · exact h
theorem push_new {bk : List (List Int)} {j : Nat} {i : Int} (h : j < bk.length) : i ∈ (bkPush bk j i)[j]?.getD [] := by
  rw [push_get, if_pos ⟨rfl, h⟩]; simp
theorem push_len (bk : List (List Int)) (j : Nat) (i : Int) : (bkPush bk j i).length = bk.length := by unfold bkPush; simp
theorem fr_mono {i k : Nat} {x : Int} : ∀ (fr : List Int) (bk : List (List Int)), x ∈ bk[k]?.getD [] → x ∈ (bkFr bk fr i)[k]?.getD []
  | [], bk, h => h
  | y :: fr, bk, h => fr_mono fr _ (push_mono h)
theorem fr_new {i : Nat} : ∀ (fr : List Int) (bk : List (List Int)) (y : Int), y ∈ fr → y.toNat < bk.length → (i : Int) ∈ (bkFr bk fr i)[y.toNat]?.getD []
  | z :: fr, bk, y, h, hl => by
    rcases List.mem_cons.1 h with rfl | h
    · exact fr_mono fr _ (push_new hl)
    · exact fr_new fr _ y h (by rw [push_len]; exact hl)
theorem to_mono {bk : List (List Int)} {s : Nst} {i k : Nat} {x : Int} (h : x ∈ bk[k]?.getD []) : x ∈ (bkTo bk s i)[k]?.getD [] := by
  unfold bkTo; split
  · exact push_mono h
  · exact h
theorem to_len (bk : List (List Int)) (s : Nst) (i : Nat) : (bkTo bk s i).length = bk.length := by
  unfold bkTo; split
  · exact push_len ..
  · rfl
theorem bkT_in (ss : List Nst) (hi : InB ss) (hto : ∀ s ∈ ss, s.to < ss.length) : ∀ k, k ≤ ss.length → ∀ s (h : s < ss.length), s < k →
    (∀ y ∈ ss[s].fr, (s : Int) ∈ (bkT ss k).1[y.toNat]?.getD []) ∧ (0 ≤ ss[s].to → neU ss[s].u = true → (s : Int) ∈ (bkT ss k).1[ss[s].to.toNat]?.getD []) ∧ (0 ≤ ss[s].rl → s ∈ (bkT ss k).2)
  | 0, _, s, _, h => by omega
  | k + 1, hk, s, hs, h => by
    have hkl : k < ss.length := hk
    have hlen := (bkT_ok ss k (Nat.le_of_lt hkl)).1.len
    rw [bkT, List.getElem?_eq_getElem hkl]
    simp only [Option.getD_some]
    by_cases e : s = k
    · subst e
      refine ⟨fun y hy => fr_new _ _ y hy ?_, fun h1 h2 => fr_mono _ _ ?_, fun h1 => ?_⟩
      · rw [to_len, hlen]
        have := hi s y (by rw [frOf_get hs]; exact hy)
        omega
      · unfold bkTo
        rw [if_pos ⟨h1, h2⟩]
        refine push_new ?_
        rw [hlen]
        have := hto _ (List.getElem_mem hs)
        omega
      · rw [if_pos h1]; exact mem_rch.2 (.inr rfl)
    · obtain ⟨h1, h2, h3⟩ := bkT_in ss hi hto k (Nat.le_of_lt hkl) s hs (by omega)
      refine ⟨fun y hy => fr_mono _ _ (to_mono (h1 y hy)), fun a b => fr_mono _ _ (to_mono (h2 a b)), fun a => ?_⟩
      split
      · exact mem_rch.2 (.inl (h3 a))
      · exact h3 a
theorem frOf_B (bk : List (List Int)) (j : Nat) : frOf (ssB bk) j = bk[j]?.getD [] := by
  unfold frOf ssB
  rw [List.getElem?_map]
  cases bk[j]? with
  | none => rfl
  | some l => rfl
theorem mem_live (ss : List Nst) (x : Nat) : x ∈ liveL ss ↔ ∃ a ∈ (bkT ss ss.length).2, Rt (ssB (bkT ss ss.length).1) a x := by
  obtain ⟨h1, h2, h3⟩ := bkT_ok ss ss.length (Nat.le_refl _)
  unfold liveL
  exact (goF_spec (ssB (bkT ss ss.length).1) ss.length (fun s x hx => by
    rw [frOf_B] at hx
    cases e : (bkT ss ss.length).1[s]? with
    | none => rw [e] at hx; simp at hx
    | some l =>
      rw [e] at hx
      have := (h1.ok l (List.mem_of_getElem? e)).2 x hx
      omega) (ss.length + 1) 0 _ _ h2 h3 (by omega) (by omega) (fun b hb => ⟨b, hb, .refl b⟩) (fun a ha => ha) (fun j hj => by omega)).2 x
theorem hasU_ne {u : Nat → Int} {b : UInt8} (h : hasU u b = true) : neU u = true := by
  unfold neU
  cases hz : zeroU u with
  | false => rfl
  | true =>
    exfalso
    have hb : b.toNat < 256 := b.toNat_lt
    have hq : b.toNat / 64 < 4 := by omega
    unfold zeroU at hz
    unfold hasU at h
    simp only [Bool.and_eq_true, decide_eq_true_eq] at hz
    have : ∀ i, i < 4 → u i = 0 := fun i hi => by
      match i, hi with
      | 0, _ => simp_all
      | 1, _ => simp_all
      | 2, _ => simp_all
      | 3, _ => simp_all
    rw [this _ hq] at h
    simp at h
/-- What leads to something alive is alive. -/
structure LvP (ss : List Nst) : Prop where
  rl : ∀ s (h : s < ss.length), 0 ≤ ss[s].rl → s ∈ liveL ss
  fr : ∀ a b, Rt ss a b → b ∈ liveL ss → a ∈ liveL ss
  wy : ∀ c s t, toOf hasU ss c s = some t → t ∈ liveL ss → s ∈ liveL ss
theorem live_all {ss : List Nst} (hi : InB ss) (hto : ∀ s ∈ ss, s.to < ss.length) : LvP ss := by
  have hin := bkT_in ss hi hto ss.length (Nat.le_refl _)
  refine ⟨fun s hs h => (mem_live ss s).2 ⟨s, (hin s hs hs).2.2 h, .refl s⟩, fun a b h => ?_, fun c s t h ht => ?_⟩
  · induction h with
    | refl => exact id
    | step h1 x hx hc ih =>
      rename_i b0 c0
      intro hb
      refine ih ?_
      obtain ⟨a0, ha, hr⟩ := (mem_live ss _).1 hb
      have hb0 : b0 < ss.length := by
        unfold frOf at hx
        cases e : ss[b0]? with
        | none => rw [e] at hx; cases hx
        | some z => exact (List.getElem?_eq_some_iff.1 e).1
      rw [frOf_get hb0] at hx
      refine (mem_live ss _).2 ⟨a0, ha, .step hr (b0 : Int) ?_ (by simp)⟩
      rw [frOf_B, hc]
      exact (hin b0 hb0 hb0).1 x hx
  · obtain ⟨a0, ha, hr⟩ := (mem_live ss _).1 ht
    unfold toOf at h
    cases e : ss[s]? with
    | none => rw [e] at h; cases h
    | some z =>
      rw [e] at h
      simp only at h
      split at h
      · rename_i h2
        obtain ⟨hs, rfl⟩ := List.getElem?_eq_some_iff.1 e
        cases h
        refine (mem_live ss _).2 ⟨a0, ha, .step hr (s : Int) ?_ (by simp)⟩
        rw [frOf_B]
        exact (hin s hs hs).2.1 h2.1 (hasU_ne h2.2)
      · cases h
end Go.Proofs.YthglciccejholaaDoor
end
section
/- Package dfa. -/
namespace Go.Proofs.YthglciccejholaaDoor
set_option linter.unusedSimpArgs false
set_option linter.unusedVariables false
set_option maxRecDepth 100000
open Go.RowKit Go.Shelf
/- What the automaton tells of a text. -/
open Go.Maps
/-- Where a byte leads, then free ways. -/
def Nx (ss : List Nst) (c : UInt8) (M : Nat → Prop) (x : Nat) : Prop := ∃ s, M s ∧ ∃ t, toOf hasU ss c s = some t ∧ Rt ss t x
def Nxs (ss : List Nst) : List UInt8 → (Nat → Prop) → Nat → Prop
  | [], M => M
  | c :: r, M => Nxs ss r (Nx ss c M)
theorem nxs_acc (ss : List Nst) : ∀ (t : List UInt8) (L : Nat → Prop) (x : Nat), Nxs ss t (fun x => ∃ a, L a ∧ Rt ss a x) x ↔ ∃ a, L a ∧ Acc hasU ss t a x
  | [], L, x => Iff.rfl
  | c :: r, L, x => by
    have e : Nx ss c (fun x => ∃ a, L a ∧ Rt ss a x) = fun x => ∃ u, (∃ s a, L a ∧ Rt ss a s ∧ toOf hasU ss c s = some u) ∧ Rt ss u x := by
      funext y
      apply propext
      constructor
      · rintro ⟨s, ⟨a, h1, h2⟩, t, h3, h4⟩; exact ⟨t, ⟨s, a, h1, h2, h3⟩, h4⟩
      · rintro ⟨t, ⟨s, a, h1, h2, h3⟩, h4⟩; exact ⟨s, ⟨a, h1, h2⟩, t, h3, h4⟩
    show Nxs ss r (Nx ss c fun x => ∃ a, L a ∧ Rt ss a x) x ↔ _
    rw [e, nxs_acc ss r]
    constructor
    · rintro ⟨u, ⟨s, a, h1, h2, h3⟩, h4⟩; exact ⟨a, h1, s, u, h2, h3, h4⟩
    · rintro ⟨a, h1, s, u, h2, h3, h4⟩; exact ⟨u, ⟨s, a, h1, h2, h3⟩, h4⟩
/-- A state stands for a set of states; nowhere, for one of which none is alive. -/
def Rel (ss : List Nst) (S : List (List Nat)) (k : Int) (M : Nat → Prop) : Prop := (k = -1 ∧ ∀ x, M x → ¬ x ∈ liveL ss) ∨ ∃ (i : Nat) (m : List Nat), k = (i : Int) ∧ S[i]? = some m ∧ ∀ x, x < 4096 → (x ∈ m ↔ M x)
theorem byL_so (ss : List Nst) {c : Nat} (hc : c < 256) : ∃ h : soF ss c < (byL ss 256).length, ∀ x, x < 4096 → (byL ss 256)[soF ss c] x = byF ss c x := by
  have hlt : soF ss c < (byL ss 256).length := by rw [byL_len]; exact soF_lt ss hc
  refine ⟨hlt, ?_⟩
  have h1 := idx_get (seen_mem (byK ss) 256 c hc)
  rw [← byL_keys, List.getElem?_map] at h1
  obtain ⟨f, h2, h3⟩ := Option.map_eq_some_iff.1 h1
  have h4 : (byL ss 256)[soF ss c]? = some f := by
    have e : soF ss c = idx ((byL ss 256).map kS) (byK ss c) := by unfold soF; rw [byL_keys]
    rw [e]; exact h2
  obtain ⟨h5, h6⟩ := List.getElem?_eq_some_iff.1 h4
  rw [h6]
  exact kS_iff.1 h3
theorem lead_congr (ss : List Nst) (f : Nat → Bool) {g g' : Nat → Bool} (h : ∀ x, x < 4096 → g x = g' x) : leadL ss f g = leadL ss f g' := by
  have e : (List.range 4096).filter (fun x => f x && g x) = (List.range 4096).filter (fun x => f x && g' x) := List.filter_congr fun x hx => by rw [h x (List.mem_range.1 hx)]
  unfold leadL
  rw [e]
theorem lead_so (ss : List Nst) {c : Nat} (hc : c < 256) (f : Nat → Bool) (h : soF ss c < (byL ss 256).length) : leadL ss f (byL ss 256)[soF ss c] = leadL ss f (byF ss c) := by
  obtain ⟨h1, h2⟩ := byL_so ss hc
  exact lead_congr ss f h2
/-- What is so of what Of found. -/
structure SemP (st : Nat) (ss : List Nst) (S : List (List Nat)) (N : List (List Int)) : Prop where
  ln : N.length = S.length
  le : S.length ≤ 2048
  pos : 0 < S.length
  s0 : ∃ m, S[0]? = some m ∧ ∀ x, x ∈ m ↔ Rt ss st x
  lt : ∀ m ∈ S, ∀ x ∈ m, x < ss.length
  tr : ∀ (i : Nat) (r : List Int), N[i]? = some r → ∃ l, S[i]? = some l ∧ Tr ss (mb (liveL ss)) (byL ss 256) S (mb l) (byL ss 256).length r
  bd : ∀ r ∈ N, r.length = (byL ss 256).length ∧ ∀ x ∈ r, -1 ≤ x ∧ x ≤ S.length
theorem sem_of {st : Nat} {ss : List Nst} {S : List (List Nat)} {N : List (List Int)} (hc : chkN (st : Int) ss = 0) (h : ofF (st : Int) ss = (true, S, N)) : SemP st ss S N := by
  have hs := sop_of hc
  obtain ⟨hn, -, hst, hi, -, -⟩ := chk_facts hc
  have hst' : st < ss.length := by omega
  have e : fnF ss (mb (liveL ss)) (byL ss 256) 2050 0 [goF ss (ss.length + 1) 0 [st]] [] = (true, S, N) := by rw [← h]; unfold ofF; rw [Int.toNat_natCast]
  have hg := goF_spec ss ss.length (inb_fr hi) (ss.length + 1) 0 [st] [st] (by simp) (by simpa using hst') (by omega) (by omega) (fun b hb => ⟨b, hb, .refl b⟩) (fun a ha => ha) (fun j hj => by omega)
  have hP := fnF_fin ss (mb (liveL ss)) (byL ss 256) (fun l => ∀ x ∈ l, x < ss.length) (fun f s h => hs.lead f s h) 2050 0 [goF ss (ss.length + 1) 0 [st]] [] (by omega) (by omega) (by simp) rfl (by simp) ⟨fun l hl => by
    simp only [List.mem_singleton] at hl
    subst hl
    exact goF_ltI hi (by simp) (by simpa using hst'), fun r hr => by simp at hr⟩ (by rw [e])
  have hT := fnF_tr ss (mb (liveL ss)) (byL ss 256) 2050 0 [goF ss (ss.length + 1) 0 [st]] [] rfl (fun i r hr => by simp at hr)
  rw [e] at hP hT
  obtain ⟨h1, h2, h3, h4⟩ := hP
  obtain ⟨h5, t, h6⟩ := hT
  simp only at h1 h2 h3 h4 h5 h6
  refine ⟨h1, h2, h3, ⟨_, by rw [h6]; rfl, fun x => ?_⟩, h4.ps, h5, h4.rl⟩
  rw [hg.2 x]
  simp
section
variable {st : Nat} {ss : List Nst} {S : List (List Nat)} {N : List (List Int)}
theorem cl_so (h : SemP st ss S N) : ∀ c d, c < 256 → d < 256 → (clsG (soF ss) N (fun _ => 0, 0)).1 c = (clsG (soF ss) N (fun _ => 0, 0)).1 d → ∀ r ∈ N, r.getD (soF ss c) 0 = r.getD (soF ss d) 0 := by
  have hne : N ≠ [] := fun e => by have h1 := h.ln; rw [e] at h1; have := h.pos; simp at h1; omega
  obtain ⟨hk, -⟩ := clsG_col (soF ss) hne (colF (soF ss) N) (fun c d _ _ => Iff.rfl)
  intro c d hc hd e r hr
  rw [hk c hc, hk d hd] at e
  have h2 := idx_inj (seen_mem (colF (soF ss) N) 256 c hc) e
  unfold colF at h2
  rw [List.map_inj_left] at h2
  exact h2 r hr
theorem cl_lt (h : SemP st ss S N) : (∀ c, c < 256 → (clsG (soF ss) N (fun _ => 0, 0)).1 c < (clsG (soF ss) N (fun _ => 0, 0)).2) ∧ (clsG (soF ss) N (fun _ => 0, 0)).2 ≤ 256 := by
  have hne := h.pos
  rw [← h.ln] at hne
  cases N with
  | nil => simp at hne
  | cons r rs => exact clsG_lt (soF ss) rs r _
/-- By a byte. -/
theorem cell_so (h : SemP st ss S N) {i : Nat} {r : List Int} (hr : N[i]? = some r) {c : Nat} (hc : c < 256) : cellAt (autX (soF ss) ss S N) i ((autX (soF ss) ss S N).cl c) = r.getD (soF ss c) 0 := by
  have hl := cl_lt h
  have hs := cl_so h
  unfold cellAt autX
  simp only [List.getElem?_map, hr, Option.map_some]
  generalize clsG (soF ss) N (fun _ => 0, 0) = g at *
  have hg := nxF_get g.1 (soF ss) r g.2 hl.1 (fun c d hc hd e => hs c d hc hd e r (List.mem_of_getElem? hr)) 256 (Nat.le_refl _) c hc
  have hln := nxF_len g.1 (soF ss) r g.2 256
  have hlt := hl.1 c hc
  rw [← hg]
  simp only [List.getD_eq_getElem?_getD]
  rw [List.getElem?_eq_getElem (by rw [hln]; exact hlt)]
  rfl
theorem rel_go (hck : chkN (st : Int) ss = 0) (h : SemP st ss S N) {k : Int} {M : Nat → Prop} (hM : ∀ x, M x → x < ss.length) (hr : Rel ss S k M) (c : UInt8) : Rel ss S (goD (autX (soF ss) ss S N) k c.toNat) (Nx ss c M) := by
  obtain ⟨hn, -, hst, hi, hto, -⟩ := chk_facts hck
  have hlv := live_all hi hto
  have hc : c.toNat < 256 := c.toNat_lt
  have ec : UInt8.ofNat c.toNat = c := by simp
  rcases hr with ⟨rfl, hd⟩ | ⟨i, m, rfl, hm, hx⟩
  · refine .inl ⟨by unfold goD; rw [if_pos (by decide)], ?_⟩
    rintro x ⟨s, hs, t, h1, h2⟩ hl
    exact hd s hs (hlv.wy c s t h1 (hlv.fr t x h2 hl))
  · obtain ⟨hi1, -⟩ := List.getElem?_eq_some_iff.1 hm
    have hi2 : i < N.length := by rw [h.ln]; exact hi1
    obtain ⟨l, hl, htr⟩ := h.tr i N[i] (List.getElem?_eq_getElem hi2)
    rw [hm] at hl
    cases hl
    obtain ⟨hso, -⟩ := byL_so ss hc
    have h1 := htr.tr (soF ss c.toNat) hso hso
    rw [lead_so ss hc (mb m) hso] at h1
    have hcell := cell_so h (List.getElem?_eq_getElem hi2) hc
    have hml : ∀ x, x ∈ leadL ss (mb m) (byF ss c.toNat) ↔ Nx ss c M x := fun x => by
      rw [mem_lead hn hi hto, ec]
      constructor
      · rintro ⟨s, hs, t, h2, h3⟩
        have := h.lt m (List.mem_of_getElem? hm) s hs
        exact ⟨s, (hx s (by omega)).1 hs, t, h2, h3⟩
      · rintro ⟨s, hs, t, h2, h3⟩
        have := hM s hs
        exact ⟨s, (hx s (by omega)).2 hs, t, h2, h3⟩
    unfold goD
    rw [if_neg (by omega), Int.toNat_natCast, hcell]
    cases ha : nmA (mb (liveL ss)) (leadL ss (mb m) (byF ss c.toNat)) with
    | false =>
      rw [h1.1 ha, if_pos (by decide)]
      refine .inl ⟨rfl, fun x hx2 hlx => ?_⟩
      unfold nmA at ha
      rw [List.any_eq_false] at ha
      exact ha x ((hml x).2 hx2) ((mb_iff _ _).2 hlx)
    | true =>
      obtain ⟨j, m2, h2, h3, h4⟩ := h1.2 ha
      rw [h3, if_neg (by omega)]
      exact .inr ⟨j, m2, rfl, h2, fun x hx2 => (h4 x hx2).trans (hml x)⟩
theorem rt_lt {ss : List Nst} (hi : InB ss) {a b : Nat} (h : Rt ss a b) (ha : a < ss.length) : b < ss.length := by
  induction h with
  | refl => exact ha
  | step _ x hx hc _ => rw [hc]; exact inb_fr hi _ x hx
theorem rel_walk (hck : chkN (st : Int) ss = 0) (h : SemP st ss S N) : ∀ (t : List UInt8) (k : Int) (M : Nat → Prop), (∀ x, M x → x < ss.length) → Rel ss S k M → Rel ss S (walkD (autX (soF ss) ss S N) k (t.map UInt8.toNat)) (Nxs ss t M)
  | [], k, M, _, hr => hr
  | c :: t, k, M, hM, hr => by
    obtain ⟨hn, -, hst, hi, hto, -⟩ := chk_facts hck
    refine rel_walk hck h t _ _ (fun x hx => ?_) (rel_go hck h hM hr c)
    obtain ⟨s, hs, u, h1, h2⟩ := hx
    refine rt_lt hi h2 ?_
    unfold toOf at h1
    cases e : ss[s]? with
    | none => rw [e] at h1; cases h1
    | some z =>
      rw [e] at h1
      simp only at h1
      split at h1
      · cases h1
        have := hto z (List.mem_of_getElem? e)
        omega
      · cases h1
/-- Where a text leads from the start. -/
theorem rel_text (hck : chkN (st : Int) ss = 0) (h : SemP st ss S N) (t : List UInt8) : Rel ss S (walkD (autX (soF ss) ss S N) 0 (t.map UInt8.toNat)) (fun x => Acc hasU ss t st x) := by
  obtain ⟨hn, -, hst, hi, hto, -⟩ := chk_facts hck
  obtain ⟨m, h1, h2⟩ := h.s0
  have h3 := rel_walk hck h t 0 (fun x => ∃ a, a = st ∧ Rt ss a x) (fun x hx => by
    obtain ⟨a, rfl, hr⟩ := hx
    exact rt_lt hi hr (by omega)) (.inr ⟨0, m, rfl, h1, fun x _ => by rw [h2 x]; simp⟩)
  have e : Nxs ss t (fun x => ∃ a, a = st ∧ Rt ss a x) = fun x => Acc hasU ss t st x := by
    funext x
    apply propext
    rw [nxs_acc]
    simp
  rw [e] at h3
  exact h3
end
end Go.Proofs.YthglciccejholaaDoor
end
section
/- Package dfa. -/
namespace Go.Proofs.YthglciccejholaaDoor
set_option linter.unusedSimpArgs false
set_option linter.unusedVariables false
set_option maxRecDepth 100000
open Go.RowKit Go.Shelf
/- The least rule. -/
open Go.Maps
theorem lstF_rl (ss : List Nst) (l : Int) (s : Nat) : lstF ss l s = if 0 ≤ rlOf ss s ∧ (l = -1 ∨ rlOf ss s < l) then rlOf ss s else l := by
  unfold lstF rlOf
  cases ss[s]? with
  | none => exact (show l = if 0 ≤ (-1 : Int) ∧ (l = -1 ∨ (-1 : Int) < l) then -1 else l from (by rw [if_neg (by omega)]))
  | some z => rfl
theorem lst_min (ss : List Nst) : ∀ (xs : List Nat) (l : Int), (l = -1 ∨ 0 ≤ l) →
    (xs.foldl (lstF ss) l = -1 ∧ l = -1 ∧ ∀ x ∈ xs, rlOf ss x < 0) ∨ (0 ≤ xs.foldl (lstF ss) l ∧ ((∃ x ∈ xs, rlOf ss x = xs.foldl (lstF ss) l) ∨ xs.foldl (lstF ss) l = l) ∧ (0 ≤ l → xs.foldl (lstF ss) l ≤ l) ∧ ∀ x ∈ xs, 0 ≤ rlOf ss x → xs.foldl (lstF ss) l ≤ rlOf ss x)
  | [], l, h => by
    rcases h with rfl | h
    · exact .inl ⟨rfl, rfl, by simp⟩
    · exact .inr ⟨h, .inr rfl, fun _ => Int.le_refl _, by simp⟩
  | x :: xs, l, h => by
    rw [List.foldl_cons, lstF_rl]
    by_cases hx : 0 ≤ rlOf ss x ∧ (l = -1 ∨ rlOf ss x < l)
    · rw [if_pos hx]
      rcases lst_min ss xs (rlOf ss x) (.inr hx.1) with ⟨h1, h2, -⟩ | ⟨h1, h2, h3, h4⟩
      · omega
      · refine .inr ⟨h1, .inl ?_, fun hl => ?_, fun y hy hy0 => ?_⟩
        · rcases h2 with ⟨y, hy, e⟩ | e
          · exact ⟨y, List.mem_cons_of_mem _ hy, e⟩
          · exact ⟨x, List.mem_cons_self .., e.symm⟩
        · have := h3 hx.1; omega
        · rcases List.mem_cons.1 hy with rfl | hy
          · exact h3 hx.1
          · exact h4 y hy hy0
    · rw [if_neg hx]
      rcases lst_min ss xs l h with ⟨h1, h2, h3⟩ | ⟨h1, h2, h3, h4⟩
      · refine .inl ⟨h1, h2, fun y hy => ?_⟩
        rcases List.mem_cons.1 hy with rfl | hy
        · omega
        · exact h3 y hy
      · refine .inr ⟨h1, ?_, h3, fun y hy hy0 => ?_⟩
        · rcases h2 with ⟨y, hy, e⟩ | e
          · exact .inl ⟨y, List.mem_cons_of_mem _ hy, e⟩
          · exact .inr e
        · rcases List.mem_cons.1 hy with rfl | hy
          · by_cases hl : l = -1
            · exact absurd ⟨hy0, .inl hl⟩ hx
            · have h0 : 0 ≤ l := by omega
              have := h3 h0
              have : ¬ rlOf ss y < l := fun g => hx ⟨hy0, .inr g⟩
              omega
          · exact h4 y hy hy0
theorem lstR_min (ss : List Nst) (xs : List Nat) : (lstR ss xs = -1 ∧ ∀ x ∈ xs, rlOf ss x < 0) ∨ (0 ≤ lstR ss xs ∧ (∃ x ∈ xs, rlOf ss x = lstR ss xs) ∧ ∀ x ∈ xs, 0 ≤ rlOf ss x → lstR ss xs ≤ rlOf ss x) := by
  unfold lstR
  rcases lst_min ss xs (-1) (.inl rfl) with ⟨h1, -, h3⟩ | ⟨h1, h2, -, h4⟩
  · exact .inl ⟨h1, h3⟩
  · refine .inr ⟨h1, ?_, h4⟩
    rcases h2 with h2 | h2
    · exact h2
    · omega
/-- The first of the rules, or -1. -/
def hd1 (l : List Int) : Int := l.head?.getD (-1)
theorem rules_hd (ss : List Nst) (l : List Nat) (q : Int) (h : (q = -1 ∧ ∀ x ∈ l, rlOf ss x < 0) ∨ (0 ≤ q ∧ q < 48 ∧ (∃ x ∈ l, rlOf ss x = q) ∧ ∀ x ∈ l, 0 ≤ rlOf ss x → q ≤ rlOf ss x)) : hd1 (rulesOf ss l) = q := by
  unfold hd1 rulesOf
  rw [List.head?_map, List.head?_filter]
  rcases h with ⟨rfl, h⟩ | ⟨h0, h48, ⟨x, hx, hq⟩, h⟩
  · have e : (List.range 48).find? (fun (r : Nat) => l.any fun s => decide (rlOf ss s = (r : Int))) = none := by
      rw [List.find?_eq_none]
      intro r _ hr
      obtain ⟨x, hx, he⟩ := List.any_eq_true.1 hr
      have := h x hx
      have := of_decide_eq_true he
      omega
    rw [e]; rfl
  · have e : (List.range 48).find? (fun (r : Nat) => l.any fun s => decide (rlOf ss s = (r : Int))) = some q.toNat := by
      rw [List.find?_range_eq_some]
      refine ⟨List.any_eq_true.2 ⟨x, hx, by rw [decide_eq_true_eq, hq]; omega⟩, List.mem_range.2 (by omega), fun j hj => ?_⟩
      rw [Bool.not_eq_true', Bool.eq_false_iff]
      intro hr
      obtain ⟨y, hy, he⟩ := List.any_eq_true.1 hr
      have he := of_decide_eq_true he
      have := h y hy (by omega)
      omega
    rw [e]
    show ((q.toNat : Nat) : Int) = q
    omega
section
variable {st : Nat} {ss : List Nst} {S : List (List Nat)} {N : List (List Int)}
theorem rl_bd (hck : chkN (st : Int) ss = 0) (x : Nat) : rlOf ss x < 48 := by
  obtain ⟨-, -, -, -, -, hrl⟩ := chk_facts hck
  unfold rlOf
  cases e : ss[x]? with
  | none => decide
  | some z => exact hrl z (List.mem_of_getElem? e)
theorem rl_live (hck : chkN (st : Int) ss = 0) {x : Nat} (h : ¬ x ∈ liveL ss) : rlOf ss x < 0 := by
  obtain ⟨-, -, -, hi, hto, -⟩ := chk_facts hck
  unfold rlOf
  cases e : ss[x]? with
  | none => decide
  | some z =>
    obtain ⟨hx, rfl⟩ := List.getElem?_eq_some_iff.1 e
    rcases Int.lt_or_le ss[x].rl 0 with h1 | h1
    · exact h1
    · exact absurd ((live_all hi hto).rl x hx h1) h
theorem rel_rule (hck : chkN (st : Int) ss = 0) (h : SemP st ss S N) {k : Int} {M : Nat → Prop} {l : List Nat} (hl : ∀ x, x ∈ l ↔ M x) (hlt : ∀ x ∈ l, x < ss.length) (hr : Rel ss S k M) : rlAt (autX (soF ss) ss S N) k = hd1 (rulesOf ss l) := by
  obtain ⟨hn, -⟩ := chk_facts hck
  symm
  rcases hr with ⟨rfl, hd⟩ | ⟨i, m, rfl, hm, hx⟩
  · have e : rlAt (autX (soF ss) ss S N) (-1) = -1 := by unfold rlAt; rw [if_pos (by decide)]
    rw [e]
    exact rules_hd ss l (-1) (.inl ⟨rfl, fun x hx => rl_live hck (hd x ((hl x).1 hx))⟩)
  · have e : (autX (soF ss) ss S N).rl.getD i (-1) = lstR ss ((List.range 4096).filter (mb m)) := by
      unfold autX
      simp only [List.getD_eq_getElem?_getD, List.getElem?_map, hm, Option.map_some, Option.getD_some]
    have hmem : ∀ x, x ∈ (List.range 4096).filter (mb m) ↔ x ∈ l := fun x => by
      rw [List.mem_filter, List.mem_range, mb_iff]
      constructor
      · rintro ⟨h1, h2⟩; exact (hl x).2 ((hx x h1).1 h2)
      · intro h1
        have := hlt x h1
        exact ⟨by omega, (hx x (by omega)).2 ((hl x).1 h1)⟩
    have hmin := lstR_min ss ((List.range 4096).filter (mb m))
    unfold rlAt
    rw [if_neg (by omega), Int.toNat_natCast, e]
    generalize lstR ss ((List.range 4096).filter (mb m)) = q at *
    rcases hmin with ⟨rfl, h1⟩ | ⟨h0, ⟨x, h1, h2⟩, h3⟩
    · rw [if_pos (by decide)]
      exact rules_hd ss l (-1) (.inl ⟨rfl, fun x hx => h1 x ((hmem x).2 hx)⟩)
    · rw [if_neg (by omega)]
      exact rules_hd ss l q (.inr ⟨h0, by rw [← h2]; exact rl_bd hck x, ⟨x, (hmem x).1 h1, h2⟩, fun x hx => h3 x ((hmem x).2 hx)⟩)
theorem nxF_mem (cl so : Nat → Nat) (row : List Int) (m : Nat) : ∀ k, ∀ x ∈ nxF cl so row m k, x = 0 ∨ ∃ c, c < k ∧ x = row.getD (so c) 0
  | 0, x, h => by
    unfold nxF at h
    simp only [List.range_zero, List.foldl_nil, List.mem_replicate] at h
    exact .inl h.2
  | k + 1, x, h => by
    rw [nxF_succ] at h
    rcases List.mem_or_eq_of_mem_set h with h | h
    · rcases nxF_mem cl so row m k x h with h | ⟨c, h1, h2⟩
      · exact .inl h
      · exact .inr ⟨c, by omega, h2⟩
    · exact .inr ⟨k, by omega, h⟩
theorem getD_mem {l : List Int} {i : Nat} : l.getD i 0 = 0 ∨ l.getD i 0 ∈ l := by
  rw [List.getD_eq_getElem?_getD]
  cases e : l[i]? with
  | none => exact .inl rfl
  | some y => exact .inr (List.mem_of_getElem? e)
theorem row_lt (h : SemP st ss S N) (htr : ∀ r ∈ N, ∀ x ∈ r, x < (S.length : Int)) : ∀ r ∈ (autX (soF ss) ss S N).nx, r.length = (clsG (soF ss) N (fun _ => 0, 0)).2 ∧ ∀ x ∈ r, x < (S.length : Int) := by
  intro r hr
  unfold autX at hr
  simp only at hr
  obtain ⟨r0, h0, rfl⟩ := List.mem_map.1 hr
  have hp := h.pos
  refine ⟨nxF_len .., fun x hx => ?_⟩
  rcases nxF_mem _ _ _ _ _ x hx with rfl | ⟨c, -, rfl⟩
  · omega
  · rcases getD_mem (l := r0) (i := soF ss c) with e | e
    · rw [e]; omega
    · exact htr r0 h0 _ e
theorem tr_lt (h : SemP st ss S N) : ∀ r ∈ N, ∀ x ∈ r, x < (S.length : Int) := by
  intro r hr x hx
  obtain ⟨i, hi, rfl⟩ := List.getElem_of_mem hr
  obtain ⟨l, -, htr⟩ := h.tr i N[i] (List.getElem?_eq_getElem hi)
  obtain ⟨s, hs, rfl⟩ := List.getElem_of_mem hx
  have hp := h.pos
  generalize byL ss 256 = bys at htr
  have hsl : s < bys.length := by have h9 := htr.ln; omega
  have e : N[i].getD s 0 = N[i][s] := by simp [List.getD, hs]
  have h1 := htr.tr s hsl hsl
  rw [e] at h1
  cases ha : nmA (mb (liveL ss)) (leadL ss (mb l) bys[s]) with
  | false => rw [h1.1 ha]; omega
  | true =>
    obtain ⟨j, m, h2, h3, -⟩ := h1.2 ha
    have := (List.getElem?_eq_some_iff.1 h2).1
    rw [h3]; omega
/-- What was made may be. -/
theorem sem_chk (hck : chkN (st : Int) ss = 0) (h : SemP st ss S N) : chkD (autX (soF ss) ss S N) = 0 := by
  have hp := h.pos
  have hle := h.le
  have hln := h.ln
  obtain ⟨hcl, hc2⟩ := cl_lt h
  have hrow := row_lt h (tr_lt h)
  have hnl : (autX (soF ss) ss S N).nx.length = S.length := by unfold autX; simp only [List.length_map]; exact hln
  have hrl : (autX (soF ss) ss S N).rl.length = S.length := by unfold autX; simp only [List.length_map]
  have hrl2 : ∀ q ∈ (autX (soF ss) ss S N).rl, q < 48 := by
    intro q hq
    unfold autX at hq
    simp only at hq
    obtain ⟨m, -, rfl⟩ := List.mem_map.1 hq
    rcases lstR_min ss ((List.range 4096).filter (mb m)) with ⟨e, -⟩ | ⟨-, ⟨x, -, e⟩, -⟩
    · rw [e]; decide
    · rw [← e]; exact rl_bd hck x
  have hcl2 : ∀ i, (autX (soF ss) ss S N).cl i = (clsG (soF ss) N (fun _ => 0, 0)).1 i := fun i => rfl
  have hst : (autX (soF ss) ss S N).st = 0 := rfl
  generalize autX (soF ss) ss S N = d at *
  have hr0 : (row0 d).length = (clsG (soF ss) N (fun _ => 0, 0)).2 := by
    unfold row0
    cases e : d.nx with
    | nil => rw [e] at hnl; simp at hnl; omega
    | cons r rs => exact (hrow r (by rw [e]; exact List.mem_cons_self ..)).1
  unfold chkD
  have ht : tooD d = false := by
    unfold tooD
    rw [hnl, hrl]
    simp
    omega
  have hm : mayD d = true := by
    unfold mayD d7_stOk clsOk rowsOk rowOk rlsOk
    simp only [Bool.and_eq_true, decide_eq_true_eq, List.all_eq_true, List.mem_range]
    refine ⟨by omega, ⟨by omega, by omega⟩, ⟨by omega, fun i hi => ?_⟩, fun r hr => ⟨?_, fun x hx => ?_⟩, hrl2⟩
    · rw [hr0, hcl2]; exact hcl i hi
    · rw [hr0]; exact (hrow r hr).1
    · rw [hnl]; exact (hrow r hr).2 x hx
  rw [ht, hm]; rfl
/-- DfaTells' mathematics. -/
theorem tells_math (hck : chkN (st : Int) ss = 0) (h : SemP st ss S N) (t : List UInt8) : ruleF (autX (soF ss) ss S N) (t.map UInt8.toNat) = (hd1 (accL hasU (st : Int) ss t), 0) := by
  obtain ⟨hn, -, hst, hi, hto, -⟩ := chk_facts hck
  have hm : mayN (st : Int) ss = true := by
    unfold chkN at hck
    split at hck
    · cases hck
    · split at hck
      · rename_i h2; exact h2
      · cases hck
  obtain ⟨hf, -, -⟩ := mayN_fine hm
  have hst' : st < ss.length := by omega
  have hmem := mem_acc (has := hasU) hf hst' t
  have hlt : ∀ x, Acc hasU ss t st x → x < ss.length := fun x hx => by
    have h1 : ∀ (t : List UInt8) (a b : Nat), a < ss.length → Acc hasU ss t a b → b < ss.length := fun t => by
      induction t with
      | nil => intro a b ha hr; exact Rt.lt hf hr ha
      | cons c r ih =>
        intro a b ha hr
        obtain ⟨s, u, h1, h2, h3⟩ := hr
        exact ih u b (hf.to _ _ _ _ h2) h3
    exact h1 t st x hst' hx
  unfold ruleF
  rw [if_neg (by rw [sem_chk hck h]; decide)]
  have e := rel_rule hck h (l := runB hasU ss t (goF ss (ss.length + 1) 0 [st])) (fun x => hmem x) (fun x hx => hlt x ((hmem x).1 hx)) (rel_text hck h t)
  have hst0 : (autX (soF ss) ss S N).st = 0 := rfl
  rw [hst0, e]
  unfold accL
  rw [Int.toNat_natCast]
end
end Go.Proofs.YthglciccejholaaDoor
end
section
/- Package dfa. -/
namespace Go.Proofs.YthglciccejholaaDoor
set_option linter.unusedSimpArgs false
set_option linter.unusedVariables false
set_option maxRecDepth 100000
open Go.RowKit Go.Shelf
/- DfaTells. -/
open Go.Maps
theorem ofD_ok {st : Int} {ss : List Nst} {d : Df} (h : ofD st ss = (d, 0)) : chkN st ss = 0 ∧ ∃ S N, ofF st ss = (true, S, N) ∧ d = autX (soF ss) ss S N := by
  unfold ofD at h
  by_cases h1 : chkN st ss ≠ 0
  · rw [if_pos h1] at h
    injection h with h2 h3
    exact absurd h3 h1
  · rw [if_neg h1] at h
    obtain ⟨⟨ok, S, N⟩, hF⟩ : ∃ F, ofF st ss = F := ⟨_, rfl⟩
    rw [hF] at h
    cases ok with
    | false =>
      rw [if_neg (by simp)] at h
      injection h with h2 h3
      cases h3
    | true =>
      rw [if_pos rfl] at h
      injection h with h2 h3
      exact ⟨by omega, S, N, hF, h2.symm⟩
theorem sem_ofD {st : Int} {ss : List Nst} {d : Df} (h : ofD st ss = (d, 0)) : chkN st ss = 0 ∧ ∃ s0 S N, st = ((s0 : Nat) : Int) ∧ chkN (s0 : Int) ss = 0 ∧ SemP s0 ss S N ∧ d = autX (soF ss) ss S N := by
  obtain ⟨hc, S, N, hF, hd⟩ := ofD_ok h
  obtain ⟨-, -, hst, -⟩ := chk_facts hc
  obtain ⟨s0, rfl⟩ : ∃ s0 : Nat, st = (s0 : Int) := ⟨st.toNat, by omega⟩
  exact ⟨hc, s0, S, N, rfl, hc, sem_of hc hF, hd⟩
set_option maxHeartbeats 32000000 in
theorem tells7_any {D : Nat → Prop} {w : World} {st : Int} {ss : List Nst} {q : Option Addr} {c : Nat} (t : ByteArray) (ht : t.size ≤ 9223372036854775806) (hD : ∀ b, D b → b < w.heap.size) (hSV : SV D w ss (.slice q ss.length c)) (hfl : ∀ s ∈ ss, s.fr.length ≤ 9223372036854775806) (hln : ss.length ≤ 9223372036854775806) (hok : ∀ s ∈ ss, okW s.u) (h0 : 0 < w.heap.size) (hT : R5.Tb w) :
    Calls Tryd.prog 7 #[nV st q ss.length c, .string t] w fun e w' => e = .returned (.bool true) ∧ Below w.heap.size w w' := by
  have hz := (zero_of_info info26r).1
  have HDL := Lib.hid (fun (z : World) (hb : Below w.heap.size w z) => (fun b h => Nat.lt_of_lt_of_le (hD b h) hb.size : ∀ b, D b → b < z.heap.size))
  have HSV := Lib.hid (fun (z : World) (hb : Below w.heap.size w z) => hSV.mono (D := D) (E := D) (fun b h => h) (fun b h _ => hb.block b (hD b h)))
  have HT0 := Lib.hid (fun (z : World) (hb : Below w.heap.size w z) => (And.intro (by have := hb.size; omega) (hT.mono (hb.block 0 h0)) : 0 < z.heap.size ∧ R5.Tb z))
  have HAL := Lib.hid (fun (z : World) (hb : Below w.heap.size w z) => alive7_any (HT0.out z hb).1 (HT0.out z hb).2)
  have HBIG := Lib.hid (fun (z : World) (hb : Below w.heap.size w z) => nbig_any (w := z) (st := st) 300 (by omega) (HDL.out z hb) (HSV.out z hb) hfl hln)
  have HOF := Lib.hid (fun (z : World) (hb : Below w.heap.size w z) => dof_any (w := z) (st := st) (HDL.out z hb) (HSV.out z hb) hfl hln hok (HT0.out z hb).1 (HT0.out z hb).2)
  have HOK := Lib.hid (And.intro hfl hok)
  clear hD hSV h0 hT hok hfl
  obtain ⟨b2, hb2⟩ : ∃ b, w.heap.size = b := ⟨_, rfl⟩
  have S0 := Lib.hid ((Sep.start w).allocAt hb2 (.cells #[.int .i64 st, .slice q ss.length c] 33))
  unfold nV at HBIG HOF ⊢
  go_enter Tryd.func7, Tryd.ntmps7
  go_upto_region 1 with fail
  refine at_world (fun v => Sep w.heap.size w v [.box b2 (.cells #[.int .i64 st, .slice q ss.length c] 33)]) S0.out fun y hy => ?_
  have S1 := Lib.hid hy
  clear S0 hy hb2
  by_cases h1 : 100 < t.size
  · have h1I : (100 : Int) < (t.size : Int) := by omega
    go_wp2_with fail
    go_ret
    exact ⟨rfl, S1.out.bel⟩
  have h1I : ¬ (100 : Int) < (t.size : Int) := by omega
  have c0 : y.cell? ⟨b2, 0, none⟩ = some (.int .i64 st) := S1.out.boxAt 0
  have c1 : y.cell? ⟨b2, 1, none⟩ = some (.slice q ss.length c) := S1.out.boxAt 1
  go_wp2_with fail
  refine (HBIG.out y S1.out.bel).mono ?_
  rintro _ w1 ⟨rfl, hbb⟩
  have S2 := Lib.hid (S1.out.up hbb)
  clear hbb S1 HBIG c0 c1
  obtain ⟨bg, hbg⟩ : ∃ bg, bigN 300 ss = bg := ⟨_, rfl⟩
  rw [hbg]
  clear hbg
  cases bg with
  | true =>
    go_wp2_with fail
    go_ret
    exact ⟨rfl, S2.out.bel⟩
  | false =>
    obtain ⟨⟨d, e⟩, hR⟩ : ∃ R, ofD st ss = R := ⟨_, rfl⟩
    have hlen := ofD_len st ss
    rw [hR] at HOF hlen
    have HR := Lib.hid hR
    have HLN := Lib.hid hlen
    clear hR hlen
    have c0 : w1.cell? ⟨b2, 0, none⟩ = some (.int .i64 st) := S2.out.boxAt 0
    have c1 : w1.cell? ⟨b2, 1, none⟩ = some (.slice q ss.length c) := S2.out.boxAt 1
    go_wp2_with fail
    refine (HOF.out w1 S2.out.bel).mono ?_
    rintro _ w2 ⟨ds, p, c2, q2, f2, zs, rfl, hdc, hz7, hs⟩
    simp only at hdc hz7 hs ⊢
    have HDC := Lib.hid hdc
    have S3 := Lib.hid (S2.out.join hs)
    obtain ⟨b5, hb5⟩ : ∃ b, w2.heap.size = b := ⟨_, rfl⟩
    have S4 := Lib.hid (S3.out.allocAt hb5 (.cells zero26 48))
    have HBX := Lib.hid S4.out.at.2
    have HZ7 := Lib.hid hz7
    clear hs hz7 hdc HOF c0 c1 S2
    go_upto_region 4 with (refine wpList_store_row rfl 48 (.tmp 5) (.tmp 22) rfl b5 ds rfl rfl 48 _ HBX.out (by rw [info26, HDC.out.sz]) (by rw [zero26_size, HDC.out.sz]) (by first | exact Array.all_eq_true_iff_forall_mem.2 HDC.out.one | exact Array.all_eq_true.2 (fun i hi => HDC.out.one _ (Array.getElem_mem hi))) ?_)
    refine at_world (fun v => Sep w.heap.size w v (.box b5 (.cells ds 48) :: ((.row (.slice p d.nx.length c2) 39 1 zs.length (zs.map zV) :: .row (.slice q2 d.rl.length f2) 3 1 d.rl.length (zi d.rl) :: (zs.map zI ++ [])) ++ [.box b2 (.cells #[.int .i64 st, .slice q ss.length c] 33)]))) (S4.out.putRow ds) fun z hz2 => ?_
    have S5 := Lib.hid hz2
    clear S3 S4 HBX hb5 hz2 hz
    have HWZ : Hid (∀ v : World, Below z.heap.size z v → Below w.heap.size w v) := Lib.hid fun v hv => (S5.out.up hv).bel
    have HB5 : Hid (∀ v : World, Below z.heap.size z v → BX v b5 ds) := Lib.hid fun v hv => (S5.out.up hv).at.2
    have HB2 : Hid (∀ v : World, Below z.heap.size z v → v.heap[b2]? = some (.cells #[.int .i64 st, .slice q ss.length c] 33 (0, 0))) := Lib.hid fun v hv => ((S5.out.up hv).li (.box b2 (.cells #[.int .i64 st, .slice q ss.length c] 33)) (by simp)).2
    have HDM : Hid (∀ v : World, Below z.heap.size z v → DM (fun b => b < v.heap.size) v d p q2 c2 f2) := Lib.hid fun v hv => dm_of (L := [.box b2 (.cells #[.int .i64 st, .slice q ss.length c] 33)]) HZ7.out (by have h := (S5.out.up hv).tl; rw [List.append_nil] at h; exact h) (fun r hr => by have := HLN.out.1 r hr; omega) (by have := HLN.out.2.1; omega) (by have h8 : d.nx.length ≤ 2048 := HLN.out.2.1; have h9 : d.rl.length = d.nx.length := HLN.out.2.2; omega)
    have HZZ := Lib.hid (Below.refl z.heap.size z)
    clear S5
    by_cases he : e = 0
    case neg =>
      have heI : (e != 0) = true := by simpa using he
      go_wp2_with fail
      refine (HAL.out z (HWZ.out z HZZ.out)).mono ?_
      rintro _ w9 ⟨rfl, hbb⟩
      have HB9 := Lib.hid (HWZ.out w9 hbb)
      clear hbb
      go_wp2_with fail
      go_ret
      exact ⟨rfl, HB9.out⟩
    subst he
    obtain ⟨hck, s0, S, N, hs0, hck0, hsem, hd⟩ := sem_ofD HR.out
    have htm := tells_math hck0 hsem t.data.toList
    rw [← hd, ← hs0] at htm
    obtain ⟨hn, -⟩ := chk_facts hck
    obtain ⟨L, hL⟩ : ∃ L, accL hasU st ss t.data.toList = L := ⟨_, rfl⟩
    rw [hL] at htm
    have HAC := Lib.hid (acc_ok (w := z) (st := st) (s := t) (HDL.out z (HWZ.out z HZZ.out)) (HSV.out z (HWZ.out z HZZ.out)) HOK.out.1 hn HOK.out.2 ht hck)
    rw [hL] at HAC
    have HRU := Lib.hid (fun (v : World) (hv : Below z.heap.size z v) => ruleR_any (w := v) t HDC.out (HDM.out v hv) ht)
    have hbl : bl t = t.data.toList.map UInt8.toNat := rfl
    rw [hbl, htm] at HRU
    unfold tup at HRU
    unfold nV at HAC
    simp only at HRU
    clear hck s0 S N hs0 hck0 hsem hd htm hn hL hbl HR
    have c0 : z.cell? ⟨b2, 0, none⟩ = some (.int .i64 st) := cell_of_row z b2 0 _ 33 (0, 0) (HB2.out z HZZ.out)
    have c1 : z.cell? ⟨b2, 1, none⟩ = some (.slice q ss.length c) := cell_of_row z b2 1 _ 33 (0, 0) (HB2.out z HZZ.out)
    go_wp2_with fail
    refine HAC.out.mono ?_
    rintro _ w5 ⟨⟨v, rfl, hiv⟩, hbb⟩
    have hiv0 := hiv
    obtain ⟨pv, cv, rfl, -⟩ := hiv
    have HB6 := Lib.hid hbb
    have HX := Lib.hid (HB5.out w5 hbb)
    clear hbb HAC c0 c1
    go_wp2_with (refine wpList_load_D rfl (.tmp 5) rfl b5 ds rfl HX.out HDC.out.sz ?_)
    refine (HRU.out w5 HB6.out).mono ?_
    rintro _ w6 ⟨rfl, hbb⟩
    have HB7 := Lib.hid (HB6.out.trans (hbb.mono HB6.out.size))
    have HIV := Lib.hid (hiv0.mono (fun b h => h) (fun b h _ => hbb.block b h.2) : IV (fun b => z.heap.size ≤ b ∧ b < w5.heap.size) w6 L (.slice pv L.length cv))
    clear hbb HX HRU HB6 hiv0
    cases L with
    | nil =>
      go_wp2_with fail
      refine (HAL.out w6 (HWZ.out w6 HB7.out)).mono ?_
      rintro _ w7 ⟨rfl, hbb⟩
      have HB8 := Lib.hid (HB7.out.trans (hbb.mono HB7.out.size))
      clear hbb HB7
      go_wp2_with fail
      go_ret
      exact ⟨rfl, HWZ.out w7 HB8.out⟩
    | cons a L =>
      obtain ⟨p', c', he, hh⟩ := HIV.out
      injection he with e1 e2 e3
      subst e1 e3
      obtain ⟨g, o, rfl, hg, hc⟩ := hh (by simp)
      have hc0 := hc 0 (by simp)
      simp only [Nat.add_zero, List.getElem_cons_zero] at hc0
      have hhd : hd1 (a :: L) = a := rfl
      rw [hhd]
      have haa : (a == a) = true := by simp
      have hpos : (0 : Int) < ((a :: L).length : Int) := by simp
      have hpos2 : ¬ ((a :: L).length : Int) ≤ 0 := by simp
      clear hh hc hhd HIV
      generalize (a :: L).length = n at *
      go_wp2_with fail
      refine (HAL.out w6 (HWZ.out w6 HB7.out)).mono ?_
      rintro _ w7 ⟨rfl, hbb⟩
      have HB8 := Lib.hid (HB7.out.trans (hbb.mono HB7.out.size))
      clear hbb HB7
      go_wp2_with fail
      go_ret
      exact ⟨rfl, HWZ.out w7 HB8.out⟩
end Go.Proofs.YthglciccejholaaDoor
end
section
/- Package dfa. -/
namespace Go.Proofs.YthglciccejholaaDoor
set_option linter.unusedSimpArgs false
set_option linter.unusedVariables false
set_option maxRecDepth 100000
open Go.RowKit Go.Shelf
/- Reached and alive: what find finds. -/
open Go.Maps
theorem seen_sur {κ : Type} [DecidableEq κ] (key : Nat → κ) : ∀ (m s : Nat), s < (seen key m).length → ∃ b, b < m ∧ idx (seen key m) (key b) = s
  | 0, s, h => by simp [seen] at h
  | m + 1, s, h => by
    by_cases hk : key m ∈ seen key m
    · rw [seen_in hk] at h ⊢
      obtain ⟨b, h1, h2⟩ := seen_sur key m s h
      exact ⟨b, by omega, h2⟩
    · rw [seen_out hk] at h ⊢
      by_cases e : s = (seen key m).length
      · exact ⟨m, by omega, by rw [idx_app hk, e]⟩
      · rw [List.length_append] at h
        obtain ⟨b, h1, h2⟩ := seen_sur key m s (by simp at h; omega)
        refine ⟨b, by omega, ?_⟩
        have h3 := seen_idx key (key b) (m + 1) m (by omega) (seen_mem key m b h1)
        rw [seen_out hk] at h3
        rw [h3, h2]
theorem so_sur (ss : List Nst) {s : Nat} (h : s < (byL ss 256).length) : ∃ b, b < 256 ∧ soF ss b = s := by
  rw [byL_len] at h
  obtain ⟨b, h1, h2⟩ := seen_sur (byK ss) 256 s h
  exact ⟨b, h1, by unfold soF; exact h2⟩
/-- What is new was told in this row, and is alive. -/
theorem onF_new (ss : List Nst) (lv : Nat → Bool) (bys : List (Nat → Bool)) (f : Nat → Bool) (sets : List (List Nat)) : ∀ k, k ≤ bys.length → ∀ (j : Nat) (m : List Nat), (onF ss lv bys f k sets).1[j]? = some m → sets.length ≤ j → nmA lv m = true ∧ ∃ s, s < k ∧ (onF ss lv bys f k sets).2.getD s 0 = (j : Int)
  | 0, _, j, m, h, hj => by
    have := (List.getElem?_eq_some_iff.1 h).1
    simp [onF] at this; omega
  | k + 1, hk, j, m, h, hj => by
    have hkb : k < bys.length := hk
    have ih := onF_new ss lv bys f sets k (Nat.le_of_lt hkb)
    have hl := onF_len ss lv bys f sets k
    rw [onF, List.getElem?_eq_getElem hkb] at h ⊢
    simp only [Option.getD_some] at h ⊢
    obtain ⟨g, hg⟩ : ∃ g, onF ss lv bys f k sets = g := ⟨_, rfl⟩
    rw [hg] at ih hl h ⊢
    obtain ⟨l, hll⟩ : ∃ l, leadL ss f bys[k] = l := ⟨_, rfl⟩
    rw [hll] at h ⊢
    by_cases hjg : j < g.1.length
    · obtain ⟨t, ht, -⟩ := nmS_pre lv g.1 l
      rw [ht, List.getElem?_append_left hjg] at h
      obtain ⟨h1, s, h2, h3⟩ := ih j m h hj
      exact ⟨h1, s, by omega, by rw [getD_app1 _ _ _ (by omega)]; exact h3⟩
    · have hlt := (List.getElem?_eq_some_iff.1 h).1
      unfold nmS at h hlt
      by_cases hc : (nmA lv l && !nmI g.1 l) = true
      · rw [if_pos hc] at h hlt
        have hjl : j = g.1.length := by simp at hlt; omega
        subst hjl
        simp at h
        subst h
        simp only [Bool.and_eq_true, Bool.not_eq_true'] at hc
        refine ⟨hc.1, k, by omega, ?_⟩
        have hd := getD_app2 g.2 (nmR lv g.1 l)
        rw [hl] at hd
        rw [hd]
        unfold nmR
        rw [if_pos hc.1, hc.2]
        simp
      · rw [if_neg hc] at hlt
        omega
theorem fnF_new (ss : List Nst) (lv : Nat → Bool) (bys : List (Nat → Bool)) : ∀ (q at_ : Nat) (sets : List (List Nat)) (nums : List (List Int)), nums.length = at_ → (∀ (j : Nat) (m : List Nat), sets[j]? = some m → 0 < j → nmA lv m = true ∧ ∃ (i : Nat) (r : List Int) (s : Nat), i < j ∧ nums[i]? = some r ∧ s < bys.length ∧ r.getD s 0 = (j : Int)) →
    ∀ (j : Nat) (m : List Nat), (fnF ss lv bys q at_ sets nums).2.1[j]? = some m → 0 < j → nmA lv m = true ∧ ∃ (i : Nat) (r : List Int) (s : Nat), i < j ∧ (fnF ss lv bys q at_ sets nums).2.2[i]? = some r ∧ s < bys.length ∧ r.getD s 0 = (j : Int)
  | 0, _, sets, _, _, h => h
  | q + 1, at_, sets, nums, hl, h => by
    rw [fnF]
    cases hx : sets[at_]? with
    | none => exact h
    | some l =>
      simp only
      by_cases hb : 2048 < sets.length
      · rw [if_pos hb]; exact h
      · rw [if_neg hb]
        have hnew := onF_new ss lv bys (mb l) sets bys.length (Nat.le_refl _)
        obtain ⟨t, ht, -⟩ := onF_pre ss lv bys (mb l) sets bys.length
        have hat := (List.getElem?_eq_some_iff.1 hx).1
        generalize onF ss lv bys (mb l) bys.length sets = g at *
        obtain ⟨g1, g2⟩ := g
        simp only at ht hnew ⊢
        refine fnF_new ss lv bys q (at_ + 1) g1 (nums ++ [g2]) (by simp [hl]) (fun j m hj h0 => ?_)
        by_cases hjs : j < sets.length
        · rw [ht, List.getElem?_append_left hjs] at hj
          obtain ⟨h1, i, r, s, h2, h3, h4, h5⟩ := h j m hj h0
          exact ⟨h1, i, r, s, h2, by rw [List.getElem?_append_left (List.getElem?_eq_some_iff.1 h3).1]; exact h3, h4, h5⟩
        · obtain ⟨h1, s, h2, h3⟩ := hnew j m hj (by omega)
          exact ⟨h1, at_, g2, s, by omega, by rw [← hl]; simp, h2, h3⟩
/-- The ways back are ways. -/
theorem push_only {bk : List (List Int)} {j k : Nat} {i x : Int} (h : x ∈ (bkPush bk j i)[k]?.getD []) : x ∈ bk[k]?.getD [] ∨ (x = i ∧ j = k) := by
  rw [push_get] at h
  split at h
  · rename_i hc
    rcases List.mem_append.1 h with h | h
    · exact .inl h
    · exact .inr ⟨by simpa using h, hc.1⟩
  · exact .inl h
theorem fr_only {i k : Nat} {x : Int} : ∀ (fr : List Int) (bk : List (List Int)), x ∈ (bkFr bk fr i)[k]?.getD [] → x ∈ bk[k]?.getD [] ∨ (x = (i : Int) ∧ ∃ y ∈ fr, y.toNat = k)
  | [], bk, h => .inl h
  | y :: fr, bk, h => by
    rcases fr_only fr (bkPush bk y.toNat i) h with h | ⟨h1, z, h2, h3⟩
    · rcases push_only h with h | ⟨h1, h2⟩
      · exact .inl h
      · exact .inr ⟨h1, y, List.mem_cons_self .., h2⟩
    · exact .inr ⟨h1, z, List.mem_cons_of_mem _ h2, h3⟩
theorem bkT_only (ss : List Nst) : ∀ k, k ≤ ss.length → (∀ (j : Nat) (x : Int), x ∈ (bkT ss k).1[j]?.getD [] → ∃ (i : Nat) (hi : i < ss.length), x = (i : Int) ∧ ((∃ y ∈ ss[i].fr, y.toNat = j) ∨ (0 ≤ ss[i].to ∧ neU ss[i].u = true ∧ ss[i].to.toNat = j))) ∧ ∀ a ∈ (bkT ss k).2, ∃ h : a < ss.length, 0 ≤ ss[a].rl
  | 0, _ => by
    refine ⟨fun j x h => ?_, fun a h => by simp [bkT] at h⟩
    unfold bkT at h
    simp only [List.getElem?_replicate] at h
    split at h <;> simp at h
  | k + 1, hk => by
    have hkl : k < ss.length := hk
    obtain ⟨h1, h2⟩ := bkT_only ss k (Nat.le_of_lt hkl)
    rw [bkT, List.getElem?_eq_getElem hkl]
    simp only [Option.getD_some]
    refine ⟨fun j x h => ?_, fun a h => ?_⟩
    · rcases fr_only _ _ h with h | ⟨h3, y, h4, h5⟩
      · unfold bkTo at h
        split at h
        · rename_i hc
          rcases push_only h with h | ⟨h3, h4⟩
          · exact h1 j x h
          · exact ⟨k, hkl, h3, .inr ⟨hc.1, hc.2, h4⟩⟩
        · exact h1 j x h
      · exact ⟨k, hkl, h3, .inl ⟨y, h4, h5⟩⟩
    · split at h
      · rename_i hc
        rcases mem_rch.1 h with h | rfl
        · exact h2 a h
        · exact ⟨hkl, hc⟩
      · exact h2 a h
theorem hasU_ex {u : Nat → Int} (hok : okW u) (h : neU u = true) : ∃ c : UInt8, hasU u c = true := by
  have h2 : ∃ i, i < 4 ∧ u i ≠ 0 := by
    unfold neU zeroU at h
    by_cases e0 : u 0 = 0
    · by_cases e1 : u 1 = 0
      · by_cases e2 : u 2 = 0
        · by_cases e3 : u 3 = 0
          · simp [e0, e1, e2, e3] at h
          · exact ⟨3, by decide, e3⟩
        · exact ⟨2, by decide, e2⟩
      · exact ⟨1, by decide, e1⟩
    · exact ⟨0, by decide, e0⟩
  obtain ⟨i, hi, hne⟩ := h2
  have hb := hok i
  have hne2 : (u i).toNat ≠ 0 := by omega
  obtain ⟨k, hk⟩ := Nat.exists_testBit_of_ne_zero hne2
  have hk64 : k < 64 := by
    rcases Nat.lt_or_ge k 64 with h | h
    · exact h
    · exfalso
      have : (u i).toNat < 2 ^ k := Nat.lt_of_lt_of_le (show (u i).toNat < 2 ^ 64 by omega) (Nat.pow_le_pow_right (by decide) h)
      rw [Nat.testBit_lt_two_pow this] at hk
      cases hk
  refine ⟨UInt8.ofNat (64 * i + k), ?_⟩
  have e : (UInt8.ofNat (64 * i + k)).toNat = 64 * i + k := by simp; omega
  unfold hasU
  rw [e, show (64 * i + k) / 64 = i by omega, show (64 * i + k) % 64 = k by omega]
  exact hk
end Go.Proofs.YthglciccejholaaDoor
end
section
/- Package dfa. -/
namespace Go.Proofs.YthglciccejholaaDoor
set_option linter.unusedSimpArgs false
set_option linter.unusedVariables false
set_option maxRecDepth 100000
open Go.RowKit Go.Shelf
/- DfaReaches' mathematics. -/
open Go.Maps
structure SemQ (ss : List Nst) (S : List (List Nat)) (N : List (List Int)) : Prop where
  nw : ∀ (j : Nat) (m : List Nat), S[j]? = some m → 0 < j → nmA (mb (liveL ss)) m = true ∧ ∃ (i : Nat) (r : List Int) (s : Nat), i < j ∧ N[i]? = some r ∧ s < (byL ss 256).length ∧ r.getD s 0 = (j : Int)
  cl : ∀ m ∈ S, ∀ x ∈ m, ∀ y, Rt ss x y → y ∈ m
theorem semq_of {st : Nat} {ss : List Nst} {S : List (List Nat)} {N : List (List Int)} (hc : chkN (st : Int) ss = 0) (h : ofF (st : Int) ss = (true, S, N)) : SemQ ss S N := by
  have hs := sop_of hc
  obtain ⟨hn, -, hst, hi, hto, -⟩ := chk_facts hc
  have hst' : st < ss.length := by omega
  have e : fnF ss (mb (liveL ss)) (byL ss 256) 2050 0 [goF ss (ss.length + 1) 0 [st]] [] = (true, S, N) := by rw [← h]; unfold ofF; rw [Int.toNat_natCast]
  have hg := goF_spec ss ss.length (inb_fr hi) (ss.length + 1) 0 [st] [st] (by simp) (by simpa using hst') (by omega) (by omega) (fun b hb => ⟨b, hb, .refl b⟩) (fun a ha => ha) (fun j hj => by omega)
  have hN := fnF_new ss (mb (liveL ss)) (byL ss 256) 2050 0 [goF ss (ss.length + 1) 0 [st]] [] rfl (fun j m hj h0 => by
    have := (List.getElem?_eq_some_iff.1 hj).1
    simp at this; omega)
  have hP := fnF_fin ss (mb (liveL ss)) (byL ss 256) (fun l => ∀ x ∈ l, ∀ y, Rt ss x y → y ∈ l) (fun f s hs2 => by
    obtain ⟨b, hb, e⟩ := byL_mem ss 256 _ (List.getElem_mem hs2)
    intro x hx y hr
    have key : ∀ z, z ∈ leadL ss f (byL ss 256)[s] ↔ ∃ a ∈ gl ss ((List.range 4096).filter fun x => f x && (byL ss 256)[s] x), Rt ss a z := fun z => by
      rw [e]
      have h2 := gl_ok (ss := ss) ((List.range 4096).filter fun x => f x && byF ss b x) [] .nil (by simp) (fun x hx => by
        rw [List.mem_filter] at hx
        have h3 := hx.2
        simp only [Bool.and_eq_true] at h3
        have h4 := byF_to.1 h3.2
        have h5 := (to_toN h4).2
        unfold toOf at h4
        unfold toN
        rw [List.getElem?_eq_getElem h5] at h4 ⊢
        simp only at h4 ⊢
        split at h4
        · have := hto _ (List.getElem_mem h5); omega
        · cases h4)
      exact (goF_spec ss ss.length (inb_fr hi) (ss.length + 1) 0 _ _ h2.1 h2.2 (by omega) (by omega) (fun b hb => ⟨b, hb, .refl b⟩) (fun a ha => ha) (fun j hj => by omega)).2 z
    obtain ⟨a, ha, hra⟩ := (key x).1 hx
    exact (key y).2 ⟨a, ha, hra.trans hr⟩) 2050 0 [goF ss (ss.length + 1) 0 [st]] [] (by omega) (by omega) (by simp) rfl (by simp) ⟨fun l hl => by
      simp only [List.mem_singleton] at hl
      subst hl
      intro x hx y hr
      obtain ⟨a, ha, hra⟩ := (hg.2 x).1 hx
      exact (hg.2 y).2 ⟨a, ha, hra.trans hr⟩, fun r hr => by simp at hr⟩ (by rw [e])
  rw [e] at hN hP
  exact ⟨hN, hP.2.2.2.ps⟩
section
variable {st : Nat} {ss : List Nst} {S : List (List Nat)} {N : List (List Int)}
/-- Where nothing changes any more. -/
structure Fix (d : Df) (T E : Nat → Bool) : Prop where
  t0 : T 0 = true
  e0 : ∀ i, i < d.nx.length → 0 ≤ d.rl.getD i (-1) → E i = true
  go : ∀ (i : Nat) (r : List Int) (c : Nat) (s : Nat), d.nx[i]? = some r → r[c]? = some (s : Int) → (T i = true → T s = true) ∧ (E s = true → E i = true)
theorem fix_edge (h : SemP st ss S N) {T E : Nat → Bool} (hf : Fix (autX (soF ss) ss S N) T E) {i : Nat} {r : List Int} (hr : N[i]? = some r) {c : Nat} (hc : c < 256) {s : Nat} (hs : r.getD (soF ss c) 0 = (s : Int)) : (T i = true → T s = true) ∧ (E s = true → E i = true) := by
  have hl := cl_lt h
  have hk := cl_so h
  have hnx : (autX (soF ss) ss S N).nx[i]? = some (nxF (clsG (soF ss) N (fun _ => 0, 0)).1 (soF ss) r (clsG (soF ss) N (fun _ => 0, 0)).2 256) := by
    unfold autX
    simp only [List.getElem?_map, hr, Option.map_some]
  have hg := nxF_get (clsG (soF ss) N (fun _ => 0, 0)).1 (soF ss) r (clsG (soF ss) N (fun _ => 0, 0)).2 hl.1 (fun c d hc hd e => hk c d hc hd e r (List.mem_of_getElem? hr)) 256 (Nat.le_refl _) c hc
  have hln := nxF_len (clsG (soF ss) N (fun _ => 0, 0)).1 (soF ss) r (clsG (soF ss) N (fun _ => 0, 0)).2 256
  have hlt := hl.1 c hc
  refine hf.go i _ ((clsG (soF ss) N (fun _ => 0, 0)).1 c) s hnx ?_
  rw [hs] at hg
  generalize clsG (soF ss) N (fun _ => 0, 0) = g at *
  rw [List.getD_eq_getElem?_getD, List.getElem?_eq_getElem (by rw [hln]; exact hlt)] at hg
  rw [List.getElem?_eq_getElem (by rw [hln]; exact hlt)]
  exact congrArg some hg
theorem fix_T (h : SemP st ss S N) (hq : SemQ ss S N) {T E : Nat → Bool} (hf : Fix (autX (soF ss) ss S N) T E) : ∀ n j, j < n → j < S.length → T j = true
  | 0, j, h1, _ => by omega
  | n + 1, j, h1, h2 => by
    by_cases h0 : j = 0
    · subst h0; exact hf.t0
    · obtain ⟨-, i, r, s, h3, h4, h5, h6⟩ := hq.nw j S[j] (List.getElem?_eq_getElem h2) (by omega)
      obtain ⟨b, hb, hs⟩ := so_sur ss h5
      rw [← hs] at h6
      exact (fix_edge h hf h4 hb h6).1 (fix_T h hq hf n i (by omega) (by omega))
theorem fix_E (hck : chkN (st : Int) ss = 0) (hok : ∀ s ∈ ss, okW s.u) (h : SemP st ss S N) (hq : SemQ ss S N) {T E : Nat → Bool} (hf : Fix (autX (soF ss) ss S N) T E) {a x : Nat} (ha : a ∈ (bkT ss ss.length).2) (hr : Rt (ssB (bkT ss ss.length).1) a x) : ∀ (j : Nat) (m : List Nat), S[j]? = some m → x ∈ m → E j = true := by
  obtain ⟨hn, -, -, hi, hto, -⟩ := chk_facts hck
  obtain ⟨hb1, hb2⟩ := bkT_only ss ss.length (Nat.le_refl _)
  have hnl : (autX (soF ss) ss S N).nx.length = S.length := by unfold autX; simp only [List.length_map]; exact h.ln
  have hlive : ∀ {y}, Rt (ssB (bkT ss ss.length).1) a y → y ∈ liveL ss := fun hy => (mem_live ss _).2 ⟨a, ha, hy⟩
  induction hr with
  | refl =>
    intro j m hj hx
    have hjl := (List.getElem?_eq_some_iff.1 hj).1
    refine hf.e0 j (by rw [hnl]; exact hjl) ?_
    have e : (autX (soF ss) ss S N).rl.getD j (-1) = lstR ss ((List.range 4096).filter (mb m)) := by
      unfold autX
      simp only [List.getD_eq_getElem?_getD, List.getElem?_map, hj, Option.map_some, Option.getD_some]
    rw [e]
    obtain ⟨hal, hrl⟩ := hb2 a ha
    rcases lstR_min ss ((List.range 4096).filter (mb m)) with ⟨-, h1⟩ | ⟨h1, -⟩
    · have h2 := h1 a (List.mem_filter.2 ⟨List.mem_range.2 (by omega), (mb_iff _ _).2 hx⟩)
      unfold rlOf at h2
      rw [List.getElem?_eq_getElem hal] at h2
      simp only at h2
      omega
    · exact h1
  | step hr1 z hz hc ih =>
    rename_i y x
    intro j m hj hx
    have hyl := hlive hr1
    rw [frOf_B] at hz
    obtain ⟨i, hil, hzi, hw⟩ := hb1 y z hz
    have hxi : x = i := by rw [hc, hzi]; simp
    subst hxi
    rcases hw with ⟨v, hv, hvy⟩ | ⟨hto0, hne, hty⟩
    · have hrt : Rt ss x y := .step (.refl x) v (by rw [frOf_get hil]; exact hv) hvy.symm
      exact ih j m hj (hq.cl m (List.mem_of_getElem? hj) x hx y hrt)
    · obtain ⟨c, hcu⟩ := hasU_ex (hok _ (List.getElem_mem hil)) hne
      have hto2 : toOf hasU ss c x = some y := by
        unfold toOf
        rw [List.getElem?_eq_getElem hil]
        simp only
        rw [if_pos ⟨hto0, hcu⟩, hty]
      have hc256 : c.toNat < 256 := c.toNat_lt
      have ec : UInt8.ofNat c.toNat = c := by simp
      have hjl := (List.getElem?_eq_some_iff.1 hj).1
      have hjn : j < N.length := by rw [h.ln]; exact hjl
      obtain ⟨l, hl, htr⟩ := h.tr j N[j] (List.getElem?_eq_getElem hjn)
      rw [hj] at hl
      cases hl
      obtain ⟨hso, -⟩ := byL_so ss hc256
      have h1 := htr.tr (soF ss c.toNat) hso hso
      rw [lead_so ss hc256 (mb m) hso] at h1
      have hyin : y ∈ leadL ss (mb m) (byF ss c.toNat) := by
        rw [mem_lead hn hi hto, ec]
        exact ⟨x, hx, y, hto2, .refl y⟩
      have ha2 : nmA (mb (liveL ss)) (leadL ss (mb m) (byF ss c.toNat)) = true := by
        unfold nmA
        exact List.any_eq_true.2 ⟨y, hyin, (mb_iff _ _).2 hyl⟩
      obtain ⟨j2, m2, h2, h3, h4⟩ := h1.2 ha2
      have hy4 : y < 4096 := by
        have := hto _ (List.getElem_mem hil)
        omega
      have hE := ih j2 m2 h2 ((h4 y hy4).2 hyin)
      exact (fix_edge h hf (List.getElem?_eq_getElem hjn) hc256 h3).2 hE
/-- All are reached, and all but the first lead to an end. -/
theorem fix_all (hck : chkN (st : Int) ss = 0) (hok : ∀ s ∈ ss, okW s.u) (h : SemP st ss S N) (hq : SemQ ss S N) {T E : Nat → Bool} (hf : Fix (autX (soF ss) ss S N) T E) : ∀ j, j < (autX (soF ss) ss S N).nx.length → T j = true ∧ (0 < j → E j = true) := by
  have hnl : (autX (soF ss) ss S N).nx.length = S.length := by unfold autX; simp only [List.length_map]; exact h.ln
  rw [hnl]
  intro j hj
  refine ⟨fix_T h hq hf (j + 1) j (by omega) hj, fun h0 => ?_⟩
  obtain ⟨h1, -⟩ := hq.nw j S[j] (List.getElem?_eq_getElem hj) h0
  unfold nmA at h1
  obtain ⟨x, hx, hl⟩ := List.any_eq_true.1 h1
  obtain ⟨a, ha, hr⟩ := (mem_live ss x).1 ((mb_iff _ _).1 hl)
  exact fix_E hck hok h hq hf ha hr j S[j] (List.getElem?_eq_getElem hj) hx
end
end Go.Proofs.YthglciccejholaaDoor
end
section
/- Package dfa. -/
namespace Go.Proofs.YthglciccejholaaDoor
set_option linter.unusedSimpArgs false
set_option linter.unusedVariables false
set_option maxRecDepth 100000
open Go.RowKit Go.Shelf
/- DfaReaches. -/
open Go.Maps
def zB (l : List Bool) : Array Value := (l.map fun b => Value.bool b).toArray
def isF : Value → Bool
  | .bool false => true
  | _ => false
def cF (l : List Bool) : Nat := (zB l).toList.countP isF
def bcnt (w : World) (b : Nat) : Nat := match w.heap[b]? with
  | some (.cells cs _ _) => cs.toList.countP isF
  | _ => 0
theorem bcnt_of {w : World} {b : Nat} {l : List Bool} {t : TypeId} (h : w.heap[b]? = some (.cells (zB l) t (0, 0))) : bcnt w b = cF l := by unfold bcnt cF; rw [h]
theorem zB_set (l : List Bool) (k : Nat) (x : Bool) : (zB l).setIfInBounds k (.bool x) = zB (l.set k x) := by
  unfold zB
  rw [List.setIfInBounds_toArray, List.map_set]
theorem zB_get (l : List Bool) (k : Nat) (h : k < l.length) : (zB l)[k]? = some (.bool (l.getD k false)) := by
  unfold zB
  rw [List.getElem?_toArray, List.getElem?_map, List.getElem?_eq_getElem h]
  simp [List.getD, h]
theorem cF_cons (b : Bool) (l : List Bool) : cF (b :: l) = (if b then 0 else 1) + cF l := by
  unfold cF zB
  cases b <;> simp [isF, List.countP_cons] <;> omega
theorem cF_set : ∀ (l : List Bool) (k : Nat) (x : Bool), (l.getD k false = true → x = true) → cF (l.set k x) ≤ cF l ∧ (k < l.length → l.getD k false = false → x = true → cF (l.set k x) < cF l)
  | [], k, x, _ => by simp
  | b :: l, 0, x, h => by
    rw [List.set_cons_zero, cF_cons, cF_cons]
    simp only [List.getD_cons_zero] at h ⊢
    cases b <;> cases x <;> simp at h ⊢
  | b :: l, k + 1, x, h => by
    rw [List.set_cons_succ, cF_cons, cF_cons]
    simp only [List.getD_cons_succ] at h ⊢
    have ih := cF_set l k x h
    refine ⟨by omega, fun h1 h2 h3 => ?_⟩
    have := ih.2 (by simpa using h1) h2 h3
    omega
theorem getB_set (l : List Bool) (k j : Nat) (x : Bool) (h : k < l.length) : (l.set k x).getD j false = if k = j then x else l.getD j false := by
  simp only [List.getD_eq_getElem?_getD, List.getElem?_set]
  by_cases e : k = j
  · subst e; simp [h]
  · simp [e]
theorem info4c : (Tryd.prog.info? 4).map (fun i => (i.zero, i.size, i.bytes)) = some (some (.bool false), 1, 1) := by kernel_rfl
theorem make_bb (n : Nat) (hn : n ≤ 4096) (w : World) : (Instr.makeSlice 69 (.int .i64 (n : Nat)) (.int .i64 (n : Nat))).run Tryd.prog w = .ok (.slice (some ⟨w.heap.size, 0, none⟩) n n) (w.alloc (.cells (zB (List.replicate n false)) 4)) := by
  obtain ⟨i0, hi, hz0, hz1, hz2⟩ := info_parts info4c
  have h := run_makeSlice (P := Tryd.prog) w 69 4 i0 (.bool false) Tryd.underlying69 hi hz0 .i64 .i64 (n : Int) (n : Int) (by omega) (by omega) (by rw [hz1]; omega) (by rw [hz2]; omega) (by omega)
  rw [h, hz1]
  have e : madeCells (Value.bool false).cells ((n : Int).toNat * 1) = zB (List.replicate n false) := by
    rw [Int.toNat_natCast, Nat.mul_one]
    apply Array.ext_getElem?
    intro i
    by_cases hi : i < n
    · simp [madeCells, zB, hi, Nat.mod_one, Value.cells]
    · rw [Array.getElem?_eq_none (by simp [madeCells]; omega), Array.getElem?_eq_none (by simp [zB]; omega)]
  rw [e, Int.toNat_natCast]
/-- At a place of a row nothing changes any more. -/
def Cl1 (d : Df) (T E : List Bool) (i c : Nat) : Prop := ∀ (r : List Int) (s : Nat), d.nx[i]? = some r → r[c]? = some (s : Int) → (T.getD i false = true → T.getD s false = true) ∧ (E.getD s false = true → E.getD i false = true)
/-- What the loops hold. -/
structure RI (d : Df) (n : Nat) (T E : List Bool) : Prop where
  tl : T.length = n
  el : E.length = n
  t0 : T.getD 0 false = true
  e0 : ∀ i, i < n → 0 ≤ d.rl.getD i (-1) → E.getD i false = true
theorem RI.put {d : Df} {n : Nat} {T E : List Bool} (h : RI d n T E) {i s : Nat} (hi : i < n) (hs : s < n) : RI d n (T.set s (T.getD s false || T.getD i false)) (E.set i (E.getD i false || E.getD s false)) := by
  refine ⟨by simpa using h.tl, by simpa using h.el, ?_, fun j hj hr => ?_⟩
  · rw [getB_set _ _ _ _ (by rw [h.tl]; exact hs)]
    split
    · rename_i e; subst e; rw [h.t0]; rfl
    · exact h.t0
  · rw [getB_set _ _ _ _ (by rw [h.el]; exact hi)]
    split
    · rename_i e; subst e; rw [h.e0 _ hj hr]; rfl
    · exact h.e0 j hj hr
theorem put_cnt {T E : List Bool} {i s : Nat} (hi : i < E.length) (hs : s < T.length) (h : (T.getD i false = true ∧ T.getD s false = false) ∨ (E.getD s false = true ∧ E.getD i false = false)) : cF (T.set s (T.getD s false || T.getD i false)) + cF (E.set i (E.getD i false || E.getD s false)) < cF T + cF E := by
  have h1 := cF_set T s (T.getD s false || T.getD i false) (fun e => by rw [e]; rfl)
  have h2 := cF_set E i (E.getD i false || E.getD s false) (fun e => by rw [e]; rfl)
  rcases h with ⟨a, b⟩ | ⟨a, b⟩
  · have := h1.2 hs b (by rw [a]; simp); omega
  · have := h2.2 hi b (by rw [a]; simp); omega
theorem fix_of {d : Df} {n : Nat} {T E : List Bool} (h : RI d n T E) (hn : d.nx.length = n) (hc : ∀ i, i < n → ∀ c, Cl1 d T E i c) : Fix d (fun i => T.getD i false) (fun i => E.getD i false) :=
  ⟨h.t0, fun i hi => h.e0 i (by omega), fun i r c s h1 h2 => hc i (by rw [← hn]; exact (List.getElem?_eq_some_iff.1 h1).1) c r s h1 h2⟩

end Go.Proofs.YthglciccejholaaDoor
end
section
/- Package dfa. -/
namespace Go.Proofs.YthglciccejholaaDoor
set_option linter.unusedSimpArgs false
set_option linter.unusedVariables false
set_option maxRecDepth 100000
open Go.RowKit Go.Shelf
/- DfaReaches' walk. -/
open Go.Maps
theorem sem_ofD2 {st : Int} {ss : List Nst} {d : Df} (h : ofD st ss = (d, 0)) (hok : ∀ s ∈ ss, okW s.u) : chkD d = 0 ∧ d.st = 0 ∧ 0 < d.nx.length ∧ ∀ T E, Fix d T E → ∀ j, j < d.nx.length → T j = true ∧ (0 < j → E j = true) := by
  obtain ⟨hc, S, N, hF, hd⟩ := ofD_ok h
  obtain ⟨-, -, hst, -⟩ := chk_facts hc
  obtain ⟨s0, rfl⟩ : ∃ s0 : Nat, st = (s0 : Int) := ⟨st.toNat, by omega⟩
  have hs := sem_of hc hF
  have hq := semq_of hc hF
  have hnl : (autX (soF ss) ss S N).nx.length = S.length := by unfold autX; simp only [List.length_map]; exact hs.ln
  subst hd
  exact ⟨sem_chk hc hs, rfl, by rw [hnl]; exact hs.pos, fun T E hf => fix_all hc hok hs hq hf⟩
set_option maxHeartbeats 64000000 in
theorem reaches_any {D : Nat → Prop} {w : World} {st : Int} {ss : List Nst} {q : Option Addr} {c : Nat} (hD : ∀ b, D b → b < w.heap.size) (hSV : SV D w ss (.slice q ss.length c)) (hfl : ∀ s ∈ ss, s.fr.length ≤ 9223372036854775806) (hln : ss.length ≤ 9223372036854775806) (hok : ∀ s ∈ ss, okW s.u) (h0 : 0 < w.heap.size) (hT : R5.Tb w) :
    Calls Tryd.prog 9 #[nV st q ss.length c] w fun e w' => e = .returned (.bool true) ∧ Below w.heap.size w w' := by
  have hz := (zero_of_info info26r).1
  have HDL := Lib.hid (fun (z : World) (hb : Below w.heap.size w z) => (fun b h => Nat.lt_of_lt_of_le (hD b h) hb.size : ∀ b, D b → b < z.heap.size))
  have HSV := Lib.hid (fun (z : World) (hb : Below w.heap.size w z) => hSV.mono (D := D) (E := D) (fun b h => h) (fun b h _ => hb.block b (hD b h)))
  have HT0 := Lib.hid (fun (z : World) (hb : Below w.heap.size w z) => (And.intro (by have := hb.size; omega) (hT.mono (hb.block 0 h0)) : 0 < z.heap.size ∧ R5.Tb z))
  have HAL := Lib.hid (fun (z : World) (hb : Below w.heap.size w z) => alive7_any (HT0.out z hb).1 (HT0.out z hb).2)
  have HBIG := Lib.hid (fun (z : World) (hb : Below w.heap.size w z) => nbig_any (w := z) (st := st) 300 (by omega) (HDL.out z hb) (HSV.out z hb) hfl hln)
  have HOF := Lib.hid (fun (z : World) (hb : Below w.heap.size w z) => dof_any (w := z) (st := st) (HDL.out z hb) (HSV.out z hb) hfl hln hok (HT0.out z hb).1 (HT0.out z hb).2)
  have HOK := Lib.hid hok
  clear hD hSV h0 hT hok hfl
  obtain ⟨b1, hb1⟩ : ∃ b, w.heap.size = b := ⟨_, rfl⟩
  have S0 := Lib.hid ((Sep.start w).allocAt hb1 (.cells #[.int .i64 st, .slice q ss.length c] 33))
  unfold nV at HBIG HOF ⊢
  go_enter Tryd.func9, Tryd.ntmps9
  go_upto_region 1 with fail
  refine at_world (fun v => Sep w.heap.size w v [.box b1 (.cells #[.int .i64 st, .slice q ss.length c] 33)]) S0.out fun y hy => ?_
  have S1 := Lib.hid hy
  clear S0 hy hb1
  have c0 : y.cell? ⟨b1, 0, none⟩ = some (.int .i64 st) := S1.out.boxAt 0
  have c1 : y.cell? ⟨b1, 1, none⟩ = some (.slice q ss.length c) := S1.out.boxAt 1
  go_wp2_with fail
  refine (HBIG.out y S1.out.bel).mono ?_
  rintro _ w1 ⟨rfl, hbb⟩
  have S2 := Lib.hid (S1.out.up hbb)
  clear hbb S1 HBIG c0 c1
  obtain ⟨bg, hbg⟩ : ∃ bg, bigN 300 ss = bg := ⟨_, rfl⟩
  rw [hbg]
  clear hbg
  cases bg with
  | true =>
    go_wp2_with fail
    go_ret
    exact ⟨rfl, S2.out.bel⟩
  | false =>
    obtain ⟨⟨d, e⟩, hR⟩ : ∃ R, ofD st ss = R := ⟨_, rfl⟩
    have hlen := ofD_len st ss
    rw [hR] at HOF hlen
    have HR := Lib.hid hR
    have HLN := Lib.hid hlen
    clear hR hlen
    have c0 : w1.cell? ⟨b1, 0, none⟩ = some (.int .i64 st) := S2.out.boxAt 0
    have c1 : w1.cell? ⟨b1, 1, none⟩ = some (.slice q ss.length c) := S2.out.boxAt 1
    go_wp2_with fail
    refine (HOF.out w1 S2.out.bel).mono ?_
    rintro _ w2 ⟨ds, p, c2, q2, f2, zs, rfl, hdc, hz7, hs⟩
    simp only at hdc hz7 hs ⊢
    have HDC := Lib.hid hdc
    have S3 := Lib.hid (S2.out.join hs)
    obtain ⟨b5, hb5⟩ : ∃ b, w2.heap.size = b := ⟨_, rfl⟩
    have S4 := Lib.hid (S3.out.allocAt hb5 (.cells zero26 48))
    have HBX := Lib.hid S4.out.at.2
    have HZ7 := Lib.hid hz7
    clear hs hz7 hdc HOF c0 c1 S2
    go_upto_region 4 with (refine wpList_store_row rfl 48 (.tmp 3) (.tmp 19) rfl b5 ds rfl rfl 48 _ HBX.out (by rw [info26, HDC.out.sz]) (by rw [zero26_size, HDC.out.sz]) (by first | exact Array.all_eq_true_iff_forall_mem.2 HDC.out.one | exact Array.all_eq_true.2 (fun i hi => HDC.out.one _ (Array.getElem_mem hi))) ?_)
    refine at_world (fun v => Sep w.heap.size w v (.box b5 (.cells ds 48) :: ((.row (.slice p d.nx.length c2) 39 1 zs.length (zs.map zV) :: .row (.slice q2 d.rl.length f2) 3 1 d.rl.length (zi d.rl) :: (zs.map zI ++ [])) ++ [.box b1 (.cells #[.int .i64 st, .slice q ss.length c] 33)]))) (S4.out.putRow ds) fun z hz2 => ?_
    have S5 := Lib.hid hz2
    clear S3 S4 HBX hb5 hz2 hz
    have HWZ : Hid (∀ v : World, Below z.heap.size z v → Below w.heap.size w v) := Lib.hid fun v hv => (S5.out.up hv).bel
    have HB5 : Hid (∀ v : World, Below z.heap.size z v → BX v b5 ds) := Lib.hid fun v hv => (S5.out.up hv).at.2
    have HB2 : Hid (∀ v : World, Below z.heap.size z v → v.heap[b1]? = some (.cells #[.int .i64 st, .slice q ss.length c] 33 (0, 0))) := Lib.hid fun v hv => ((S5.out.up hv).li (.box b1 (.cells #[.int .i64 st, .slice q ss.length c] 33)) (by simp)).2
    have HDM : Hid (∀ v : World, Below z.heap.size z v → DM (fun b => b < v.heap.size) v d p q2 c2 f2) := Lib.hid fun v hv => dm_of (L := [.box b1 (.cells #[.int .i64 st, .slice q ss.length c] 33)]) HZ7.out (by have h := (S5.out.up hv).tl; rw [List.append_nil] at h; exact h) (fun r hr => by have := HLN.out.1 r hr; omega) (by have := HLN.out.2.1; omega) (by have h8 : d.nx.length ≤ 2048 := HLN.out.2.1; have h9 : d.rl.length = d.nx.length := HLN.out.2.2; omega)
    have HZZ := Lib.hid (Below.refl z.heap.size z)
    clear S5
    by_cases he : e = 0
    case neg =>
      have heI : (e != 0) = true := by simpa using he
      go_wp2_with fail
      refine (HAL.out z (HWZ.out z HZZ.out)).mono ?_
      rintro _ w9 ⟨rfl, hbb⟩
      have HB9 := Lib.hid (HWZ.out w9 hbb)
      clear hbb
      go_wp2_with fail
      go_ret
      exact ⟨rfl, HB9.out⟩
    subst he
    obtain ⟨hck, hst0, hpos, hfix⟩ := sem_ofD2 HR.out HOK.out
    have hmay := chk_may hck
    have hn1 : d.nx.length ≤ 2048 := HLN.out.2.1
    have hn2 : d.rl.length = d.nx.length := HLN.out.2.2
    have hnx : ds[257]? = some (.slice p d.nx.length c2) := HDC.out.nx
    have hrl : ds[258]? = some (.slice q2 d.rl.length f2) := HDC.out.rl
    have hst : ds[0]? = some (.int .i64 d.st) := HDC.out.st
    rw [hst0] at hst
    rw [hn2] at hrl
    obtain ⟨n, hn⟩ : ∃ n, d.nx.length = n := ⟨_, rfl⟩
    rw [hn] at hnx hrl hpos hfix hn1 hn2
    have HN := Lib.hid (And.intro hn hn2)
    have HFX := Lib.hid hfix
    have HMY := Lib.hid hmay.rw
    have K0 : Hid (∀ v : World, BX v b5 ds → v.cell? ⟨b5, 0, none⟩ = some (.int .i64 0) ∧ v.cell? ⟨b5, 257, none⟩ = some (.slice p n c2) ∧ v.cell? ⟨b5, 258, none⟩ = some (.slice q2 n f2)) := Lib.hid fun v hv => ⟨(hv.cell 0).trans hst, (hv.cell 257).trans hnx, (hv.cell 258).trans hrl⟩
    have HCK := Lib.hid (d7_check_any HDC.out (HDM.out z HZZ.out))
    rw [hck] at HCK
    have HX := Lib.hid (HB5.out z HZZ.out)
    clear hck hst0 hfix hmay hnx hrl hst hn hn2 HR
    go_wp2_with (refine wpList_load_D rfl (.tmp 3) rfl b5 ds rfl HX.out HDC.out.sz ?_)
    refine HCK.out.mono ?_
    rintro _ w5 ⟨rfl, hb5⟩
    have HB6 := Lib.hid hb5
    obtain ⟨k0, k257, k258⟩ := K0.out w5 (HB5.out w5 hb5)
    clear hb5 HCK HX
    have hne0 : ((n : Int) == 0) = false := by
      rw [Bool.eq_false_iff]; intro h; have := eq_of_beq h; omega
    have hnn : ((n : Int) != (n : Int)) = false := by simp
    have HNV := Lib.hid (HDM.out w5 HB6.out)
    have HROW : Hid (∃ g og, p = some ⟨g, og, none⟩ ∧ ∀ i (hi : i < d.nx.length), ∃ qi fi, ∀ v : World, Below w5.heap.size w5 v → v.cell? ⟨g, og + i, none⟩ = some (.slice qi d.nx[i].length fi) ∧ ∀ cc (hc : cc < d.nx[i].length), ∃ bq oq, qi = some ⟨bq, oq, none⟩ ∧ v.cell? ⟨bq, oq + cc, none⟩ = some (.int .i64 d.nx[i][cc])) := Lib.hid (by
      obtain ⟨p', c', he, hh⟩ := HNV.out.nx
      injection he with e1 e2 e3
      subst e1
      obtain ⟨g, og, e, hg, hx⟩ := hh (by intro e; have h1 := HN.out.1; rw [e] at h1; simp at h1; omega)
      refine ⟨g, og, e, fun i hi => ?_⟩
      obtain ⟨qi, fi, hiv, hce⟩ := hx i hi
      refine ⟨qi, fi, fun v hv => ⟨(cell_same (hv.block g hg) _).trans hce, fun cc hc => ?_⟩⟩
      obtain ⟨p2, c3, he2, hh2⟩ := hiv
      injection he2 with e4 e5 e6
      subst e4
      obtain ⟨bq, oq, e7, hbq, hcc⟩ := hh2 (by intro e; rw [e] at hc; simp at hc)
      exact ⟨bq, oq, e7, (cell_same (hv.block bq hbq) _).trans (hcc cc hc)⟩)
    have HRLC : Hid (∃ g og, q2 = some ⟨g, og, none⟩ ∧ ∀ v : World, Below w5.heap.size w5 v → ∀ i, i < n → v.cell? ⟨g, og + i, none⟩ = some (.int .i64 (d.rl.getD i (-1)))) := Lib.hid (by
      obtain ⟨p', c', he, hh⟩ := HNV.out.rl
      injection he with e1 e2 e3
      subst e1
      obtain ⟨g, og, e, hg, hx⟩ := hh (by intro e; have h1 := HN.out.2; rw [e] at h1; simp at h1; omega)
      refine ⟨g, og, e, fun v hv i hi => ?_⟩
      have hi2 : i < d.rl.length := by rw [HN.out.2]; exact hi
      rw [(cell_same (hv.block g hg) _).trans (hx i hi2)]
      simp [List.getD, hi2])
    obtain ⟨g, og, rfl, HRW⟩ := HROW.out
    obtain ⟨gr, orr, rfl, HRC⟩ := HRLC.out
    have HRW := Lib.hid HRW
    have HRC := Lib.hid HRC
    clear HNV HROW HRLC
    have HBX : Hid (∀ v : World, Below w5.heap.size w5 v → BX v b5 ds) := Lib.hid fun v hv => HB5.out v (HB6.out.trans (hv.mono HB6.out.size))
    have HWW : Hid (∀ v : World, Below w5.heap.size w5 v → Below w.heap.size w v) := Lib.hid fun v hv => HWZ.out v (HB6.out.trans (hv.mono HB6.out.size))
    have hm1 := make_bb n (by omega) w5
    obtain ⟨bT, hbT⟩ : ∃ b, w5.heap.size = b := ⟨_, rfl⟩
    have S1 := Lib.hid ((Sep.start w5).allocAt hbT (.cells (zB (List.replicate n false)) 4))
    rw [hbT] at hm1
    go_upto_region 10 with fail
    refine at_world (fun v => Sep w5.heap.size w5 v [.box bT (.cells (zB (List.replicate n false)) 4)]) S1.out fun y1 hy1 => ?_
    have S2 := Lib.hid hy1
    clear S1 hy1 hm1 hbT k0 k257 k258
    have hm2 := make_bb n (by omega) y1
    obtain ⟨bE, hbE⟩ : ∃ b, y1.heap.size = b := ⟨_, rfl⟩
    have S3 := Lib.hid ((S2.out.allocAt hbE (.cells (zB (List.replicate n false)) 4)))
    rw [hbE] at hm2
    go_upto_region 11 with fail
    refine at_world (fun v => Sep w5.heap.size w5 v [.box bE (.cells (zB (List.replicate n false)) 4), .box bT (.cells (zB (List.replicate n false)) 4)]) S3.out fun y2 hy2 => ?_
    have S4 := Lib.hid hy2.swap
    clear S2 S3 hy2 hm2 hbE
    have hposI : (0 : Int) < (n : Int) := by omega
    have hrl0 : (List.replicate n false).length = n := by simp
    have kT : y2.cell? ⟨bT, 0, none⟩ = some (.bool ((List.replicate n false).getD 0 false)) := (S4.out.boxAt 0).trans (zB_get _ _ (by rw [hrl0]; exact hpos))
    have fT : y2.frozen? ⟨bT, 0, none⟩ = false := S4.out.fz 0
    have S5 := Lib.hid (S4.out.setc 0 (.bool true)).swap
    rw [zB_set] at S5
    have HT0 : Hid (((List.replicate n false).set 0 true).length = n ∧ ((List.replicate n false).set 0 true).getD 0 false = true) := Lib.hid ⟨by simp, by rw [getB_set _ _ _ _ (by simp; omega), if_pos rfl]⟩
    generalize (List.replicate n false).set 0 true = T0 at S5 HT0
    generalize (List.replicate n false).getD 0 false = z0 at kT
    clear hrl0 S4
    go_upto_region 13 with fail
    clear kT fT
    go_loopw [8] (fun i v => ∃ (j : Nat) (E : List Bool), i = .int .i64 (j : Nat) ∧ j ≤ n ∧ Hid (E.length = n ∧ ∀ k, k < j → 0 ≤ d.rl.getD k (-1) → E.getD k false = true) ∧ Hid (Sep w5.heap.size w5 v [.box bE (.cells (zB E) 4), .box bT (.cells (zB T0) 4)])) (fun i _ => n - (intOf i).toNat)
    case atStart => exact ⟨0, List.replicate n false, rfl, by omega, Lib.hid ⟨by simp, fun k hk => by omega⟩, S5⟩
    case round =>
    clear S5
    obtain ⟨j, E, rfl, hj, HE, HS⟩ := hrel
    obtain ⟨Z, rfl⟩ : ∃ W : World, W = wr := ⟨_, rfl⟩
    by_cases hlt : j < n
    · have hltI : (j : Int) < (n : Int) := by omega
      have hjI : ¬ (j : Int) < 0 := by omega
      obtain ⟨-, -, k258⟩ := K0.out Z (HBX.out Z HS.out.bel)
      have kr := HRC.out Z HS.out.bel j hlt
      have kE : Z.cell? ⟨bE, j, none⟩ = some (.bool (E.getD j false)) := (HS.out.boxAt j).trans (zB_get _ _ (by rw [HE.out.1]; exact hlt))
      have fE : Z.frozen? ⟨bE, j, none⟩ = false := HS.out.fz j
      obtain ⟨rv, hrv⟩ : ∃ r, d.rl.getD j (-1) = r := ⟨_, rfl⟩
      rw [hrv] at kr
      obtain ⟨tv, htv⟩ : ∃ b, decide (0 ≤ rv) = b := ⟨_, rfl⟩
      have S6 := Lib.hid (HS.out.setc j (.bool tv))
      rw [zB_set] at S6
      have HE2 : Hid ((E.set j tv).length = n ∧ ∀ k, k < j + 1 → 0 ≤ d.rl.getD k (-1) → (E.set j tv).getD k false = true) := Lib.hid ⟨by simp [HE.out.1], fun k hk hr => by
        rw [getB_set _ _ _ _ (by rw [HE.out.1]; exact hlt)]
        by_cases e : j = k
        · subst e
          rw [if_pos rfl, ← htv]
          rw [hrv] at hr
          exact decide_eq_true hr
        · rw [if_neg e]
          exact HE.out.2 k (by omega) hr⟩
      have hge : (decide (rv ≥ 0)) = tv := htv
      generalize E.getD j false = ev at kE
      clear hrv HS HE
      go_wp2_with fail
      go_roundw
      case rel => exact ⟨j + 1, E.set j tv, by go_num, by omega, HE2, S6⟩
      case measure => simp [intOf]; omega
    · obtain rfl : j = n := by omega
      have hltI : ¬ (j : Int) < (j : Int) := by omega
      have HRI : Hid (RI d j T0 E) := Lib.hid ⟨HT0.out.1, HE.out.1, HT0.out.2, fun i hi h => HE.out.2 i hi h⟩
      have hne : bE ≠ bT := fun e => (List.pairwise_cons.1 HS.out.ap).1 (.box bT (.cells (zB T0) 4)) (by simp) bE rfl (by rw [e]; rfl)
      have HSW : Hid (Sep w5.heap.size w5 Z [.box bE (.cells (zB E) 4), .box bT (.cells (zB T0) 4)]) := HS
      clear HE HS HT0 hlt hj
      go_upto_region 17 with fail
      go_loopw [9] (fun m v => ∃ (mr : Bool) (T E : List Bool), m = .bool mr ∧ Hid (RI d j T E) ∧ Hid (mr = false → ∀ i, i < j → ∀ c, Cl1 d T E i c) ∧ Hid (Sep w5.heap.size w5 v [.box bE (.cells (zB E) 4), .box bT (.cells (zB T) 4)])) (fun m v => (match m with | .bool true => 1 | _ => 0) + 2 * (bcnt v bT + bcnt v bE))
      case atStart => exact ⟨true, T0, E, rfl, HRI, Lib.hid (fun h => by cases h), HSW⟩
      case round =>
      clear HRI HSW
      obtain ⟨mr, T, E, rfl, HRI, HCL, HS⟩ := hrel
      obtain ⟨Z, rfl⟩ : ∃ W : World, W = wr := ⟨_, rfl⟩
      have HC0 : Hid (bcnt Z bT = cF T ∧ bcnt Z bE = cF E) := Lib.hid ⟨bcnt_of HS.out.tl.at.2, bcnt_of HS.out.at.2⟩
      cases mr with
      | false =>
        have hall := HFX.out _ _ (fix_of HRI.out HN.out.1 (HCL.out rfl))
        have HALL := Lib.hid hall
        clear hall HCL HC0
        go_upto_region 32 with fail
        go_loopw [13] (fun i v => ∃ k : Nat, i = .int .i64 (k : Nat) ∧ k ≤ j ∧ Hid (Sep w5.heap.size w5 v [.box bE (.cells (zB E) 4), .box bT (.cells (zB T) 4)])) (fun i _ => j - (intOf i).toNat)
        case atStart => exact ⟨0, rfl, by omega, HS⟩
        case round =>
        clear HS
        obtain ⟨k, rfl, hk, HS⟩ := hrel
        obtain ⟨Z, rfl⟩ : ∃ W : World, W = wr := ⟨_, rfl⟩
        by_cases hlt : k < j
        · have hltI : (k : Int) < (j : Int) := by omega
          have hkI : ¬ (k : Int) < 0 := by omega
          have hA := HALL.out k hlt
          have kT : Z.cell? ⟨bT, k, none⟩ = some (.bool true) := by rw [← hA.1]; exact (HS.out.tl.boxAt k).trans (zB_get _ _ (by rw [HRI.out.tl]; exact hlt))
          by_cases hk0 : 0 < k
          · have hk0I : (0 : Int) < (k : Int) := by omega
            have kE : Z.cell? ⟨bE, k, none⟩ = some (.bool true) := by rw [← hA.2 hk0]; exact (HS.out.boxAt k).trans (zB_get _ _ (by rw [HRI.out.el]; exact hlt))
            clear hA
            go_wp2_with fail
            go_roundw
            case rel => exact ⟨k + 1, by go_num, by omega, HS⟩
            case measure => simp [intOf]; omega
          · have hk0I : ¬ (0 : Int) < (k : Int) := by omega
            clear hA
            go_wp2_with fail
            go_roundw
            case rel => exact ⟨k + 1, by go_num, by omega, HS⟩
            case measure => simp [intOf]; omega
        · obtain rfl : k = j := by omega
          have hltI : ¬ (k : Int) < (k : Int) := by omega
          go_wp2_with fail
          refine (HAL.out Z (HWW.out Z HS.out.bel)).mono ?_
          rintro _ w9 ⟨rfl, hbb⟩
          have S9 := Lib.hid (HS.out.up hbb)
          clear hbb HS
          go_wp2_with fail
          go_ret
          exact ⟨rfl, HWW.out w9 S9.out.bel⟩
      | true =>
        obtain ⟨C0, hC0⟩ : ∃ C, cF T + cF E = C := ⟨_, rfl⟩
        have HCZ : Hid (bcnt Z bT + bcnt Z bE = C0) := Lib.hid (by rw [HC0.out.1, HC0.out.2, hC0])
        have HCC := Lib.hid hC0
        clear HCL HC0 hC0
        go_upto_region 20 with fail
        go_loopw [9, 10] (fun m i v => ∃ (mr : Bool) (k : Nat) (T E : List Bool), m = .bool mr ∧ i = .int .i64 (k : Nat) ∧ k ≤ j ∧ Hid (RI d j T E) ∧ Hid (mr = false → ∀ i, i < k → ∀ c, Cl1 d T E i c) ∧ Hid (cF T + cF E + (if mr then 1 else 0) ≤ C0) ∧ Hid (Sep w5.heap.size w5 v [.box bE (.cells (zB E) 4), .box bT (.cells (zB T) 4)])) (fun _ i _ => j - (intOf i).toNat)
        case atStart => exact ⟨false, 0, T, E, rfl, rfl, by omega, HRI, Lib.hid (fun _ i hi => by omega), Lib.hid (by have := HCC.out; simp; omega), HS⟩
        case round =>
        clear HRI HCC HS
        obtain ⟨mr, k, T, E, rfl, rfl, hk, HRI, HCL, HCT, HS⟩ := hrel
        obtain ⟨Z, rfl⟩ : ∃ W : World, W = wr := ⟨_, rfl⟩
        by_cases hlt : k < j
        · have hltI : (k : Int) < (j : Int) := by omega
          have hkI : ¬ (k : Int) < 0 := by omega
          have hkd : k < d.nx.length := by rw [HN.out.1]; exact hlt
          obtain ⟨qi, fi, HRK⟩ := HRW.out k hkd
          have HRK := Lib.hid HRK
          obtain ⟨row, hrow⟩ : ∃ r, d.nx[k] = r := ⟨_, rfl⟩
          rw [hrow] at HRK
          have HRO : Hid (d.nx[k]? = some row) := Lib.hid (by rw [List.getElem?_eq_getElem hkd, hrow])
          have HRB : Hid (∀ x ∈ row, x < (j : Int)) := Lib.hid (by rw [← hrow, ← HN.out.1]; exact (HMY.out d.nx[k] (List.getElem_mem hkd)).2)
          have hrl9 : row.length ≤ 4096 := by rw [← hrow]; have := HLN.out.1 d.nx[k] (List.getElem_mem hkd); omega
          clear hrow
          go_upto_region 23 with fail
          go_loopw [9, 11] (fun m i v => ∃ (mr : Bool) (cc : Nat) (T E : List Bool), m = .bool mr ∧ i = .int .i64 (cc : Nat) ∧ cc ≤ row.length ∧ Hid (RI d j T E) ∧ Hid (mr = false → (∀ i, i < k → ∀ c, Cl1 d T E i c) ∧ ∀ c, c < cc → Cl1 d T E k c) ∧ Hid (cF T + cF E + (if mr then 1 else 0) ≤ C0) ∧ Hid (Sep w5.heap.size w5 v [.box bE (.cells (zB E) 4), .box bT (.cells (zB T) 4)])) (fun _ i _ => row.length - (intOf i).toNat)
          case atStart => exact ⟨mr, 0, T, E, rfl, rfl, by omega, HRI, Lib.hid (fun h => ⟨HCL.out h, fun c hc => by omega⟩), HCT, HS⟩
          case round =>
          clear HRI HCL HCT HS
          obtain ⟨mr, cc, T, E, rfl, rfl, hcc, HRI, HCL, HCT, HS⟩ := hrel
          obtain ⟨Z, rfl⟩ : ∃ W : World, W = wr := ⟨_, rfl⟩
          obtain ⟨-, k257, -⟩ := K0.out Z (HBX.out Z HS.out.bel)
          obtain ⟨krow, kcell⟩ := HRK.out Z HS.out.bel
          by_cases hlc : cc < row.length
          · have hlcI : (cc : Int) < (row.length : Int) := by omega
            have hcI : ¬ (cc : Int) < 0 := by omega
            obtain ⟨bq, oq, rfl, kx⟩ := kcell cc hlc
            have hxb := HRB.out row[cc] (List.getElem_mem hlc)
            have HRX : Hid (row[cc]? = some row[cc]) := Lib.hid (List.getElem?_eq_getElem hlc)
            generalize row[cc] = x at kx hxb HRX
            clear kcell
            by_cases hx0 : x < 0
            · have HCL2 : Hid (mr = false → (∀ i, i < k → ∀ c, Cl1 d T E i c) ∧ ∀ c, c < cc + 1 → Cl1 d T E k c) := Lib.hid (fun h => ⟨(HCL.out h).1, fun c hc => by
                by_cases e : c = cc
                · subst e
                  intro r s hr hs
                  rw [HRO.out] at hr
                  cases hr
                  rw [HRX.out] at hs
                  injection hs with hs
                  omega
                · exact (HCL.out h).2 c (by omega)⟩)
              clear HCL
              go_wp2_with fail
              go_roundw
              case rel => exact ⟨mr, cc + 1, T, E, rfl, by go_num, by omega, HRI, HCL2, HCT, HS⟩
              case measure => simp [intOf]; omega
            · obtain ⟨s, rfl⟩ : ∃ s : Nat, x = (s : Int) := ⟨x.toNat, by omega⟩
              have hsj : s < j := by omega
              have hsI : (s : Int) < (j : Int) := by omega
              have hs0 : ¬ (s : Int) < 0 := by omega
              obtain ⟨ti, hti⟩ : ∃ b, T.getD k false = b := ⟨_, rfl⟩
              obtain ⟨ts, hts⟩ : ∃ b, T.getD s false = b := ⟨_, rfl⟩
              obtain ⟨ei, hei⟩ : ∃ b, E.getD k false = b := ⟨_, rfl⟩
              obtain ⟨es, hes⟩ : ∃ b, E.getD s false = b := ⟨_, rfl⟩
              have kTi : Z.cell? ⟨bT, k, none⟩ = some (.bool ti) := by rw [← hti]; exact (HS.out.tl.boxAt k).trans (zB_get _ _ (by rw [HRI.out.tl]; exact hlt))
              have kTs : Z.cell? ⟨bT, s, none⟩ = some (.bool ts) := by rw [← hts]; exact (HS.out.tl.boxAt s).trans (zB_get _ _ (by rw [HRI.out.tl]; exact hsj))
              have kEi : Z.cell? ⟨bE, k, none⟩ = some (.bool ei) := by rw [← hei]; exact (HS.out.boxAt k).trans (zB_get _ _ (by rw [HRI.out.el]; exact hlt))
              have kEs : Z.cell? ⟨bE, s, none⟩ = some (.bool es) := by rw [← hes]; exact (HS.out.boxAt s).trans (zB_get _ _ (by rw [HRI.out.el]; exact hsj))
              by_cases hcond : (ti = true ∧ ts = false) ∨ (es = true ∧ ei = false)
              · have fTs : Z.frozen? ⟨bT, s, none⟩ = false := HS.out.tl.fz s
                have HP := Lib.hid (HRI.out.put hlt hsj)
                have hcnt := put_cnt (T := T) (E := E) (i := k) (s := s) (by rw [HRI.out.el]; exact hlt) (by rw [HRI.out.tl]; exact hsj) (by rw [hti, hts, hes, hei]; exact hcond)
                rw [hti, hts, hes, hei] at HP hcnt
                have HCT2 : Hid (cF (T.set s (ts || ti)) + cF (E.set k (ei || es)) + (if true then 1 else 0) ≤ C0) := Lib.hid (by have := HCT.out; simp; cases mr <;> simp at this <;> omega)
                have S7 := Lib.hid ((HS.out.swap.setc s (.bool (ts || ti))).swap)
                rw [zB_set] at S7
                have hE1 := (S7.out.boxAt k).trans (zB_get E k (by rw [HRI.out.el]; exact hlt))
                have hE2 := (S7.out.boxAt s).trans (zB_get E s (by rw [HRI.out.el]; exact hsj))
                have hfE := S7.out.fz k
                rw [hei] at hE1
                rw [hes] at hE2
                have S8 := Lib.hid (S7.out.setc k (.bool (ei || es)))
                rw [zB_set] at S8
                clear hti hts hei hes hcnt HRI HCL HCT HS S7
                cases ti with
                | false =>
                  cases ts with
                  | false =>
                    cases es with
                    | false =>
                      cases ei with
                      | false =>
                        exact absurd hcond (by simp)
                      | true =>
                        exact absurd hcond (by simp)
                    | true =>
                      cases ei with
                      | false =>
                        try simp only [Bool.or_true, Bool.or_false, Bool.true_or, Bool.false_or, Bool.or_self] at hE1 hE2 hfE S8
                        clear hcond
                        go_wp2_with fail
                        go_roundw
                        case rel => exact ⟨true, cc + 1, _, _, rfl, by go_num, by omega, HP, Lib.hid (fun h => by cases h), HCT2, S8⟩
                        case measure => simp [intOf]; omega
                      | true =>
                        exact absurd hcond (by simp)
                  | true =>
                    cases es with
                    | false =>
                      cases ei with
                      | false =>
                        exact absurd hcond (by simp)
                      | true =>
                        exact absurd hcond (by simp)
                    | true =>
                      cases ei with
                      | false =>
                        try simp only [Bool.or_true, Bool.or_false, Bool.true_or, Bool.false_or, Bool.or_self] at hE1 hE2 hfE S8
                        clear hcond
                        go_wp2_with fail
                        go_roundw
                        case rel => exact ⟨true, cc + 1, _, _, rfl, by go_num, by omega, HP, Lib.hid (fun h => by cases h), HCT2, S8⟩
                        case measure => simp [intOf]; omega
                      | true =>
                        exact absurd hcond (by simp)
                | true =>
                  cases ts with
                  | false =>
                    cases es with
                    | false =>
                      cases ei with
                      | false =>
                        try simp only [Bool.or_true, Bool.or_false, Bool.true_or, Bool.false_or, Bool.or_self] at hE1 hE2 hfE S8
                        clear hcond
                        go_wp2_with fail
                        go_roundw
                        case rel => exact ⟨true, cc + 1, _, _, rfl, by go_num, by omega, HP, Lib.hid (fun h => by cases h), HCT2, S8⟩
                        case measure => simp [intOf]; omega
                      | true =>
                        try simp only [Bool.or_true, Bool.or_false, Bool.true_or, Bool.false_or, Bool.or_self] at hE1 hE2 hfE S8
                        clear hcond
                        go_wp2_with fail
                        go_roundw
                        case rel => exact ⟨true, cc + 1, _, _, rfl, by go_num, by omega, HP, Lib.hid (fun h => by cases h), HCT2, S8⟩
                        case measure => simp [intOf]; omega
                    | true =>
                      cases ei with
                      | false =>
                        try simp only [Bool.or_true, Bool.or_false, Bool.true_or, Bool.false_or, Bool.or_self] at hE1 hE2 hfE S8
                        clear hcond
                        go_wp2_with fail
                        go_roundw
                        case rel => exact ⟨true, cc + 1, _, _, rfl, by go_num, by omega, HP, Lib.hid (fun h => by cases h), HCT2, S8⟩
                        case measure => simp [intOf]; omega
                      | true =>
                        try simp only [Bool.or_true, Bool.or_false, Bool.true_or, Bool.false_or, Bool.or_self] at hE1 hE2 hfE S8
                        clear hcond
                        go_wp2_with fail
                        go_roundw
                        case rel => exact ⟨true, cc + 1, _, _, rfl, by go_num, by omega, HP, Lib.hid (fun h => by cases h), HCT2, S8⟩
                        case measure => simp [intOf]; omega
                  | true =>
                    cases es with
                    | false =>
                      cases ei with
                      | false =>
                        exact absurd hcond (by simp)
                      | true =>
                        exact absurd hcond (by simp)
                    | true =>
                      cases ei with
                      | false =>
                        try simp only [Bool.or_true, Bool.or_false, Bool.true_or, Bool.false_or, Bool.or_self] at hE1 hE2 hfE S8
                        clear hcond
                        go_wp2_with fail
                        go_roundw
                        case rel => exact ⟨true, cc + 1, _, _, rfl, by go_num, by omega, HP, Lib.hid (fun h => by cases h), HCT2, S8⟩
                        case measure => simp [intOf]; omega
                      | true =>
                        exact absurd hcond (by simp)
              · have HCL2 : Hid (mr = false → (∀ i, i < k → ∀ c, Cl1 d T E i c) ∧ ∀ c, c < cc + 1 → Cl1 d T E k c) := Lib.hid (fun h => ⟨(HCL.out h).1, fun c hc => by
                  by_cases e : c = cc
                  · subst e
                    intro r s' hr hs
                    rw [HRO.out] at hr
                    cases hr
                    rw [HRX.out] at hs
                    injection hs with hs
                    have e2 : s' = s := by omega
                    subst e2
                    rw [hti, hts, hes, hei]
                    constructor
                    · intro a; cases ts with
                      | true => rfl
                      | false => exact absurd (.inl ⟨a, rfl⟩) hcond
                    · intro a; cases ei with
                      | true => rfl
                      | false => exact absurd (.inr ⟨a, rfl⟩) hcond
                  · exact (HCL.out h).2 c (by omega)⟩)
                clear hti hts hei hes HCL
                cases ti with
                | false =>
                  cases ts with
                  | false =>
                    cases es with
                    | false =>
                      cases ei with
                      | false =>
                        clear hcond
                        go_wp2_with fail
                        go_roundw
                        case rel => exact ⟨mr, cc + 1, T, E, rfl, by go_num, by omega, HRI, HCL2, HCT, HS⟩
                        case measure => simp [intOf]; omega
                      | true =>
                        clear hcond
                        go_wp2_with fail
                        go_roundw
                        case rel => exact ⟨mr, cc + 1, T, E, rfl, by go_num, by omega, HRI, HCL2, HCT, HS⟩
                        case measure => simp [intOf]; omega
                    | true =>
                      cases ei with
                      | false =>
                        exact absurd (by simp) hcond
                      | true =>
                        clear hcond
                        go_wp2_with fail
                        go_roundw
                        case rel => exact ⟨mr, cc + 1, T, E, rfl, by go_num, by omega, HRI, HCL2, HCT, HS⟩
                        case measure => simp [intOf]; omega
                  | true =>
                    cases es with
                    | false =>
                      cases ei with
                      | false =>
                        clear hcond
                        go_wp2_with fail
                        go_roundw
                        case rel => exact ⟨mr, cc + 1, T, E, rfl, by go_num, by omega, HRI, HCL2, HCT, HS⟩
                        case measure => simp [intOf]; omega
                      | true =>
                        clear hcond
                        go_wp2_with fail
                        go_roundw
                        case rel => exact ⟨mr, cc + 1, T, E, rfl, by go_num, by omega, HRI, HCL2, HCT, HS⟩
                        case measure => simp [intOf]; omega
                    | true =>
                      cases ei with
                      | false =>
                        exact absurd (by simp) hcond
                      | true =>
                        clear hcond
                        go_wp2_with fail
                        go_roundw
                        case rel => exact ⟨mr, cc + 1, T, E, rfl, by go_num, by omega, HRI, HCL2, HCT, HS⟩
                        case measure => simp [intOf]; omega
                | true =>
                  cases ts with
                  | false =>
                    cases es with
                    | false =>
                      cases ei with
                      | false =>
                        exact absurd (by simp) hcond
                      | true =>
                        exact absurd (by simp) hcond
                    | true =>
                      cases ei with
                      | false =>
                        exact absurd (by simp) hcond
                      | true =>
                        exact absurd (by simp) hcond
                  | true =>
                    cases es with
                    | false =>
                      cases ei with
                      | false =>
                        clear hcond
                        go_wp2_with fail
                        go_roundw
                        case rel => exact ⟨mr, cc + 1, T, E, rfl, by go_num, by omega, HRI, HCL2, HCT, HS⟩
                        case measure => simp [intOf]; omega
                      | true =>
                        clear hcond
                        go_wp2_with fail
                        go_roundw
                        case rel => exact ⟨mr, cc + 1, T, E, rfl, by go_num, by omega, HRI, HCL2, HCT, HS⟩
                        case measure => simp [intOf]; omega
                    | true =>
                      cases ei with
                      | false =>
                        exact absurd (by simp) hcond
                      | true =>
                        clear hcond
                        go_wp2_with fail
                        go_roundw
                        case rel => exact ⟨mr, cc + 1, T, E, rfl, by go_num, by omega, HRI, HCL2, HCT, HS⟩
                        case measure => simp [intOf]; omega
          · obtain rfl : cc = row.length := by omega
            have hlcI : ¬ (row.length : Int) < (row.length : Int) := by omega
            have HCL2 : Hid (mr = false → ∀ i, i < k + 1 → ∀ c, Cl1 d T E i c) := Lib.hid (fun h i hi c => by
              by_cases e : i = k
              · subst e
                by_cases hc : c < row.length
                · exact (HCL.out h).2 c hc
                · intro r s hr hs
                  rw [HRO.out] at hr
                  cases hr
                  rw [List.getElem?_eq_none (by omega)] at hs
                  cases hs
              · exact (HCL.out h).1 i (by omega) c)
            clear HCL kcell
            go_wp2_with fail
            go_roundw
            case rel => exact ⟨mr, k + 1, T, E, rfl, by go_num, by omega, HRI, HCL2, HCT, HS⟩
            case measure => first | (simp [intOf]; done) | (simp [intOf]; omega)
        · obtain rfl : k = j := by omega
          have hltI : ¬ (k : Int) < (k : Int) := by omega
          have HCZ2 : Hid (bcnt Z bT = cF T ∧ bcnt Z bE = cF E) := Lib.hid ⟨bcnt_of HS.out.tl.at.2, bcnt_of HS.out.at.2⟩
          go_wp2_with fail
          go_roundw
          case rel => exact ⟨mr, T, E, rfl, HRI, HCL, HS⟩
          case measure =>
            have h1 := HCT.out
            have h2 := HCZ.out
            obtain ⟨h3, h4⟩ := HCZ2.out
            rw [h3, h4]
            cases mr <;> simp at h1 ⊢ <;> omega
end Go.Proofs.YthglciccejholaaDoor
end
