import Derived.Deep.Slices
import Derived.OpenShut
import Derived.Laws.IdiomArrays
import Derived.Deep.SlicePairs
import Derived.WideBlind
import Derived.Test.YtmjojahkbjlcdaaDoorProg
import Derived.Test.YtmjojahkbjlcdaaDoorX3
import Derived.Test.YtmjojahkbjlcdaaDoorX4
import Derived.WalkKit
import Derived.WalkLawsBesides
import Derived.WalkSpells
import Derived.Outline
import Derived.Lib.Walk
import Derived.Lib.Hide
import Derived.RegionTactic
import Derived.LoopTactic
import Derived.Below
import Derived.IntWalk
import Derived.Deep.QuietTactic
import Derived.BigQuiet
import Derived.Test.YtmjojahkbjlcdaaDoorX21
namespace Go.Proofs.YtmjojahkbjlcdaaDoor
set_option linter.unusedSimpArgs false
set_option linter.unusedVariables false
set_option maxRecDepth 100000
open Go.RowKit

/- A pattern that was handed in is a tree. -/
open Go.ChangeShapes Go.WideShapes in
theorem u64_nat5 (n : Int) (h : (Lit.int .u64 n).wf = true) : ∃ k : Nat, k < 18446744073709551616 ∧ n = k := by
  have h1 : 0 ≤ n ∧ n ≤ 18446744073709551615 := by
    simpa [Lit.wf, IntKind.min, IntKind.max, IntKind.signed, IntKind.bits] using h
  exact ⟨n.toNat, by omega, by omega⟩
open Go.ChangeShapes Go.WideShapes in
theorem words_open {H : Type} {enc : TypeId × Value → H} {w : World} {base : Nat} {sp : Nat → Bool} {held : Bool} {fuel : Nat} {c0 c1 c2 c3 : Value} {x : DataW H × List MemPlace} (h : DataW.trod enc Tryd.prog w base sp held fuel 24 [c0, c1, c2, c3] = some x) :
    ∃ f, c0 = .int .u64 (wf f 0) ∧ c1 = .int .u64 (wf f 1) ∧ c2 = .int .u64 (wf f 2) ∧ c3 = .int .u64 (wf f 3) := by
  obtain ⟨y0, y1, y2, y3, m, hx, hy0, hy1, hy2, hy3⟩ := trod_array4 Tryd.underlying24 (by kernel_rfl) h
  obtain ⟨x0, e0, rfl, w0⟩ := DataW.trod_int Tryd.underlying22 hy0
  obtain ⟨x1, e1, rfl, w1⟩ := DataW.trod_int Tryd.underlying22 hy1
  obtain ⟨x2, e2, rfl, w2⟩ := DataW.trod_int Tryd.underlying22 hy2
  obtain ⟨x3, e3, rfl, w3⟩ := DataW.trod_int Tryd.underlying22 hy3
  simp at e0 e1 e2 e3
  subst e0 e1 e2 e3
  obtain ⟨k0, l0, rfl⟩ := u64_nat5 _ w0
  obtain ⟨k1, l1, rfl⟩ := u64_nat5 _ w1
  obtain ⟨k2, l2, rfl⟩ := u64_nat5 _ w2
  obtain ⟨k3, l3, rfl⟩ := u64_nat5 _ w3
  refine ⟨ofW k0 k1 k2 k3, ?_⟩
  unfold wf
  rw [ofW0 _ _ _ _ l0, ofW1 _ _ _ _ l1, ofW2 _ _ _ _ l2, ofW3 _ _ _ _ l3]
  exact ⟨rfl, rfl, rfl, rfl⟩
theorem okU_wf5 (f : Nat → Bool) : okU (wf f) := fun i hi => by
  have h : ∀ k, k < 64 → fOf (wf f) (64 * i + k) = f (64 * i + k) := fun k hk => by
    unfold fOf
    have e1 : (64 * i + k) / 64 = i := by omega
    have e2 : (64 * i + k) % 64 = k := by omega
    rw [e1, e2]
    show ((W f i : Nat) : Int).toNat.testBit k = _
    rw [Int.toNat_natCast, W_test f i k hk]
  show ((W f i : Nat) : Int) = ((W (fOf (wf f)) i : Nat) : Int)
  rw [W_congr i h]
theorem okL_of : ∀ {ts : List RT}, (∀ t ∈ ts, okT t) → okL ts
  | [], _ => by rw [okL]; trivial
  | t :: ts, h => by rw [okL]; exact ⟨h t (List.mem_cons_self ..), okL_of fun x hx => h x (List.mem_cons_of_mem _ hx)⟩
theorem widL_of {n : Nat} : ∀ {ts : List RT}, (∀ t ∈ ts, wid t ≤ n) → widL ts ≤ n
  | [], _ => by simp [widL]
  | t :: ts, h => by
    have h1 := h t (List.mem_cons_self ..)
    have h2 := widL_of (ts := ts) fun x hx => h x (List.mem_cons_of_mem _ hx)
    simp only [widL]; omega
theorem weightsAll_mem {H : Type} {P : Program} {e : TypeId} : ∀ {ds : List (DataW H)} {d : DataW H}, d ∈ ds → ∀ n ∈ d.weights P e, n ∈ DataW.weightsAll P e ds
  | a :: ds, d, h, n, hn => by
    rw [DataW.weightsAll]
    rcases List.mem_cons.1 h with rfl | h
    · exact List.mem_append_left _ hn
    · exact List.mem_append_right _ (weightsAll_mem h n hn)
theorem bytes27 : Tryd.prog.bytesOf 27 = 64 := by kernel_rfl
theorem cells27 : Tryd.prog.cellsOf 27 = 6 := by kernel_rfl
theorem cells24 : Tryd.prog.cellsOf 24 = 4 := by kernel_rfl
theorem cells25 : Tryd.prog.cellsOf 25 = 1 := by kernel_rfl
open Go.ChangeShapes Go.WideShapes Go.Deep in
theorem tree_open {H : Type} {enc : TypeId × Value → H} {w : World} {held : Bool} : ∀ (m fuel : Nat), fuel ≤ m → ∀ {cs : List Value} {d : DataW H} {pl : List MemPlace}, DataW.trod enc Tryd.prog w 0 (fun _ => true) held fuel 27 cs = some (d, pl) →
    (∀ n ∈ d.weights Tryd.prog 27, n ≤ reachBytes) → ∃ t : RT, RV (fun b => b < w.heap.size) w t (.agg cs.toArray) ∧ wid t ≤ 9223372036854775806 ∧ okT t ∧ cs.length = 6
  | 0, fuel, hm, cs, d, pl, h, _ => by
    obtain rfl : fuel = 0 := by omega
    simp [DataW.trod] at h
  | m + 1, fuel, hm, cs, d, pl, h, hw => by
    obtain ⟨xs, n, rfl, hx, hlen, hxl, hf⟩ := DataW.trod_struct Tryd.underlying27 h
    rw [cells27] at hlen
    match cs, hlen with
    | [c0, c1, c2, c3, c4, c5], _ =>
      have f0 := hf 0 _ rfl
      have f1 := hf 1 _ rfl
      have f2 := hf 2 _ rfl
      have hxl3 : xs.length = 3 := hxl
      match xs, hxl3 with
      | [y0, y1, y2], _ =>
        have g0 : DataW.trod enc Tryd.prog w 0 (fun _ => true) held n 3 [c0] = some y0 := f0
        have g1 : DataW.trod enc Tryd.prog w 0 (fun _ => true) held n 24 [c1, c2, c3, c4] = some y1 := f1
        have g2 : DataW.trod enc Tryd.prog w 0 (fun _ => true) held n 25 [c5] = some y2 := f2
        obtain ⟨k, e0, -, -⟩ := DataW.trod_int Tryd.underlying3 g0
        obtain rfl : c0 = .int .i64 k := by simpa using e0
        obtain ⟨f, rfl, rfl, rfl, rfl⟩ := words_open g1
        have hd : d = .agg [y0.1, y1.1, y2.1] := by simpa using (Prod.mk.inj hx).1
        have hw2 : ∀ q ∈ y2.1.weights Tryd.prog 25, q ≤ reachBytes := fun q hq => by
          refine hw q ?_
          rw [hd]
          unfold DataW.weights
          rw [Tryd.underlying27]
          exact DataW.weights_mem_each (j := 2) (t := 25) (d := y2.1) rfl rfl q hq
        rcases DataW.trod_slice Tryd.underlying25 g2 with ⟨e5, -⟩ | ⟨a, len, cap, elems, rest, n', rfl, e5, hy2, hb, hl, hm', hlen, hel, -, -⟩
        · obtain rfl : c5 = .slice none 0 0 := by simpa using e5
          exact ⟨.mk k (wf f) [], .leaf k (wf f) none 0, by simp [wid, widL], by rw [okT, okL]; exact ⟨fun _ => okU_wf5 f, trivial⟩, rfl⟩
        · obtain rfl : c5 = .slice (some a) len cap := by simpa using e5
          have hw3 : (elems.length + rest.length) * 64 ≤ reachBytes ∧ ∀ y ∈ elems, ∀ q ∈ y.1.weights Tryd.prog 27, q ≤ reachBytes := by
            rw [hy2] at hw2
            unfold DataW.weights at hw2
            rw [Tryd.underlying25] at hw2
            simp only [List.length_map, bytes27] at hw2
            refine ⟨hw2 _ (List.mem_cons_self ..), fun y hy q hq => hw2 q (List.mem_cons_of_mem _ (List.mem_append_left _ (weightsAll_mem (List.mem_map_of_mem hy) q hq)))⟩
          have hlb : len ≤ 9223372036854775806 := by
            have := reachBytes_lt
            omega
          have each : ∀ i, i < len → ∃ q : RT × Array Value, RV (fun b => b < w.heap.size) w q.1 (.agg q.2) ∧ wid q.1 ≤ 9223372036854775806 ∧ okT q.1 ∧ q.2.size = 6 ∧ ∀ j, j < 6 → w.cell? ((a.add (i * 6)).add j) = q.2[j]? := fun i hi => by
            have h1 := hel i hi
            rw [List.getElem?_eq_getElem (by omega), cells27] at h1
            obtain ⟨cs', h2, h3⟩ := Option.bind_eq_some_iff.1 h1
            obtain ⟨_, hcl, hcell⟩ := World.cells?_some h2
            obtain ⟨t, ht, h4, h5, h6⟩ := tree_open m n' (by omega) (d := elems[i].1) (pl := elems[i].2) h3 (hw3.2 _ (List.getElem_mem _))
            exact ⟨(t, cs'.toArray), ht, h4, h5, by simpa using h6, fun j hj => by rw [hcell j hj]; simp⟩
          by_cases h0 : len = 0
          · subst h0
            exact ⟨.mk k (wf f) [], .leaf k (wf f) (some a) cap, by simp [wid, widL], by rw [okT, okL]; exact ⟨fun _ => okU_wf5 f, trivial⟩, rfl⟩
          · have : Inhabited (RT × Array Value) := ⟨(.mk 0 u0 [], #[])⟩
            obtain ⟨q, hq⟩ := choose_lt each
            have hc0 := (hq 0 (by omega)).2.2.2.2 0 (by omega)
            rw [Array.getElem?_eq_getElem (by rw [(hq 0 (by omega)).2.2.2.1]; omega)] at hc0
            have hspot : a.spot = none := by
              have := World.cell?_spot hc0
              simpa [Addr.add] using this
            obtain ⟨b, o, sp⟩ := a
            simp only at hspot
            subst hspot
            have hbl := World.block_lt_of_cell? w _ hc0
            have hbl2 : b < w.heap.size := by simpa [Addr.add] using hbl
            have hpl : ((List.range len).map fun i => (q i).1).length = len := by simp
            refine ⟨.mk k (wf f) ((List.range len).map fun i => (q i).1), ?_, ?_, ?_, rfl⟩
            · have hn : ((List.range len).map fun i => (q i).1) ≠ [] := fun e => h0 (by rw [e] at hpl; exact hpl.symm)
              have := RV.node (D := fun b => b < w.heap.size) (w := w) k (wf f) ((List.range len).map fun i => (q i).1) b o cap (fun i => (q i).2) hbl2 hn (fun i hi => by
                have hi' : i < len := by rw [hpl] at hi; exact hi
                have e : ((List.range len).map fun i => (q i).1)[i] = (q i).1 := by simp
                rw [e]; exact (hq i hi').1) (fun i hi j hj => by
                have hi' : i < len := by rw [hpl] at hi; exact hi
                have h1 := (hq i hi').2.2.2.2 j hj
                have h2 := (hq i hi').2.2.2.1
                refine ⟨(q i).2[j]'(by omega), Array.getElem?_eq_getElem (by omega), ?_⟩
                rw [Array.getElem?_eq_getElem (by omega)] at h1
                rw [← h1, add_add, add_plain]
                rw [show o + (i * 6 + j) = o + (6 * i + j) by omega])
              rw [hpl] at this
              exact this
            · have h1 : widL ((List.range len).map fun i => (q i).1) ≤ 9223372036854775806 := widL_of fun t ht => by
                obtain ⟨i, hi, rfl⟩ := List.mem_map.1 ht
                exact (hq i (List.mem_range.1 hi)).2.1
              simp only [wid, hpl]; omega
            · rw [okT]
              exact ⟨fun _ => okU_wf5 f, okL_of fun t ht => by
                obtain ⟨i, hi, rfl⟩ := List.mem_map.1 ht
                exact (hq i (List.mem_range.1 hi)).2.2.1⟩
end Go.Proofs.YtmjojahkbjlcdaaDoor
