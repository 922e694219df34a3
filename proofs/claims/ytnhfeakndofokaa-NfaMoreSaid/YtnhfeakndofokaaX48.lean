/- Texts of package regs, one behind the other. -/
import Derived.Test.YtnhfeakndofokaaProg
import Derived.Test.YtnhfeakndofokaaX25
import Derived.Test.YtnhfeakndofokaaRb
import Derived.WalkKit
import Derived.WalkLawsBesides
import Derived.WalkSpells
import Derived.Outline
import Derived.Lib.Walk
import Derived.Lib.Hide
import Derived.Lib.Slices
import Derived.Lib.Strings
import Derived.RegionTactic
import Derived.LoopTactic
import Derived.Below
import Derived.IntWalk
import Derived.Deep.QuietTactic
import Derived.BigQuiet
import Derived.Deep.MidRow
import Derived.Maps.AppendAt
import Derived.Laws.Rows
import Derived.Laws.Tables
import Derived.Deep.WholeRow
import Derived.Deep.Cut
import Derived.Deep.CutRange
import Derived.Lib.SliceRun
import Derived.Laws.MakeOwn
import Derived.Deep.RegionLaw
import Derived.Deep.RegionLawGrows
import Derived.Deep.RegionHeld3
import Derived.RegionCalls
import Derived.Deep.RegionWith
import Derived.Deep.Light
import Derived.Test.YtnhfeakndofokaaX45
section
/- Package nfa. -/
namespace Go.Proofs.Ytnhfeakndofokaa
set_option linter.unusedSimpArgs false
set_option linter.unusedVariables false
set_option maxRecDepth 100000
open Go.RowKit
/- A list of rules that was handed in. -/
mutual
/-- A pattern's words are words. -/
def okT : RT → Prop
  | .mk k u ps => okW u ∧ okTL ps
def okTL : List RT → Prop
  | [] => True
  | t :: ts => okT t ∧ okTL ts
end
theorem okTL_of : ∀ {ts : List RT}, (∀ t ∈ ts, okT t) → okTL ts
  | [], _ => by rw [okTL]; trivial
  | t :: ts, h => by rw [okTL]; exact ⟨h t (List.mem_cons_self ..), okTL_of fun x hx => h x (List.mem_cons_of_mem _ hx)⟩
theorem widL_of {n : Nat} : ∀ {ts : List RT}, (∀ t ∈ ts, wid t ≤ n) → widL ts ≤ n
  | [], _ => by simp [widL]
  | t :: ts, h => by
    have h1 := h t (List.mem_cons_self ..)
    have h2 := widL_of (ts := ts) fun x hx => h x (List.mem_cons_of_mem _ hx)
    simp only [widL]; omega
theorem bytes56 : Try.prog.bytesOf 56 = 64 := by kernel_rfl
theorem cells56 : Try.prog.cellsOf 56 = 6 := by kernel_rfl
theorem cells54 : Try.prog.cellsOf 54 = 1 := by kernel_rfl
theorem bytes58 : Try.prog.bytesOf 58 = 72 := by kernel_rfl
theorem cells58 : Try.prog.cellsOf 58 = 7 := by kernel_rfl
open Go.ChangeShapes Go.WideShapes Go.Deep in
theorem tree_open {H : Type} {enc : TypeId × Value → H} {w : World} {held : Bool} : ∀ (m fuel : Nat), fuel ≤ m → ∀ {cs : List Value} {d : DataW H} {pl : List MemPlace}, DataW.trod enc Try.prog w 0 (fun _ => true) held fuel 56 cs = some (d, pl) →
    (∀ n ∈ d.weights Try.prog 56, n ≤ reachBytes) → ∃ t : RT, RV (fun b => b < w.heap.size) w t (.agg cs.toArray) ∧ wid t ≤ 9223372036854775806 ∧ okT t ∧ cs.length = 6
  | 0, fuel, hm, cs, d, pl, h, _ => by
    obtain rfl : fuel = 0 := by omega
    simp [DataW.trod] at h
  | m + 1, fuel, hm, cs, d, pl, h, hw => by
    obtain ⟨xs, n, rfl, hx, hlen, hxl, hf⟩ := DataW.trod_struct Try.underlying56 h
    rw [cells56] at hlen
    match cs, hlen with
    | [c0, c1, c2, c3, c4, c5], _ =>
      have f0 := hf 0 _ rfl
      have f1 := hf 1 _ rfl
      have f2 := hf 2 _ rfl
      have hxl3 : xs.length = 3 := hxl
      match xs, hxl3 with
      | [y0, y1, y2], _ =>
        have g0 : DataW.trod enc Try.prog w 0 (fun _ => true) held n 3 [c0] = some y0 := f0
        have g1 : DataW.trod enc Try.prog w 0 (fun _ => true) held n 47 [c1, c2, c3, c4] = some y1 := f1
        have g2 : DataW.trod enc Try.prog w 0 (fun _ => true) held n 54 [c5] = some y2 := f2
        obtain ⟨k, e0, -, -⟩ := DataW.trod_int Try.underlying3 g0
        obtain rfl : c0 = .int .i64 k := by simpa using e0
        obtain ⟨f, rfl, rfl, rfl, rfl, hokf⟩ := words_open g1
        have hd : d = .agg [y0.1, y1.1, y2.1] := by simpa using (Prod.mk.inj hx).1
        have hw2 : ∀ q ∈ y2.1.weights Try.prog 54, q ≤ reachBytes := fun q hq => by
          refine hw q ?_
          rw [hd]
          unfold DataW.weights
          rw [Try.underlying56]
          exact DataW.weights_mem_each (j := 2) (t := 54) (d := y2.1) rfl rfl q hq
        rcases DataW.trod_slice Try.underlying54 g2 with ⟨e5, -⟩ | ⟨a, len, cap, elems, rest, n', rfl, e5, hy2, hb, hl, hm', hlen, hel, -, -⟩
        · obtain rfl : c5 = .slice none 0 0 := by simpa using e5
          exact ⟨.mk k f [], .leaf k f none 0, by simp [wid, widL], by rw [okT, okTL]; exact ⟨hokf, trivial⟩, rfl⟩
        · obtain rfl : c5 = .slice (some a) len cap := by simpa using e5
          have hw3 : (elems.length + rest.length) * 64 ≤ reachBytes ∧ ∀ y ∈ elems, ∀ q ∈ y.1.weights Try.prog 56, q ≤ reachBytes := by
            rw [hy2] at hw2
            unfold DataW.weights at hw2
            rw [Try.underlying54] at hw2
            simp only [List.length_map, bytes56] at hw2
            refine ⟨hw2 _ (List.mem_cons_self ..), fun y hy q hq => hw2 q (List.mem_cons_of_mem _ (List.mem_append_left _ (weightsAll_mem (List.mem_map_of_mem hy) q hq)))⟩
          have hlb : len ≤ 9223372036854775806 := by
            have := reachBytes_lt
            omega
          have each : ∀ i, i < len → ∃ q : RT × Array Value, RV (fun b => b < w.heap.size) w q.1 (.agg q.2) ∧ wid q.1 ≤ 9223372036854775806 ∧ okT q.1 ∧ q.2.size = 6 ∧ ∀ j, j < 6 → w.cell? ((a.add (i * 6)).add j) = q.2[j]? := fun i hi => by
            have h1 := hel i hi
            rw [List.getElem?_eq_getElem (by omega), cells56] at h1
            obtain ⟨cs', h2, h3⟩ := Option.bind_eq_some_iff.1 h1
            obtain ⟨_, hcl, hcell⟩ := World.cells?_some h2
            obtain ⟨t, ht, h4, h5, h6⟩ := tree_open m n' (by omega) (d := elems[i].1) (pl := elems[i].2) h3 (hw3.2 _ (List.getElem_mem _))
            exact ⟨(t, cs'.toArray), ht, h4, h5, by simpa using h6, fun j hj => by rw [hcell j hj]; simp⟩
          by_cases h0 : len = 0
          · subst h0
            exact ⟨.mk k f [], .leaf k f (some a) cap, by simp [wid, widL], by rw [okT, okTL]; exact ⟨hokf, trivial⟩, rfl⟩
          · have : Inhabited (RT × Array Value) := ⟨(.mk 0 u0 [], #[])⟩
            obtain ⟨q, hq⟩ := choose_lt each
            have hc0 := (hq 0 (by omega)).2.2.2.2 0 (by omega)
            rw [Array.getElem?_eq_getElem (by rw [(hq 0 (by omega)).2.2.2.1]; omega)] at hc0
            have hspot : a.spot = none := by
              have := World.cell?_spot hc0
              simpa [Addr.add] using this
            obtain ⟨b, o, sp⟩ := a
            simp only at hspot
            subst hspot
            have hbl := World.block_lt_of_cell? w _ hc0
            have hbl2 : b < w.heap.size := by simpa [Addr.add] using hbl
            have hpl : ((List.range len).map fun i => (q i).1).length = len := by simp
            refine ⟨.mk k f ((List.range len).map fun i => (q i).1), ?_, ?_, ?_, rfl⟩
            · have hn : ((List.range len).map fun i => (q i).1) ≠ [] := fun e => h0 (by rw [e] at hpl; exact hpl.symm)
              have := RV.node (D := fun b => b < w.heap.size) (w := w) k f ((List.range len).map fun i => (q i).1) b o cap (fun i => (q i).2) hbl2 hn (fun i hi => by
                have hi' : i < len := by rw [hpl] at hi; exact hi
                have e : ((List.range len).map fun i => (q i).1)[i] = (q i).1 := by simp
                rw [e]; exact (hq i hi').1) (fun i hi j hj => by
                have hi' : i < len := by rw [hpl] at hi; exact hi
                have h1 := (hq i hi').2.2.2.2 j hj
                have h2 := (hq i hi').2.2.2.1
                refine ⟨(q i).2[j]'(by omega), Array.getElem?_eq_getElem (by omega), ?_⟩
                rw [Array.getElem?_eq_getElem (by omega)] at h1
                rw [← h1, add_add, add_plain]
                rw [show o + (i * 6 + j) = o + (6 * i + j) by omega])
              rw [hpl] at this
              exact this
            · have h1 : widL ((List.range len).map fun i => (q i).1) ≤ 9223372036854775806 := widL_of fun t ht => by
                obtain ⟨i, hi, rfl⟩ := List.mem_map.1 ht
                exact (hq i (List.mem_range.1 hi)).2.1
              simp only [wid, hpl]; omega
            · rw [okT]
              exact ⟨hokf, okTL_of fun t ht => by
                obtain ⟨i, hi, rfl⟩ := List.mem_map.1 ht
                exact (hq i (List.mem_range.1 hi)).2.2.1⟩
open Go.ChangeShapes Go.WideShapes Go.Deep in
theorem rules_open {H : Type} {enc : TypeId × Value → H} {w : World} {held : Bool} {fuel : Nat} {c : Value} {x : DataW H × List MemPlace} (h : DataW.trod enc Try.prog w 0 (fun _ => true) held fuel 32 [c] = some x) (hw : ∀ q ∈ x.1.weights Try.prog 32, q ≤ reachBytes) :
    ∃ (ts : List RT) (p : Option Addr) (f : Nat), c = .slice p ts.length f ∧ RuV (fun b => b < w.heap.size) w ts c ∧ ts.length ≤ 9223372036854775806 ∧ ∀ t ∈ ts, wid t ≤ 9223372036854775806 ∧ okT t := by
  rcases DataW.trod_slice Try.underlying32 h with ⟨e5, -⟩ | ⟨a, len, cap, elems, rest, n', rfl, e5, hy2, hb, hl, hm', hlen, hel, -, -⟩
  · obtain rfl : c = .slice none 0 0 := by simpa using e5
    exact ⟨[], none, 0, rfl, ⟨none, 0, rfl, fun h => absurd rfl h⟩, by simp, by simp⟩
  · obtain rfl : c = .slice (some a) len cap := by simpa using e5
    have hw3 : (elems.length + rest.length) * 72 ≤ reachBytes ∧ ∀ y ∈ elems, ∀ q ∈ y.1.weights Try.prog 58, q ≤ reachBytes := by
      rw [hy2] at hw
      unfold DataW.weights at hw
      rw [Try.underlying32] at hw
      simp only [List.length_map, bytes58] at hw
      refine ⟨hw _ (List.mem_cons_self ..), fun y hy q hq => hw q (List.mem_cons_of_mem _ (List.mem_append_left _ (weightsAll_mem (List.mem_map_of_mem hy) q hq)))⟩
    have hlb : len ≤ 9223372036854775806 := by
      have := reachBytes_lt
      omega
    have each : ∀ i, i < len → ∃ y : RT × (Int × Array Value), RV (fun b => b < w.heap.size) w y.1 (.agg y.2.2) ∧ wid y.1 ≤ 9223372036854775806 ∧ okT y.1 ∧ ∀ j, j < 7 → w.cell? ((a.add (i * 7)).add j) = (#[.int .i64 y.2.1] ++ y.2.2 : Array Value)[j]? := fun i hi => by
      have h1 := hel i hi
      rw [List.getElem?_eq_getElem (by omega), cells58] at h1
      obtain ⟨cs', h2, h3⟩ := Option.bind_eq_some_iff.1 h1
      obtain ⟨_, hcl, hcell⟩ := World.cells?_some h2
      have hwi := hw3.2 _ (List.getElem_mem (l := elems) (n := i) (by omega))
      obtain ⟨c0, c1, c2, c3, c4, c5, c6, rfl⟩ : ∃ c0 c1 c2 c3 c4 c5 c6, cs' = [c0, c1, c2, c3, c4, c5, c6] := by
        match cs', hcl with
        | [c0, c1, c2, c3, c4, c5, c6], _ => exact ⟨_, _, _, _, _, _, _, rfl⟩
      obtain ⟨xs, n, rfl, hx, hlen', hxl, hf⟩ := DataW.trod_struct Try.underlying58 h3
      have f0 := hf 0 _ rfl
      have f1 := hf 1 _ rfl
      have hxl3 : xs.length = 2 := hxl
      match xs, hxl3 with
      | [y0, y1], _ =>
        have g0 : DataW.trod enc Try.prog w 0 (fun _ => true) held n 3 [c0] = some y0 := f0
        have g1 : DataW.trod enc Try.prog w 0 (fun _ => true) held n 56 [c1, c2, c3, c4, c5, c6] = some y1 := f1
        obtain ⟨kd, e0, -, -⟩ := DataW.trod_int Try.underlying3 g0
        obtain rfl : c0 = .int .i64 kd := by simpa using e0
        have hd : (elems[i]).1 = .agg [y0.1, y1.1] := by
          have := (Prod.mk.inj hx).1
          simpa using this
        have hw2 : ∀ q ∈ y1.1.weights Try.prog 56, q ≤ reachBytes := fun q hq => by
          refine hwi q ?_
          rw [hd]
          unfold DataW.weights
          rw [Try.underlying58]
          exact DataW.weights_mem_each (j := 1) (t := 56) (d := y1.1) rfl rfl q hq
        obtain ⟨t, ht, h4, h5, h6⟩ := tree_open n n (Nat.le_refl _) (d := y1.1) (pl := y1.2) g1 hw2
        refine ⟨(t, (kd, #[c1, c2, c3, c4, c5, c6])), ht, h4, h5, fun j hj => ?_⟩
        rw [hcell j hj]
        rcases (by omega : j = 0 ∨ j = 1 ∨ j = 2 ∨ j = 3 ∨ j = 4 ∨ j = 5 ∨ j = 6) with rfl | rfl | rfl | rfl | rfl | rfl | rfl <;> rfl
    by_cases h0 : len = 0
    · subst h0
      exact ⟨[], some a, cap, rfl, ⟨some a, cap, rfl, fun h => absurd rfl h⟩, by simp, by simp⟩
    · have : Inhabited (RT × (Int × Array Value)) := ⟨(.mk 0 u0 [], (0, #[]))⟩
      obtain ⟨q, hq⟩ := choose_lt each
      have hc0 := (hq 0 (by omega)).2.2.2 0 (by omega)
      have hc1 : w.cell? ((a.add (0 * 7)).add 0) = some (.int .i64 (q 0).2.1) := by rw [hc0]; exact Array.getElem?_append_left (Nat.zero_lt_one)
      have hspot : a.spot = none := by
        have := World.cell?_spot hc1
        simpa [Addr.add] using this
      obtain ⟨b, o, sp⟩ := a
      simp only at hspot
      subst hspot
      have hbl := World.block_lt_of_cell? w _ hc1
      have hbl2 : b < w.heap.size := by simpa [Addr.add] using hbl
      have hpl : ((List.range len).map fun i => (q i).1).length = len := by simp
      refine ⟨(List.range len).map fun i => (q i).1, some ⟨b, o, none⟩, cap, by rw [hpl], ⟨some ⟨b, o, none⟩, cap, by rw [hpl], fun _ => ⟨b, o, rfl, hbl2, fun i hi => ?_⟩⟩, by omega, fun s hs => ?_⟩
      · have hi' : i < len := by rw [hpl] at hi; exact hi
        have e : ((List.range len).map fun i => (q i).1)[i] = (q i).1 := by simp
        rw [e]
        obtain ⟨h1, _, _, h2⟩ := hq i hi'
        obtain ⟨k, u, p, n, c, hk⟩ := h1.form
        have hk' : (q i).2.2 = nodeC k u (.slice p n c) := by injection hk
        refine ⟨(q i).2.1, k, u, p, n, c, hk ▸ h1, fun j y hy => ?_⟩
        have hj : j < 7 := (Array.getElem?_eq_some_iff.1 hy).1
        have h3 := h2 j hj
        rw [hk'] at h3
        have h4 : (#[.int .i64 (q i).2.1] ++ nodeC k u (.slice p n c) : Array Value)[j]? = some y := hy
        rw [← h4, ← h3, add_add, add_plain]
        rw [show o + (i * 7 + j) = o + i * 7 + j by omega]
      · obtain ⟨i, hi, rfl⟩ := List.mem_map.1 hs
        have := hq i (List.mem_range.1 hi)
        exact ⟨this.2.1, this.2.2.1⟩
open Go.ChangeShapes Go.WideShapes in
theorem open_rules {H : Type} {enc : TypeId × Value → H} {w : World} {held : Bool} {v : Value} {d : DataW H} {p : List MemPlace} (hs : v.cells.toList = [v]) (h : DataW.Trod enc Try.prog w 0 (fun _ => true) held 32 v d p) (hw : ∀ n ∈ d.weights Try.prog 32, n ≤ reachBytes) :
    ∃ (ts : List RT) (p : Option Addr) (f : Nat), v = .slice p ts.length f ∧ RuV (fun b => b < w.heap.size) w ts v ∧ ts.length ≤ 9223372036854775806 ∧ ∀ t ∈ ts, wid t ≤ 9223372036854775806 ∧ okT t := by
  obtain ⟨fuel, hf⟩ := h
  rw [hs] at hf
  exact rules_open hf hw
end Go.Proofs.Ytnhfeakndofokaa
end
section
/- Package nfa. -/
namespace Go.Proofs.Ytnhfeakndofokaa
set_option linter.unusedSimpArgs false
set_option linter.unusedVariables false
set_option maxRecDepth 100000
open Go.RowKit
/- NfaMore: what is told of rules behind rules; the state of its walk. -/
theorem ckL_iff : ∀ {ts : List RT}, ckL ts = 0 ↔ ∀ t ∈ ts, checkE t = 0
  | [] => by simp [ckL]
  | a :: r => by
    rw [ckL]
    constructor
    · intro h
      by_cases ha : checkE a = 0
      · rw [if_pos ha] at h
        exact fun t ht => (List.mem_cons.1 ht).elim (fun e => e ▸ ha) (ckL_iff.1 h t)
      · rw [if_neg ha] at h; exact absurd h ha
    · intro h
      rw [if_pos (h a (List.mem_cons_self ..))]
      exact ckL_iff.2 fun t ht => h t (List.mem_cons_of_mem _ ht)
theorem refE_iff {ts : List RT} : refE ts = 0 ↔ ts.length ≤ 48 ∧ (∀ t ∈ ts, checkE t = 0) ∧ szL ts ≤ 2047 ∧ ts.all msF = true := by
  unfold refE
  rw [← ckL_iff]
  by_cases h1 : 48 < ts.length
  · rw [if_pos h1]; constructor
    · intro h; cases h
    · intro h; omega
  rw [if_neg h1]
  by_cases h2 : ckL ts = 0
  · rw [if_pos h2]
    by_cases h3 : 2047 < szL ts
    · rw [if_pos h3]; constructor
      · intro h; cases h
      · intro h; omega
    rw [if_neg h3]
    by_cases h4 : ts.all msF = true
    · rw [if_pos h4]; exact ⟨fun _ => ⟨by omega, h2, by omega, h4⟩, fun _ => rfl⟩
    · rw [if_neg h4]; constructor
      · intro h; cases h
      · intro h; exact absurd h.2.2.2 h4
  · rw [if_neg h2]; exact ⟨fun h => absurd h h2, fun h => absurd h.2.1 h2⟩
theorem refE_app {a b : List RT} (ha : szL a ≤ 100) (hb : szL b ≤ 100) : refE (a ++ b) = 0 ↔ refE a = 0 ∧ refE b = 0 ∧ a.length + b.length ≤ 48 := by
  rw [refE_iff, refE_iff, refE_iff, szL_app, List.length_append, List.all_append, Bool.and_eq_true]
  constructor
  · rintro ⟨h1, h2, h3, h4⟩
    exact ⟨⟨by omega, fun t ht => h2 t (List.mem_append_left _ ht), by omega, h4.1⟩, ⟨by omega, fun t ht => h2 t (List.mem_append_right _ ht), by omega, h4.2⟩, h1⟩
  · rintro ⟨⟨h1, h2, h3, h4⟩, ⟨g1, g2, g3, g4⟩, h5⟩
    exact ⟨h5, fun t ht => (List.mem_append.1 ht).elim (h2 t) (g2 t), by omega, h4, g4⟩
mutual
theorem kF : ∀ (t : RT) (b : Int) (n : Nat), okT t → ∀ s ∈ (layF t b n).1, okW s.u
  | .mk kd u ps, b, n, ho => by
    rw [okT] at ho
    have hZ : okW uZ := fun i => by simp [uZ]
    have hA := kA ps b n ho.2
    have hC := kC ps b n ho.2
    have hC2 := kC ps (n : Nat) (n + 1) ho.2
    rw [layF]
    repeat' split
    all_goals intro s hs
    all_goals try simp only [List.mem_append, List.mem_cons, List.not_mem_nil, or_false] at hs
    · subst hs; exact ho.1
    · exact hC s hs
    · rcases hs with hs | rfl
      · exact hA s hs
      · exact hZ
    · rcases hs with rfl | hs
      · exact hZ
      · exact hC2 s hs
    · rcases hs with rfl | hs
      · exact hZ
      · exact hC2 s hs
    · rcases hs with hs | rfl
      · exact hC s hs
      · exact hZ
    · subst hs; exact hZ
theorem kC : ∀ (ps : List RT) (b : Int) (n : Nat), okTL ps → ∀ s ∈ (layC ps b n).1, okW s.u
  | [], b, n, _ => by rw [layC]; simp
  | p :: r, b, n, ho => by
    rw [okTL] at ho
    rw [layC]
    exact fun s hs => (List.mem_append.1 hs).elim (kC r b n ho.2 s) (kF p _ _ ho.1 s)
theorem kA : ∀ (ps : List RT) (b : Int) (n : Nat), okTL ps → ∀ s ∈ (layA ps b n).1, okW s.u
  | [], b, n, _ => by rw [layA]; simp
  | p :: r, b, n, ho => by
    rw [okTL] at ho
    rw [layA]
    exact fun s hs => (List.mem_append.1 hs).elim (kF p _ _ ho.1 s) (kA r b _ ho.2 s)
end
theorem kL : ∀ (ts : List RT) (i n : Nat), (∀ t ∈ ts, okT t) → ∀ s ∈ (foldL i ts n).1, okW s.u
  | [], i, n, _ => by rw [foldL]; simp
  | t :: r, i, n, ho => by
    rw [foldL]
    have hZ : okW uZ := fun i => by simp [uZ]
    intro s hs
    rcases List.mem_append.1 hs with hs | hs
    · rcases List.mem_cons.1 hs with rfl | hs
      · exact hZ
      · exact kF t _ _ (ho t (List.mem_cons_self ..)) s hs
    · exact kL r _ _ (fun x hx => ho x (List.mem_cons_of_mem _ hx)) s hs
theorem ofF_okW {ts : List RT} (ho : ∀ t ∈ ts, okT t) : ∀ s ∈ ofF ts, okW s.u := by
  have hZ : okW uZ := fun i => by simp [uZ]
  rw [ofF_L]
  intro s hs
  rcases List.mem_append.1 hs with hs | hs
  · exact kL ts 0 0 ho s hs
  · simp only [List.mem_singleton] at hs; subst hs; exact hZ
theorem ofF_fr {ts : List RT} (hlen : ts.length ≤ 48) (hs : szL ts ≤ 2047) : ∀ s ∈ ofF ts, s.fr.length ≤ 9223372036854775806 := fun s h => by
  have h1 := foldL_len ts 0 0
  have h2 : frees (ofF ts) ≤ 16384 := by rw [ofF_L, frees_app]; simp [frees]; omega
  have := frees_mem h
  omega
/-- What Of yields. -/
def stR (ts : List RT) : Int := if refE ts = 0 then (((ofF ts).length - 1 : Nat) : Int) else 0
def ssR (ts : List RT) : List Nst := if refE ts = 0 then ofF ts else []
theorem of_full {D : Nat → Prop} {w : World} {ts : List RT} {q : Option Addr} {f : Nat} (hD : ∀ b, D b → b < w.heap.size) (hR : RuV D w ts (.slice q ts.length f)) (hln : ts.length ≤ 9223372036854775806) (hwid : ∀ t ∈ ts, wid t ≤ 9223372036854775806) :
    Calls Try.prog 15 #[.slice q ts.length f] w fun e w' => (∃ sq c, e = .returned (.tuple #[.agg #[.int .i64 (stR ts), .slice sq (ssR ts).length c], .int .i64 (refE ts)]) ∧ SV (fun b => w.heap.size ≤ b ∧ b < w'.heap.size) w' (ssR ts) (.slice sq (ssR ts).length c)) ∧ Below w.heap.size w w' := by
  have HREF : Hid (∀ z, Below w.heap.size w z → Calls Try.prog 33 #[.slice q ts.length f] z fun e z' => e = .returned (.int .i64 (refE ts)) ∧ Below z.heap.size z z') := Lib.hid fun z hb => refused_any (fun b h => Nat.lt_of_lt_of_le (hD b h) hb.size) (hR.mono (fun b h => h) (fun b h _ => hb.block b (hD b h))) hln hwid
  unfold stR ssR
  by_cases h : refE ts = 0
  · rw [if_pos h, if_pos h]
    obtain ⟨h1, h2, h3, h4⟩ := refE_iff.1 h
    rw [h] at HREF ⊢
    refine (of_any hD hR h2 h1 h3 HREF).mono ?_
    rintro e w' ⟨⟨sq, c, he, hsv⟩, hb⟩
    exact ⟨⟨sq, c, he, hsv⟩, hb⟩
  · rw [if_neg h, if_neg h]
    refine (of_err (by simpa using h) HREF).mono ?_
    rintro e w' ⟨he, hb⟩
    exact ⟨⟨none, 0, he, ⟨none, 0, rfl, fun h => absurd rfl h⟩⟩, hb⟩
/-- Boxes, lists of states and of numbers that lie. -/
structure NM (w y : World) (L : List (Nat × Obj)) (S : List (List Nst × Value)) (I : List (List Int × Value)) : Prop where
  sb : Sb w y L
  sv : ∀ s ∈ S, SV (fun b => b < y.heap.size) y s.1 s.2
  iv : ∀ s ∈ I, IV (fun b => b < y.heap.size) y s.1 s.2
theorem NM.start {w y : World} (hb : Below w.heap.size w y) : NM w y [] [] [] := ⟨⟨hb, by simp⟩, by simp, by simp⟩
theorem NM.up {w y z : World} {L : List (Nat × Obj)} {S : List (List Nst × Value)} {I : List (List Int × Value)} (h : NM w y L S I) (hb : Below y.heap.size y z) : NM w z L S I :=
  ⟨h.sb.up hb, fun s hs => (h.sv s hs).mono (fun b h => Nat.lt_of_lt_of_le h hb.size) (fun b h _ => hb.block b h), fun s hs => (h.iv s hs).mono (fun b h => Nat.lt_of_lt_of_le h hb.size) (fun b h _ => hb.block b h)⟩
theorem NM.box {w y : World} {L : List (Nat × Obj)} {S : List (List Nst × Value)} {I : List (List Int × Value)} (h : NM w y L S I) (o : Obj) : NM w (y.alloc o) ((y.heap.size, o) :: L) S I := by
  have h2 := h.up ((Below.refl y.heap.size y).alloc (Nat.le_refl _) o)
  exact ⟨h.sb.alloc o, h2.sv, h2.iv⟩
theorem NM.addS {w y : World} {L : List (Nat × Obj)} {S : List (List Nst × Value)} {I : List (List Int × Value)} (h : NM w y L S I) {l : List Nst} {v : Value} (hs : SV (fun b => b < y.heap.size) y l v) : NM w y L ((l, v) :: S) I :=
  ⟨h.sb, fun s hm => (List.mem_cons.1 hm).elim (fun e => e ▸ hs) (h.sv s), h.iv⟩
theorem NM.addI {w y : World} {L : List (Nat × Obj)} {S : List (List Nst × Value)} {I : List (List Int × Value)} (h : NM w y L S I) {l : List Int} {v : Value} (hs : IV (fun b => b < y.heap.size) y l v) : NM w y L S ((l, v) :: I) :=
  ⟨h.sb, h.sv, fun s hm => (List.mem_cons.1 hm).elim (fun e => e ▸ hs) (h.iv s)⟩
theorem NM.cell {w y : World} {L : List (Nat × Obj)} {S : List (List Nst × Value)} {I : List (List Int × Value)} (h : NM w y L S I) {b : Nat} {cs : Array Value} {t : TypeId} (hm : (b, Obj.cells cs t (0, 0)) ∈ L) (i : Nat) : y.cell? ⟨b, i, none⟩ = cs[i]? := cell_of_row y b i _ t (0, 0) (h.sb.2 _ hm).2
theorem NM.bel {w y : World} {L : List (Nat × Obj)} {S : List (List Nst × Value)} {I : List (List Int × Value)} (h : NM w y L S I) : Below w.heap.size w y := h.sb.1
end Go.Proofs.Ytnhfeakndofokaa
end
