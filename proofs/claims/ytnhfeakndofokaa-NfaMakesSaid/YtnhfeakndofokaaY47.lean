/- Texts of package regs, one behind the other. -/
import Derived.Test.YtnhfeakndofokaaProg
import Derived.Test.YtnhfeakndofokaaY44
import Derived.Test.YtnhfeakndofokaaP75
import Derived.WalkKit
import Derived.WalkLawsBesides
import Derived.WalkSpells
import Derived.Outline
import Derived.Lib.Walk
import Derived.Lib.Hide
import Derived.Lib.Slices
import Derived.Lib.Strings
import Derived.RegionTactic
import Derived.LoopTactic
import Derived.Below
import Derived.IntWalk
import Derived.Deep.QuietTactic
import Derived.BigQuiet
import Derived.Deep.MidRow
import Derived.Maps.AppendAt
import Derived.Laws.Rows
import Derived.Laws.Tables
import Derived.Deep.WholeRow
import Derived.Deep.Cut
import Derived.Deep.CutRange
import Derived.Lib.SliceRun
import Derived.Laws.MakeOwn
import Derived.Deep.RegionLaw
import Derived.Deep.RegionLawGrows
import Derived.Deep.RegionHeld3
import Derived.RegionCalls
import Derived.Deep.RegionWith
import Derived.Deep.Light
import Derived.Laws.CopyOwn
import Derived.Laws.ResultCell
import Derived.Test.YtnhfeakndofokaaY36
import Derived.Laws.AppendOwn
import Derived.Laws.OwnMore
section
/- Package nfa. -/
namespace Go.Proofs.Ytnhfeakndofokaa
set_option linter.unusedSimpArgs false
set_option linter.unusedVariables false
set_option maxRecDepth 100000
open Go.RowKit
/- Rules in a row of one's own; twins of rules. -/
def flat7 (xs : List (Array Value)) : List Value := xs.flatMap Array.toList
theorem flat7_len : ∀ (xs : List (Array Value)), (∀ x ∈ xs, x.size = 7) → (flat7 xs).length = xs.length * 7
  | [], _ => rfl
  | x :: xs, h => by
    have h1 := flat7_len xs fun y hy => h y (List.mem_cons_of_mem _ hy)
    have h2 := h x (List.mem_cons_self ..)
    show (x.toList ++ flat7 xs).length = _
    rw [List.length_append, h1, Array.length_toList, h2, List.length_cons]; omega
theorem flat7_get : ∀ (xs : List (Array Value)), (∀ x ∈ xs, x.size = 7) → ∀ i (h : i < xs.length) j, j < 7 → (flat7 xs)[7 * i + j]? = (xs[i])[j]?
  | [], _, i, h, j, hj => by simp at h
  | x :: xs, h, 0, hi, j, hj => by
    have h2 := h x (List.mem_cons_self ..)
    show (x.toList ++ flat7 xs)[7 * 0 + j]? = _
    rw [List.getElem?_append_left (by simp [h2]; omega)]
    simp
  | x :: xs, h, i + 1, hi, j, hj => by
    have h1 := flat7_get xs (fun y hy => h y (List.mem_cons_of_mem _ hy)) i (by simpa using hi) j hj
    have h2 := h x (List.mem_cons_self ..)
    show (x.toList ++ flat7 xs)[7 * (i + 1) + j]? = _
    rw [List.getElem?_append_right (by simp [h2]; omega), Array.length_toList, h2, show 7 * (i + 1) + j - 7 = 7 * i + j by omega, h1]
    simp
theorem flat7_app (xs : List (Array Value)) (x : Array Value) : flat7 (xs ++ [x]) = flat7 xs ++ x.toList := by simp [flat7]
/-- The elements ps lie in the row of the slice sl. -/
def ThH (base : Nat) (ps : List EP) (sl : Value) (w : World) : Prop :=
  (∀ p ∈ ps, EMono p) ∧ ∃ xs : List (Array Value), xs.length = ps.length ∧ (∀ x ∈ xs, x.size = 7) ∧ (∀ i (h : i < ps.length) (h' : i < xs.length), ps[i] (fun b => base ≤ b ∧ b < w.heap.size ∧ some b ≠ sl.ownBlock) w xs[i]) ∧ w.ownsRow base 58 7 sl ps.length (flat7 xs)
theorem ThH.nil (base : Nat) (w : World) : ThH base [] (.slice none 0 0) w := ⟨by simp, [], rfl, by simp, by simp, rfl, .inl ⟨rfl, rfl⟩⟩
theorem ThH.up {base : Nat} {ps : List EP} {sl : Value} {w w' : World} (h : ThH base ps sl w) (hb : Below w.heap.size w w') : ThH base ps sl w' := by
  obtain ⟨h0, xs, h1, h2, h3, h4⟩ := h
  refine ⟨h0, xs, h1, h2, fun i hi hi' => h0 _ (List.getElem_mem hi) (fun b hb' => ⟨hb'.1, Nat.lt_of_lt_of_le hb'.2.1 hb.size, hb'.2.2⟩) (fun b _ hlt => hb.block b hlt) (h3 i hi hi'), h4.1, ?_⟩
  rcases h4.2 with hn | ⟨g, cap, cur, hv, hg, hh, rest⟩
  · exact .inl hn
  · exact .inr ⟨g, cap, cur, hv, hg, (hb.block g (Array.getElem?_eq_some_iff.1 hh).1).trans hh, rest⟩
theorem ThH.app {base lo : Nat} {ps : List EP} {sl sl' : Value} {w w1 w2 : World} {p : EP} {x : Array Value} {xs : List (Array Value)} {o : Obj} (h0 : ∀ p ∈ ps, EMono p) (hp : EMono p) (hx7 : x.size = 7)
    (h1 : xs.length = ps.length) (h2 : ∀ x ∈ xs, x.size = 7) (h3 : ∀ i (h : i < ps.length) (h' : i < xs.length), ps[i] (fun b => base ≤ b ∧ b < w.heap.size ∧ some b ≠ sl.ownBlock) w xs[i])
    (hw1 : w1 = w.alloc o) (hbl : base ≤ lo) (hlo : ∀ g, sl.ownBlock = some g → g < lo) (ht : p (fun b => lo ≤ b ∧ b < w.heap.size) w x)
    (hown : w2.ownsRow base 58 7 sl' (ps.length + 1) (flat7 xs ++ x.toList)) (hg : w1.grownBy w2 sl.ownBlock) (hat : sl'.ownBlock = sl.ownBlock ∨ sl'.ownBlock = some w1.heap.size) : ThH base (ps ++ [p]) sl' w2 := by
  have hsz : w1.heap.size = w.heap.size + 1 := by subst hw1; simp
  have hkeep : ∀ b, b < w.heap.size → some b ≠ sl.ownBlock → w2.heap[b]? = w.heap[b]? := fun b hb hne => by
    rw [hg.block b (by omega) (fun e => hne e), hw1, heap_alloc_old w _ hb]
  have hD : ∀ b, b < w.heap.size → some b ≠ sl.ownBlock → some b ≠ sl'.ownBlock := fun b hb hne e => by
    rcases hat with h | h
    · rw [h] at e; exact hne e
    · rw [h] at e; cases e; omega
  refine ⟨fun q hq => ?_, xs ++ [x], by simp [h1], fun y hy => ?_, fun i hi hi' => ?_, by rw [flat7_app]; simpa using hown⟩
  · rcases List.mem_append.1 hq with hq | hq
    · exact h0 q hq
    · rw [List.mem_singleton.1 hq]; exact hp
  · rcases List.mem_append.1 hy with hy | hy
    · exact h2 y hy
    · simp at hy; subst hy; exact hx7
  · by_cases hlt : i < ps.length
    · rw [List.getElem_append_left hlt, List.getElem_append_left (by omega)]
      exact h0 _ (List.getElem_mem hlt) (fun b hb => ⟨hb.1, by have := hg.size; omega, hD b hb.2.1 hb.2.2⟩) (fun b hb hlt => hkeep b hlt hb.2.2) (h3 i hlt (by omega))
    · have hi2 : i = ps.length := by simp at hi; omega
      subst hi2
      have e1 : (ps ++ [p])[ps.length]'hi = p := by simp
      have e2 : (xs ++ [x])[ps.length]'hi' = x := by
        rw [List.getElem_append_right (by omega)]; simp [h1]
      rw [e1, e2]
      have hno : ∀ b, lo ≤ b → some b ≠ sl.ownBlock := fun b hb e => by have := hlo b e.symm; omega
      exact hp (fun b hb => ⟨by omega, by have := hg.size; omega, hD b hb.2 (hno b hb.1)⟩) (fun b hb hlt => hkeep b hlt (hno b hb.1)) ht
theorem ThH.slice {base : Nat} {ps : List EP} {sl : Value} {w : World} (h : ThH base ps sl w) : ∃ p c, sl = .slice p ps.length c := by
  obtain ⟨_, xs, h1, h2, h3, h4⟩ := h
  rcases h4.2 with ⟨hv, hn⟩ | ⟨g, cap, cur, hv, _⟩
  · exact ⟨none, 0, by rw [hv, hn]⟩
  · exact ⟨_, _, hv⟩
theorem ThH.own {base : Nat} {ps : List EP} {sl : Value} {w : World} (h : ThH base ps sl w) : ∀ g, sl.ownBlock = some g → base ≤ g ∧ g < w.heap.size := by
  obtain ⟨_, xs, h1, h2, h3, h4⟩ := h
  intro g hg
  rcases h4.2 with ⟨hv, hn⟩ | ⟨g', cap, cur, hv, hb, hh, _⟩
  · rw [hv] at hg; simp [Value.ownBlock] at hg
  · rw [hv] at hg
    have : g' = g := by simpa [Value.ownBlock] using hg
    subst this
    exact ⟨hb, (Array.getElem?_eq_some_iff.1 hh).1⟩
/-- The row's cells, and its elements. -/
theorem ThH.row {base : Nat} {ps : List EP} {sl : Value} {w : World} (h : ThH base ps sl w) (hn : ps ≠ []) : ∃ (g cap : Nat) (X : Nat → Array Value), sl = .slice (some ⟨g, 0, none⟩) ps.length cap ∧ base ≤ g ∧ g < w.heap.size ∧ ps.length ≤ cap ∧
    ∀ i (hi : i < ps.length), ps[i] (fun b => base ≤ b ∧ b < w.heap.size) w (X i) ∧ (X i).size = 7 ∧ ∀ j, j < 7 → ∃ y, (X i)[j]? = some y ∧ w.cell? ⟨g, 7 * i + j, none⟩ = some y := by
  obtain ⟨h0, xs, h1, h2, h3, h4⟩ := h
  have hown := h4
  rcases h4.2 with ⟨_, h00⟩ | ⟨g, cap, cur, rfl, hb, hg, hcap, _⟩
  · exact absurd (List.length_eq_zero_iff.1 h00) hn
  · have hgs := (Array.getElem?_eq_some_iff.1 hg).1
    refine ⟨g, cap, fun i => xs.getD i #[], rfl, hb, hgs, hcap, fun i hi => ?_⟩
    have hi' : i < xs.length := by omega
    have e : xs.getD i #[] = xs[i] := by simp [List.getD, hi']
    show ps[i] _ w (xs.getD i #[]) ∧ (xs.getD i #[]).size = 7 ∧ ∀ j, j < 7 → ∃ y, (xs.getD i #[])[j]? = some y ∧ w.cell? ⟨g, 7 * i + j, none⟩ = some y
    rw [e]
    have h6 := h2 xs[i] (List.getElem_mem hi')
    refine ⟨h0 _ (List.getElem_mem hi) (fun b hb => ⟨hb.1, hb.2.1⟩) (fun b hb hlt => rfl) (h3 i hi hi'), h6, fun j hj => ?_⟩
    have hf := flat7_get xs h2 i hi' j hj
    have hj' : j < (xs[i]).size := by omega
    rw [Array.getElem?_eq_getElem hj'] at hf
    refine ⟨(xs[i])[j], Array.getElem?_eq_getElem hj', ?_⟩
    have := World.ownsRow.cells hown rfl _ _ hf
    rw [Addr.add_mid, Nat.zero_add] at this; exact this
def rcel (kd k : Int) (u : Nat → Int) (sl : Value) : Array Value := #[.int .i64 kd, .int .i64 k, .int .u64 (u 0), .int .u64 (u 1), .int .u64 (u 2), .int .u64 (u 3), sl]
def rtwE (kd : Int) (t : RT) : EP := fun D w x => ∃ (k : Int) (u : Nat → Int) (p : Option Addr) (n c : Nat), x = rcel kd k u (.slice p n c) ∧ TW D w t (.agg (nodeC k u (.slice p n c)))
def rmkE (i : Nat) : EP := fun _ _ x => x = rcel (-7000 - i) 0 u0 (.slice none 0 0)
theorem rtwE_mono (kd : Int) (t : RT) : EMono (rtwE kd t) := fun hE hw h => by
  obtain ⟨k, u, p, n, c, h1, h2⟩ := h
  exact ⟨k, u, p, n, c, h1, TW.mono hE hw h2⟩
theorem rmkE_mono (i : Nat) : EMono (rmkE i) := fun _ _ h => h
def dfT : RT := .mk 0 u0 []
def epL (kds : Nat → Int) (ts : List RT) (j : Nat) : List EP := (List.range j).map fun i => rtwE (kds i) (ts.getD i dfT)
theorem epL_len (kds : Nat → Int) (ts : List RT) (j : Nat) : (epL kds ts j).length = j := by simp [epL]
theorem epL_succ (kds : Nat → Int) {ts : List RT} {j : Nat} (h : j < ts.length) : epL kds ts (j + 1) = epL kds ts j ++ [rtwE (kds j) ts[j]] := by
  unfold epL
  rw [List.range_succ, List.map_append]
  simp [List.getD, h]
/-- A twin of rules. -/
structure TRul (D : Nat → Prop) (w : World) (ts : List RT) (kds : Nat → Int) (g cap : Nat) : Prop where
  cap : ts.length + 3 ≤ cap
  hD : D g
  lt : g < w.heap.size
  el : ∀ i (h : i < ts.length), ∃ (k : Int) (u : Nat → Int) (p : Option Addr) (n c : Nat), TW D w ts[i] (.agg (nodeC k u (.slice p n c))) ∧ ∀ j y, (rcel (kds i) k u (.slice p n c))[j]? = some y → w.cell? ⟨g, i * 7 + j, none⟩ = some y
  mks : ∀ i, i < 3 → w.cell? ⟨g, (ts.length + i) * 7, none⟩ = some (.int .i64 (-7000 - i))
theorem TRul.mono {D E : Nat → Prop} {w w' : World} {ts : List RT} {kds : Nat → Int} {g cap : Nat} (hE : ∀ b, D b → E b) (hw : ∀ b, D b → b < w.heap.size → w'.heap[b]? = w.heap[b]?) (h : TRul D w ts kds g cap) : TRul E w' ts kds g cap := by
  have hk : ∀ o y, w.cell? ⟨g, o, none⟩ = some y → w'.cell? ⟨g, o, none⟩ = some y := fun o y h' => by
    rw [← h']; exact cell_same (hw g h.hD h.lt) _
  have hl : g < w'.heap.size := World.block_lt_of_cell? w' _ (hk _ _ (h.mks 0 (by omega)))
  exact ⟨h.cap, hE g h.hD, hl, fun i hi => by
    obtain ⟨k, u, p, n, c, h1, h2⟩ := h.el i hi
    exact ⟨k, u, p, n, c, h1.mono hE hw, fun j y hy => hk _ _ (h2 j y hy)⟩, fun i hi => hk _ _ (h.mks i hi)⟩
theorem TRul.ruv {D : Nat → Prop} {w : World} {ts : List RT} {kds : Nat → Int} {g cap : Nat} (h : TRul D w ts kds g cap) : RuV D w ts (.slice (some ⟨g, 0, none⟩) ts.length cap) :=
  ⟨_, _, rfl, fun _ => ⟨g, 0, rfl, h.hD, fun i hi => by
    obtain ⟨k, u, p, n, c, h1, h2⟩ := h.el i hi
    exact ⟨kds i, k, u, p, n, c, h1.rv, fun j y hy => by
      have := h2 j y hy
      rw [show 0 + i * 7 + j = i * 7 + j by omega]; exact this⟩⟩⟩
theorem ThH.twins {base : Nat} {ts : List RT} {kds : Nat → Int} {sl : Value} {w : World} (h : ThH base (epL kds ts ts.length ++ [rmkE 0, rmkE 1, rmkE 2]) sl w) : ∃ g cap, sl = .slice (some ⟨g, 0, none⟩) (ts.length + 3) cap ∧ TRul (fun b => base ≤ b ∧ b < w.heap.size) w ts kds g cap := by
  obtain ⟨g, cap, X, hs, hb, hg, hcap, hX⟩ := h.row (by simp)
  have hl : (epL kds ts ts.length ++ [rmkE 0, rmkE 1, rmkE 2]).length = ts.length + 3 := by simp [epL_len]
  rw [hl] at hs hcap
  refine ⟨g, cap, hs, hcap, ⟨hb, hg⟩, hg, fun i hi => ?_, fun i hi => ?_⟩
  · have h1 := hX i (by omega)
    have e : (epL kds ts ts.length ++ [rmkE 0, rmkE 1, rmkE 2])[i]'(by omega) = rtwE (kds i) ts[i] := by
      rw [List.getElem_append_left (by rw [epL_len]; exact hi)]
      simp [epL, List.getD, hi]
    rw [e] at h1
    obtain ⟨⟨k, u, p, n, c, hx, ht⟩, h7, hc⟩ := h1
    refine ⟨k, u, p, n, c, ht, fun j y hy => ?_⟩
    have hj : j < 7 := (Array.getElem?_eq_some_iff.1 hy).1
    obtain ⟨z, h2, h3⟩ := hc j hj
    rw [hx, hy] at h2
    cases h2
    rw [← h3, show i * 7 + j = 7 * i + j by omega]
  · have h1 := hX (ts.length + i) (by omega)
    have e : (epL kds ts ts.length ++ [rmkE 0, rmkE 1, rmkE 2])[ts.length + i]'(by omega) = rmkE i := by
      rw [List.getElem_append_right (by rw [epL_len]; omega)]
      simp only [epL_len]
      rcases (by omega : i = 0 ∨ i = 1 ∨ i = 2) with rfl | rfl | rfl <;> simp
    rw [e] at h1
    obtain ⟨hx, h7, hc⟩ := h1
    obtain ⟨z, h2, h3⟩ := hc 0 (by omega)
    rw [show X (ts.length + i) = rcel (-7000 - i) 0 u0 (.slice none 0 0) from hx] at h2
    have e3 : z = .int .i64 (-7000 - i) := by simpa [rcel] using h2.symm
    rw [← e3, ← h3, show (ts.length + i) * 7 = 7 * (ts.length + i) + 0 by omega]
/-- A rule's kind, as it lies. -/
def kdO (q : Option Addr) (w : World) (j : Nat) : Int := match q with
  | some a => match w.cell? ⟨a.block, a.off + j * 7, none⟩ with
    | some (.int _ k) => k
    | _ => 0
  | none => 0
theorem rule_cellsK {D : Nat → Prop} {w z : World} {ts : List RT} {q : Option Addr} {f j : Nat} (hD : ∀ b, D b → b < w.heap.size) (h : RuV D w ts (.slice q ts.length f)) (hb : Below w.heap.size w z) (hj : j < ts.length) : ∃ b o, q = some ⟨b, o, none⟩ ∧ D b ∧ ∃ (k : Int) (u : Nat → Int) (p : Option Addr) (n c : Nat), RV D z ts[j] (.agg #[.int .i64 k, .int .u64 (u 0), .int .u64 (u 1), .int .u64 (u 2), .int .u64 (u 3), .slice p n c]) ∧
    z.cell? ⟨b, o + j * 7, none⟩ = some (.int .i64 (kdO q w j)) ∧ z.cell? ⟨b, o + j * 7 + 1, none⟩ = some (.int .i64 k) ∧ z.cell? ⟨b, o + j * 7 + 2, none⟩ = some (.int .u64 (u 0)) ∧ z.cell? ⟨b, o + j * 7 + 3, none⟩ = some (.int .u64 (u 1)) ∧ z.cell? ⟨b, o + j * 7 + 4, none⟩ = some (.int .u64 (u 2)) ∧ z.cell? ⟨b, o + j * 7 + 5, none⟩ = some (.int .u64 (u 3)) ∧ z.cell? ⟨b, o + j * 7 + 6, none⟩ = some (.slice p n c) := by
  obtain ⟨b, o, rfl, hDb, kd, k, u, p, n, c, hv, d0, d1, d2, d3, d4, d5, d6⟩ := rule_cells h hj
  have hk : kdO (some ⟨b, o, none⟩) w j = kd := by unfold kdO; simp only [d0]
  have hc : ∀ i, z.cell? ⟨b, i, none⟩ = w.cell? ⟨b, i, none⟩ := fun i => cell_same (hb.block b (hD b hDb)) _
  exact ⟨b, o, rfl, hDb, k, u, p, n, c, hv.mono (fun b h => h) (fun b h _ => hb.block b (hD b h)), by rw [hc, hk]; exact d0, by rw [hc]; exact d1, by rw [hc]; exact d2, by rw [hc]; exact d3, by rw [hc]; exact d4, by rw [hc]; exact d5, by rw [hc]; exact d6⟩
end Go.Proofs.Ytnhfeakndofokaa
end
section
/- Package nfa, plain. -/
namespace Go.Proofs.Ytnhfeakndofokaa
set_option linter.unusedSimpArgs false
set_option linter.unusedVariables false
set_option maxRecDepth 100000
open Go.RowKit
/- What a pattern matches, the laid states read; they may be; the rules' automaton. -/
mutual
theorem pF : ∀ (t : RT) (b : Int) (n : Nat), 0 ≤ b → 0 ≤ (layF t b n).2
  | .mk kd u ps, b, n, hb => by
    have hC := pC ps b n hb
    have hC2 := pC ps (n : Nat) (n + 1) (by omega)
    rw [layF]
    repeat' split
    all_goals first | exact hb | exact hC | exact hC2 | (simp only; omega)
theorem pC : ∀ (ps : List RT) (b : Int) (n : Nat), 0 ≤ b → 0 ≤ (layC ps b n).2
  | [], b, n, hb => by rw [layC]; exact hb
  | p :: r, b, n, hb => by rw [layC]; exact pF p _ _ (pC r b n hb)
end
theorem star_c {ss : List Nst} {n : Nat} {b s : Int} {P : List UInt8 → Prop} (hs : ss[n]? = some ⟨uZ, -1, [b, s], -1⟩) (hin : ∀ y, P y → ∃ k, Pt ss k y s.toNat n) {y : List UInt8} (h : Sta P y) : ∃ k, Pt ss k y n b.toNat := by
  induction h with
  | nil => exact ⟨1, Pt.go hs (by simp) (.nil _)⟩
  | app ha _ ih =>
    obtain ⟨k1, h1⟩ := hin _ ha
    obtain ⟨k2, h2⟩ := ih
    exact (Pt.go hs (x := s) (by simp) h1).append h2
mutual
theorem cF (ss : List Nst) : ∀ (t : RT) (b : Int) (n : Nat), 0 ≤ b → AtL ss n (layF t b n).1 → ∀ y, Lt t y → ∃ k, Pt ss k y (layF t b n).2.toNat b.toNat
  | .mk kd u ps, b, n, hb => by
    rw [layF]
    by_cases h1 : kd = 1
    · rw [if_pos h1]
      intro _ y hy
      rw [Lt, if_pos h1] at hy
      subst hy; exact ⟨0, .nil _⟩
    rw [if_neg h1]
    by_cases h2 : kd = 2
    · rw [if_pos h2]
      intro ha y hy
      rw [Lt, if_neg h1, if_pos h2] at hy
      obtain ⟨c, rfl, hc⟩ := hy
      exact ⟨1, by simpa using Pt.one ha.head hb hc⟩
    rw [if_neg h2]
    by_cases h3 : kd = 3
    · rw [if_pos h3]
      intro ha y hy
      rw [Lt, if_neg h1, if_neg h2, if_pos h3] at hy
      exact cC ss ps b n hb ha y hy
    rw [if_neg h3]
    by_cases h4 : kd = 4
    · rw [if_pos h4]
      intro ha y hy
      rw [Lt, if_neg h1, if_neg h2, if_neg h3, if_pos h4] at hy
      obtain ⟨s, hs, k, hk⟩ := cA ss ps b n hb ha.left y hy
      exact ⟨k + 1, by rw [Int.toNat_natCast]; exact Pt.go ha.last hs hk⟩
    rw [if_neg h4]
    by_cases h5 : kd = 5
    · rw [if_pos h5]
      intro ha y hy
      rw [Lt, if_neg h1, if_neg h2, if_neg h3, if_neg h4, if_pos h5] at hy
      have := star_c ha.head (fun y hy => by simpa using cC ss ps (n : Nat) (n + 1) (by omega) ha.tail y hy) hy
      simpa using this
    rw [if_neg h5]
    by_cases h6 : kd = 6
    · rw [if_pos h6]
      intro ha y hy
      rw [Lt, if_neg h1, if_neg h2, if_neg h3, if_neg h4, if_neg h5, if_pos h6] at hy
      obtain ⟨a, c, rfl, ha2, hc⟩ := hy
      have hin : ∀ y, LtR ps y → ∃ k, Pt ss k y (layC ps (n : Nat) (n + 1)).2.toNat n := fun y hy => by simpa using cC ss ps (n : Nat) (n + 1) (by omega) ha.tail y hy
      obtain ⟨k1, g1⟩ := hin a ha2
      obtain ⟨k2, g2⟩ := star_c ha.head hin hc
      exact g1.append g2
    rw [if_neg h6]
    by_cases h7 : kd = 7
    · rw [if_pos h7]
      intro ha y hy
      rw [Lt, if_neg h1, if_neg h2, if_neg h3, if_neg h4, if_neg h5, if_neg h6, if_pos h7] at hy
      rcases hy with rfl | hy
      · exact ⟨1, by rw [Int.toNat_natCast]; exact Pt.go ha.last (x := b) (by simp) (.nil _)⟩
      · obtain ⟨k, hk⟩ := cC ss ps b n hb ha.left y hy
        exact ⟨k + 1, by rw [Int.toNat_natCast]; exact Pt.go ha.last (x := (layC ps b n).2) (by simp) hk⟩
    rw [if_neg h7]
    intro ha y hy
    rw [Lt, if_neg h1, if_neg h2, if_neg h3, if_neg h4, if_neg h5, if_neg h6, if_neg h7] at hy
    exact hy.elim
theorem cC (ss : List Nst) : ∀ (ps : List RT) (b : Int) (n : Nat), 0 ≤ b → AtL ss n (layC ps b n).1 → ∀ y, LtR ps y → ∃ k, Pt ss k y (layC ps b n).2.toNat b.toNat
  | [], b, n, hb => by
    rw [layC]
    intro _ y hy
    rw [LtR] at hy
    subst hy; exact ⟨0, .nil _⟩
  | p :: r, b, n, hb => by
    rw [layC]
    intro ha y hy
    rw [LtR] at hy
    obtain ⟨a, c, rfl, h1, h2⟩ := hy
    obtain ⟨k1, g1⟩ := cF ss p _ _ (pC r b n hb) ha.right a h1
    obtain ⟨k2, g2⟩ := cC ss r b n hb ha.left c h2
    exact g1.append g2
theorem cA (ss : List Nst) : ∀ (ps : List RT) (b : Int) (n : Nat), 0 ≤ b → AtL ss n (layA ps b n).1 → ∀ y, LtC ps y → ∃ s ∈ (layA ps b n).2, ∃ k, Pt ss k y s.toNat b.toNat
  | [], b, n, hb => by
    intro _ y hy
    rw [LtC] at hy
    exact hy.elim
  | p :: r, b, n, hb => by
    rw [layA]
    intro ha y hy
    rw [LtC] at hy
    rcases hy with hy | hy
    · exact ⟨_, by simp, cF ss p b n hb ha.left y hy⟩
    · obtain ⟨s, hs, k, hk⟩ := cA ss r b _ hb ha.right y hy
      exact ⟨s, by simp [hs], k, hk⟩
end
/-- A laid state may be. -/
def okS (N : Nat) (s : Nst) : Prop := s.to < N ∧ s.rl = -1 ∧ ∀ x ∈ s.fr, 0 ≤ x ∧ x < N
mutual
theorem oF : ∀ (t : RT) (b : Int) (n N : Nat), 0 ≤ b → b < N → n + (layF t b n).1.length ≤ N → (∀ s ∈ (layF t b n).1, okS N s) ∧ 0 ≤ (layF t b n).2 ∧ (layF t b n).2 < N
  | .mk kd u ps, b, n, N, hb, hbN => by
    rw [layF]
    split
    · intro _; exact ⟨by simp, hb, hbN⟩
    split
    · intro h
      simp only [List.length_singleton] at h
      exact ⟨fun s hs => by simp only [List.mem_singleton] at hs; subst hs; exact ⟨hbN, rfl, by simp⟩, by simp only; omega, by simp only; omega⟩
    split
    · exact oC ps b n N hb hbN
    split
    · intro h
      simp only [List.length_append, List.length_singleton] at h
      obtain ⟨g1, g2⟩ := oA ps b n N hb hbN (by omega)
      refine ⟨fun s hs => ?_, by simp only; omega, by simp only; omega⟩
      rcases List.mem_append.1 hs with hs | hs
      · exact g1 s hs
      · simp only [List.mem_singleton] at hs; subst hs; exact ⟨by simp only; omega, rfl, g2⟩
    split
    · intro h
      simp only [List.length_cons] at h
      obtain ⟨g1, g2, g3⟩ := oC ps (n : Nat) (n + 1) N (by omega) (by omega) (by omega)
      refine ⟨fun s hs => ?_, by simp only; omega, by simp only; omega⟩
      rcases List.mem_cons.1 hs with rfl | hs
      · exact ⟨by simp only; omega, rfl, by simp only [List.mem_cons, List.not_mem_nil, or_false]; rintro x (rfl | rfl) <;> exact ⟨by assumption, by assumption⟩⟩
      · exact g1 s hs
    split
    · intro h
      simp only [List.length_cons] at h
      obtain ⟨g1, g2, g3⟩ := oC ps (n : Nat) (n + 1) N (by omega) (by omega) (by omega)
      refine ⟨fun s hs => ?_, g2, g3⟩
      rcases List.mem_cons.1 hs with rfl | hs
      · exact ⟨by simp only; omega, rfl, by simp only [List.mem_cons, List.not_mem_nil, or_false]; rintro x (rfl | rfl) <;> exact ⟨by assumption, by assumption⟩⟩
      · exact g1 s hs
    split
    · intro h
      simp only [List.length_append, List.length_singleton] at h
      obtain ⟨g1, g2, g3⟩ := oC ps b n N hb hbN (by omega)
      refine ⟨fun s hs => ?_, by simp only; omega, by simp only; omega⟩
      rcases List.mem_append.1 hs with hs | hs
      · exact g1 s hs
      · simp only [List.mem_singleton] at hs; subst hs
        exact ⟨by simp only; omega, rfl, by simp only [List.mem_cons, List.not_mem_nil, or_false]; rintro x (rfl | rfl) <;> exact ⟨by assumption, by assumption⟩⟩
    · intro h
      simp only [List.length_singleton] at h
      exact ⟨fun s hs => by simp only [List.mem_singleton] at hs; subst hs; exact ⟨by simp only; omega, rfl, by simp⟩, by simp only; omega, by simp only; omega⟩
theorem oC : ∀ (ps : List RT) (b : Int) (n N : Nat), 0 ≤ b → b < N → n + (layC ps b n).1.length ≤ N → (∀ s ∈ (layC ps b n).1, okS N s) ∧ 0 ≤ (layC ps b n).2 ∧ (layC ps b n).2 < N
  | [], b, n, N, hb, hbN => by rw [layC]; exact fun _ => ⟨by simp, hb, hbN⟩
  | p :: r, b, n, N, hb, hbN => by
    rw [layC]
    intro h
    simp only [List.length_append] at h
    obtain ⟨g1, g2, g3⟩ := oC r b n N hb hbN (by omega)
    obtain ⟨g4, g5, g6⟩ := oF p _ (n + (layC r b n).1.length) N g2 g3 (by omega)
    exact ⟨fun s hs => (List.mem_append.1 hs).elim (g1 s) (g4 s), g5, g6⟩
theorem oA : ∀ (ps : List RT) (b : Int) (n N : Nat), 0 ≤ b → b < N → n + (layA ps b n).1.length ≤ N → (∀ s ∈ (layA ps b n).1, okS N s) ∧ ∀ x ∈ (layA ps b n).2, 0 ≤ x ∧ x < N
  | [], b, n, N, hb, hbN => by rw [layA]; exact fun _ => ⟨by simp, by simp⟩
  | p :: r, b, n, N, hb, hbN => by
    rw [layA]
    intro h
    simp only [List.length_append] at h
    obtain ⟨g4, g5, g6⟩ := oF p b n N hb hbN (by omega)
    obtain ⟨g1, g2⟩ := oA r b (n + (layF p b n).1.length) N hb hbN (by omega)
    exact ⟨fun s hs => (List.mem_append.1 hs).elim (g4 s) (g1 s), fun x hx => (List.mem_cons.1 hx).elim (fun e => e ▸ ⟨g5, g6⟩) (g2 x)⟩
end
mutual
theorem fF : ∀ (t : RT) (b : Int) (n : Nat), frees (layF t b n).1 + 1 ≤ 3 * sz t
  | .mk kd u ps, b, n => by
    have hA := fA ps b n
    have hC := fC ps b n
    have hC2 := fC ps (n : Nat) (n + 1)
    rw [layF, sz]
    repeat' split
    all_goals (first | omega | (simp [frees_app, frees]; omega))
theorem fC : ∀ (ps : List RT) (b : Int) (n : Nat), frees (layC ps b n).1 ≤ 3 * szL ps
  | [], b, n => by simp [layC, frees]
  | p :: r, b, n => by
    have h1 := fC r b n
    have h2 := fF p (layC r b n).2 (n + (layC r b n).1.length)
    rw [layC, szL]; simp only [frees_app]; omega
theorem fA : ∀ (ps : List RT) (b : Int) (n : Nat), frees (layA ps b n).1 + (layA ps b n).2.length ≤ 3 * szL ps
  | [], b, n => by simp [layA, frees]
  | p :: r, b, n => by
    have h1 := fF p b n
    have h2 := fA r b (n + (layF p b n).1.length)
    rw [layA, szL]; simp only [frees_app, List.length_cons]; omega
end
end Go.Proofs.Ytnhfeakndofokaa
end
