/- Package nfa. -/
import Derived.Test.YtnhfeakndofokaaProg
import Derived.Test.YtnhfeakndofokaaY48
import Derived.Test.YtnhfeakndofokaaY8
import Derived.Test.YtnhfeakndofokaaY13
import Derived.Test.YtnhfeakndofokaaY23
import Derived.WalkKit
import Derived.WalkLawsBesides
import Derived.WalkSpells
import Derived.Outline
import Derived.Lib.Walk
import Derived.Lib.Hide
import Derived.Lib.Slices
import Derived.Lib.Strings
import Derived.RegionTactic
import Derived.LoopTactic
import Derived.Below
import Derived.IntWalk
import Derived.Deep.QuietTactic
import Derived.BigQuiet
import Derived.Deep.MidRow
import Derived.Maps.AppendAt
import Derived.Laws.Rows
import Derived.Laws.Tables
import Derived.Deep.WholeRow
import Derived.Deep.Cut
import Derived.Deep.CutRange
import Derived.Lib.SliceRun
import Derived.Laws.MakeOwn
import Derived.Deep.RegionLaw
import Derived.Deep.RegionLawGrows
import Derived.Deep.RegionHeld3
import Derived.RegionCalls
import Derived.Deep.RegionWith
import Derived.Deep.Light
import Derived.Laws.CopyOwn
import Derived.Laws.ResultCell
namespace Go.Proofs.Ytnhfeakndofokaa
set_option linter.unusedSimpArgs false
set_option linter.unusedVariables false
set_option maxRecDepth 100000
open Go.RowKit
/- NfaMore: rules behind rules, made in whatever order. -/
theorem run_append_none {P : Program} (w : World) (base : Nat) (t ty e : TypeId) (i : TypeInfo) (size : Nat) (ht : P.underlying t = some (.slice e)) (hi : P.info? e = some i) (v : Value) (n : Nat) (xs : List Value) (hown : w.ownsRow base e size v n xs) (c : Nat) :
    (Builtin.append_ #[t, t] ty #[v, .slice none 0 c]).run P w = .ok v w := by
  rcases hown.2 with ⟨rfl, rfl⟩ | ⟨g, cap, cur, rfl, hbg, hg, hnc, _⟩
  · simp [Builtin.append_, run_underlying ht, sizeOf, typeInfo, hi, Builtin.lenOf, Builtin.firstCells, loadCells, loadCellsFrom]
  · simp [Builtin.append_, run_underlying ht, sizeOf, typeInfo, hi, Builtin.lenOf, Builtin.firstCells, loadCells, loadCellsFrom, hnc, storeCells]
theorem step_append_q {P : Program} {ops : Array Oper} {o : Oper} {a : Act} {w : World} {K : Act → World → Prop} {Q : Exit → Act → World → Prop} {E : Prop}
    (hg : o.guard = none) (s x : Operand) (t : TypeId) (hop : o.op = Op.call { callee := Callee.builtin Builtin.append, args := #[s, x], argTypes := #[t, t] })
    (base : Nat) (e : TypeId) (i : TypeInfo) (z : Value) (size bytes : Nat) (ht : P.underlying t = some (.slice e)) (hi : P.info? e = some i) (hz : i.zero = some z)
    (hsize : i.size = size) (hby : i.bytes = bytes) (hzs : z.cells.size = size) (hsz : 0 < size)
    (v : Value) (n : Nat) (xs : List Value) (hs : a.eval s = v) (hown : w.ownsRow base e size v n xs)
    (q : Option Addr) (m c : Nat) (news : List Value) (hx : a.eval x = .slice q m c) (hl : news.length = m * size) (hq : m = 0 ∨ ∃ ad, q = some ad ∧ ∀ j u, news[j]? = some u → w.cell? (ad.add j) = some u) (h1 : ∀ u ∈ news, u.oneCell' = true)
    (h63 : n + m ≤ maxLen) (hbytes : (n + m) * bytes ≤ 140737488355328) (hbase : base ≤ w.heap.size)
    (h : ∀ v' w', w'.ownsRow base e size v' (n + m) (xs ++ news) → w.grownBy w' v.ownBlock → (v'.ownBlock = v.ownBlock ∨ v'.ownBlock = some w.heap.size) → K (a.put o.dst v') w') :
    if Region.wanted o (yielded ops a.tmps) = true then Oper.wp P o a w K Q else E := by
  cases q with
  | some ad =>
    refine step_append_own hg s x t hop base e i z size bytes ht hi hz hsize hby hzs hsz v n xs hs hown ad m c news hx hl ?_ h1 h63 hbytes hbase fun v' w' a b _ d => h v' w' a b d
    rcases hq with rfl | ⟨ad', e', h'⟩
    · have : news = [] := List.eq_nil_of_length_eq_zero (by simpa using hl)
      subst this
      intro j u hu; simp at hu
    · cases e'; exact h'
  | none =>
    rcases hq with rfl | ⟨ad', e', h'⟩
    · have : news = [] := List.eq_nil_of_length_eq_zero (by simpa using hl)
      subst this
      have hw : Region.wanted o (yielded ops a.tmps) = true := by simp [Region.wanted, hg]
      rw [if_pos hw]
      have hr := run_append_none (P := P) w base t o.type e i size ht hi v n xs hown c
      unfold Oper.wp execOp
      simp only [hop, resolve, invoke, builtin, Sem.run_bind, Sem.run_pure, Result.andThen_ok, List.map_toArray, List.map_cons, List.map_nil, hs, hx, hr]
      exact h v w (by rw [List.append_nil]; exact hown) ⟨rfl, rfl, rfl, Nat.le_refl _, fun _ _ _ => rfl⟩ (.inl rfl)
    · cases e'
/-- Rules' cells, one behind the other. -/
def RowR (D : Nat → Prop) (w : World) (ts : List RT) (xs : List Value) : Prop := ∀ i (h : i < ts.length), ∃ (kd k : Int) (u : Nat → Int) (p : Option Addr) (n c : Nat), RV D w ts[i] (.agg (nodeC k u (.slice p n c))) ∧ ∀ j y, (#[.int .i64 kd, .int .i64 k, .int .u64 (u 0), .int .u64 (u 1), .int .u64 (u 2), .int .u64 (u 3), .slice p n c] : Array Value)[j]? = some y → xs[i * 7 + j]? = some y
theorem RowR.mono {D E : Nat → Prop} {w w' : World} {ts : List RT} {xs : List Value} (hE : ∀ b, D b → E b) (hw : ∀ b, D b → b < w.heap.size → w'.heap[b]? = w.heap[b]?) (h : RowR D w ts xs) : RowR E w' ts xs := fun i hi => by
  obtain ⟨kd, k, u, p, n, c, h1, h2⟩ := h i hi
  exact ⟨kd, k, u, p, n, c, h1.mono hE hw, h2⟩
theorem RowR.app {D : Nat → Prop} {w : World} {a b : List RT} {xa xb : List Value} (ha : RowR D w a xa) (hb : RowR D w b xb) (hl : xa.length = a.length * 7) : RowR D w (a ++ b) (xa ++ xb) := fun i hi => by
  by_cases h : i < a.length
  · obtain ⟨kd, k, u, p, n, c, h1, h2⟩ := ha i h
    refine ⟨kd, k, u, p, n, c, by rw [List.getElem_append_left h]; exact h1, fun j y hy => ?_⟩
    have hj : j < 7 := (Array.getElem?_eq_some_iff.1 hy).1
    rw [List.getElem?_append_left (by omega)]
    exact h2 j y hy
  · have hi' : i - a.length < b.length := by rw [List.length_append] at hi; omega
    obtain ⟨kd, k, u, p, n, c, h1, h2⟩ := hb (i - a.length) hi'
    refine ⟨kd, k, u, p, n, c, by rw [List.getElem_append_right (by omega)]; exact h1, fun j y hy => ?_⟩
    have hj : j < 7 := (Array.getElem?_eq_some_iff.1 hy).1
    rw [List.getElem?_append_right (by omega), show i * 7 + j - xa.length = (i - a.length) * 7 + j by omega]
    exact h2 j y hy
theorem ru_row {D : Nat → Prop} {w : World} {ts : List RT} {q : Option Addr} {f : Nat} (h : RuV D w ts (.slice q ts.length f)) : ∃ xs : List Value, xs.length = ts.length * 7 ∧ (∀ u ∈ xs, u.oneCell' = true) ∧ (ts.length = 0 ∨ ∃ b o, q = some ⟨b, o, none⟩ ∧ D b ∧ ∀ j u, xs[j]? = some u → w.cell? ((⟨b, o, none⟩ : Addr).add j) = some u) ∧ RowR D w ts xs := by
  obtain ⟨q', f', he, hh⟩ := h
  cases he
  by_cases hn : ts = []
  · subst hn
    exact ⟨[], rfl, by simp, .inl rfl, fun i hi => by simp at hi⟩
  obtain ⟨b, o, rfl, hD, hx⟩ := hh hn
  have hcell : ∀ j, j < ts.length * 7 → ∃ y, w.cell? ⟨b, o + j, none⟩ = some y ∧ y.oneCell' = true := fun j hj => by
    have hi : j / 7 < ts.length := by omega
    have hm : j % 7 < 7 := Nat.mod_lt _ (by omega)
    obtain ⟨kd, k, u, p, n, c, h1, h2⟩ := hx (j / 7) hi
    have h3 := h2 (j % 7) _ (Array.getElem?_eq_getElem (by simpa using hm))
    rw [show o + j / 7 * 7 + j % 7 = o + j by omega] at h3
    refine ⟨_, h3, ?_⟩
    have hm2 : j % 7 = 0 ∨ j % 7 = 1 ∨ j % 7 = 2 ∨ j % 7 = 3 ∨ j % 7 = 4 ∨ j % 7 = 5 ∨ j % 7 = 6 := by omega
    generalize j % 7 = r at *
    rcases hm2 with rfl | rfl | rfl | rfl | rfl | rfl | rfl <;> rfl
  have hget : ∀ j, j < ts.length * 7 → ((List.range (ts.length * 7)).map fun j => (w.cell? ⟨b, o + j, none⟩).getD undef)[j]? = w.cell? ⟨b, o + j, none⟩ := fun j hj => by
    obtain ⟨y, h1, _⟩ := hcell j hj
    rw [List.getElem?_map, List.getElem?_range hj, Option.map_some, h1]; rfl
  refine ⟨(List.range (ts.length * 7)).map fun j => (w.cell? ⟨b, o + j, none⟩).getD undef, by simp, fun u hu => ?_, .inr ⟨b, o, rfl, hD, fun j u hu => ?_⟩, fun i hi => ?_⟩
  · obtain ⟨j, hj, rfl⟩ := List.mem_map.1 hu
    obtain ⟨y, h1, h2⟩ := hcell j (List.mem_range.1 hj)
    rw [h1]; exact h2
  · have hj : j < ts.length * 7 := by have := (List.getElem?_eq_some_iff.1 hu).1; simpa using this
    rw [hget j hj] at hu
    rw [Addr.add_mid]; exact hu
  · obtain ⟨kd, k, u, p, n, c, h1, h2⟩ := hx i hi
    refine ⟨kd, k, u, p, n, c, h1, fun j y hy => ?_⟩
    have hj : j < 7 := (Array.getElem?_eq_some_iff.1 hy).1
    rw [hget _ (by omega), ← h2 j y hy, show o + i * 7 + j = o + (i * 7 + j) by omega]
theorem ruv_own {B : Nat} {E : Nat → Prop} {w : World} {ts : List RT} {xs : List Value} {v : Value} (hE : ∀ b, b < w.heap.size → E b) (hown : w.ownsRow B 58 7 v ts.length xs) (hr : RowR E w ts xs) : ∃ q f, v = .slice q ts.length f ∧ RuV E w ts v := by
  rcases hown.2 with ⟨rfl, h0⟩ | ⟨g, cap, cur, rfl, hbg, hg, _⟩
  · have : ts = [] := List.eq_nil_of_length_eq_zero h0
    subst this
    exact ⟨none, 0, rfl, none, 0, rfl, fun h => absurd rfl h⟩
  · refine ⟨_, _, rfl, _, _, rfl, fun _ => ⟨g, 0, rfl, hE _ (Array.getElem?_eq_some_iff.1 hg).1, fun i hi => ?_⟩⟩
    obtain ⟨kd, k, u, p, n, c, h1, h2⟩ := hr i hi
    refine ⟨kd, k, u, p, n, c, h1, fun j y hy => ?_⟩
    have := hown.cells (g := g) rfl (i * 7 + j) y (h2 j y hy)
    rw [Addr.add_mid] at this
    rw [← this, Nat.zero_add, Nat.zero_add]
theorem ru_src {w w1 : World} {n : Nat} {q : Option Addr} {xs : List Value} (h : n = 0 ∨ ∃ b o, q = some ⟨b, o, none⟩ ∧ b < w.heap.size ∧ ∀ j u, xs[j]? = some u → w.cell? ((⟨b, o, none⟩ : Addr).add j) = some u) (hb : Below w.heap.size w w1) : n = 0 ∨ ∃ ad, q = some ad ∧ ∀ j u, xs[j]? = some u → w1.cell? (ad.add j) = some u :=
  h.imp id fun ⟨b, o, e, hl, hc⟩ => ⟨⟨b, o, none⟩, e, fun j u hu => (hb.cell (p := (⟨b, o, none⟩ : Addr).add j) (by rw [Addr.add_mid]; exact hl)).trans (hc j u hu)⟩
theorem info58b : (Try.prog.info? 58).map (fun i => (i.zero, i.size, i.bytes)) = some (some (.agg #[.int .i64 0, .int .i64 0, .int .u64 0, .int .u64 0, .int .u64 0, .int .u64 0, .slice none 0 0]), 7, 72) := by kernel_rfl
theorem NM.addB {w y : World} {L : List (Nat × Obj)} {S : List (List Nst × Value)} {I : List (List Int × Value)} (h : NM w y L S I) {b : Nat} {o : Obj} (hb : w.heap.size ≤ b) (ho : y.heap[b]? = some o) : NM w y ((b, o) :: L) S I :=
  ⟨⟨h.sb.1, fun c hc => (List.mem_cons.1 hc).elim (fun e => e ▸ ⟨hb, ho⟩) (h.sb.2 c)⟩, h.sv, h.iv⟩
theorem wpList_append_q {P : Program} (w : World) {ops : Array Oper} {rest : List Oper} {o : Oper} {a : Act} {Q : Exit → Act → World → Prop}
    (hg : o.guard = none) (s x : Operand) (t : TypeId) (hop : o.op = Op.call { callee := Callee.builtin Builtin.append, args := #[s, x], argTypes := #[t, t] })
    (base : Nat) (e : TypeId) (i : TypeInfo) (z : Value) (size bytes : Nat) (ht : P.underlying t = some (.slice e)) (hi : P.info? e = some i) (hz : i.zero = some z)
    (hsize : i.size = size) (hby : i.bytes = bytes) (hzs : z.cells.size = size) (hsz : 0 < size)
    (v : Value) (n : Nat) (xs : List Value) (hs : a.eval s = v) (hown : w.ownsRow base e size v n xs)
    (q : Option Addr) (m c : Nat) (news : List Value) (hx : a.eval x = .slice q m c) (hl : news.length = m * size) (hq : m = 0 ∨ ∃ ad, q = some ad ∧ ∀ j u, news[j]? = some u → w.cell? (ad.add j) = some u) (h1 : ∀ u ∈ news, u.oneCell' = true)
    (h63 : n + m ≤ maxLen) (hbytes : (n + m) * bytes ≤ 140737488355328) (hbase : base ≤ w.heap.size)
    (h : ∀ v' w', w'.ownsRow base e size v' (n + m) (xs ++ news) → w.grownBy w' v.ownBlock → (v'.ownBlock = v.ownBlock ∨ v'.ownBlock = some w.heap.size) → wpList P ops Q rest (a.put o.dst v') w') :
    wpList P ops Q (o :: rest) a w := by
  refine wpList_plain hg fun K hK => ?_
  have := step_append_q (P := P) (ops := ops) (o := o) (a := a) (w := w) (K := K) (Q := Q) (E := False) hg s x t hop base e i z size bytes ht hi hz hsize hby hzs hsz v n xs hs hown q m c news hx hl hq h1 h63 hbytes hbase fun v' w' h2 h3 h4 => hK _ _ (h v' w' h2 h3 h4)
  rwa [if_pos (by simp [Region.wanted, hg])] at this
theorem own_empty (z : World) (e : TypeId) (size : Nat) : (z.alloc (.cells #[] e)).ownsRow z.heap.size e size (.slice (some ⟨z.heap.size, 0, none⟩) 0 0) 0 [] := ((Sep.start z).alloc (.cells #[] e)).empty.li _ (List.mem_cons_self ..)
end Go.Proofs.Ytnhfeakndofokaa
