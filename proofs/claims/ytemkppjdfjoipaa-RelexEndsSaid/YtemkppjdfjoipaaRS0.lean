/- Rules, their twins: as in layer 6. -/
import Derived.Test.YtemkppjdfjoipaaProg
import Derived.Test.YtemkppjdfjoipaaW16
import Derived.WalkKit
import Derived.BigFrame
import Derived.WalkMore
import Derived.ScopeJumps
import Derived.StillTailTactics
import Derived.Stop.BytesEq
import Derived.WalkLawsBesides
import Derived.WalkSpells
import Derived.Outline
import Derived.Lib.Walk
import Derived.Lib.Hide
import Derived.Lib.Slices
import Derived.Lib.Strings
import Derived.RegionTactic
import Derived.LoopTactic
import Derived.Below
import Derived.IntWalk
import Derived.Deep.QuietTactic
import Derived.BigQuiet
import Derived.Deep.MidRow
import Derived.Maps.AppendAt
import Derived.Laws.Rows
import Derived.Laws.Tables
import Derived.Deep.WholeRow
import Derived.Deep.Cut
import Derived.Deep.CutRange
import Derived.Lib.SliceRun
import Derived.Laws.MakeOwn
import Derived.Deep.RegionLaw
import Derived.Deep.RegionLawGrows
import Derived.Deep.RegionHeld3
import Derived.RegionCalls
import Derived.Deep.RegionWith
import Derived.Deep.Light
import Derived.Laws.CopyOwn
import Derived.Laws.ResultCell
import Derived.Deep.SlicePairs
import Derived.Deep.Slices
import Derived.Laws.Entries
import Derived.Laws.IdiomArrays
import Derived.OpenShut
import Derived.WideBlind
namespace Go.Proofs.Ytemkppjdfjoipaa.R6
set_option linter.unusedSimpArgs false
set_option linter.unusedVariables false
set_option maxRecDepth 100000
open Go.RowKit
theorem blk_lt {w : World} {b o : Nat} {v : Value} (h : w.cell? ⟨b, o, none⟩ = some v) : b < w.heap.size := World.block_lt_of_cell? w _ h
theorem cell_same {w w' : World} {b : Nat} (h : w'.heap[b]? = w.heap[b]?) (o : Nat) : w'.cell? ⟨b, o, none⟩ = w.cell? ⟨b, o, none⟩ := by
  unfold World.cell?; simp only [h]
def o1 (x : Nat) : Nat := (x / 2 &&& 6148914691236517205) + (x &&& 6148914691236517205)
def o2 (x : Nat) : Nat := (x / 4 &&& 3689348814741910323) + (x &&& 3689348814741910323)
def o3 (x : Nat) : Nat := (x / 16 + x) &&& 1085102592571150095

def okW (u : Nat → Int) : Prop := ∀ i, 0 ≤ u i ∧ u i ≤ 18446744073709551615
theorem step_append_own {P : Program} {ops : Array Oper} {o : Oper} {a : Act} {w : World} {K : Act → World → Prop} {Q : Exit → Act → World → Prop} {E : Prop}
    (hg : o.guard = none) (s x : Operand) (t : TypeId) (hop : o.op = Op.call { callee := Callee.builtin Builtin.append, args := #[s, x], argTypes := #[t, t] })
    (base : Nat) (e : TypeId) (i : TypeInfo) (z : Value) (size bytes : Nat) (ht : P.underlying t = some (.slice e)) (hi : P.info? e = some i) (hz : i.zero = some z)
    (hsize : i.size = size) (hby : i.bytes = bytes) (hzs : z.cells.size = size) (hsz : 0 < size)
    (v : Value) (n : Nat) (xs : List Value) (hs : a.eval s = v) (hown : w.ownsRow base e size v n xs)
    (ad : Addr) (m c : Nat) (news : List Value) (hx : a.eval x = .slice (some ad) m c) (hl : news.length = m * size) (hnews : ∀ j u, news[j]? = some u → w.cell? (ad.add j) = some u) (h1 : ∀ u ∈ news, u.oneCell' = true)
    (h63 : n + m ≤ maxLen) (hbytes : (n + m) * bytes ≤ 140737488355328) (hbase : base ≤ w.heap.size)
    (h : ∀ v' w', w'.ownsRow base e size v' (n + m) (xs ++ news) → w.grownBy w' v.ownBlock → (v' = .slice none 0 0 ↔ v = .slice none 0 0 ∧ m = 0) → (v'.ownBlock = v.ownBlock ∨ v'.ownBlock = some w.heap.size) → K (a.put o.dst v') w') :
    if Region.wanted o (yielded ops a.tmps) = true then Oper.wp P o a w K Q else E := by
  have hw : Region.wanted o (yielded ops a.tmps) = true := by simp [Region.wanted, hg]
  rw [if_pos hw]
  obtain ⟨v', w', hr, h2, h3, h4, h5⟩ := run_append_own_at (P := P) w base t o.type e i z size bytes ht hi hz hsize hby hzs hsz v n xs hown ad m c news hl hnews h1 h63 hbytes hbase
  unfold Oper.wp execOp
  simp only [hop, resolve, invoke, builtin, Sem.run_bind, Sem.run_pure, Result.andThen_ok, List.map_toArray, List.map_cons, List.map_nil, hs, hx, hr]
  exact h v' w' h2 h3 h4 h5
/-- A pattern's cells. -/
def nodeC (k : Int) (u : Nat → Int) (sl : Value) : Array Value := #[.int .i64 k, .int .u64 (u 0), .int .u64 (u 1), .int .u64 (u 2), .int .u64 (u 3), sl]
/-- A pattern, as the memory has it. -/
inductive RT where
  | mk (k : Int) (u : Nat → Int) (ps : List RT)
def u0 : Nat → Int := fun _ => 0
/-- The pattern t lies in the world as the value v; its parts lie in blocks of D. -/
inductive RV (D : Nat → Prop) (w : World) : RT → Value → Prop where
  | leaf (k : Int) (u : Nat → Int) (p : Option Addr) (c : Nat) : RV D w (.mk k u []) (.agg (nodeC k u (.slice p 0 c)))
  | node (k : Int) (u : Nat → Int) (ps : List RT) (b o c : Nat) (xs : Nat → Array Value) (hD : D b) (hn : ps ≠ []) (hx : ∀ i (h : i < ps.length), RV D w ps[i] (.agg (xs i)))
      (hc : ∀ i, i < ps.length → ∀ j, j < 6 → ∃ y, (xs i)[j]? = some y ∧ w.cell? ⟨b, o + (6 * i + j), none⟩ = some y) : RV D w (.mk k u ps) (.agg (nodeC k u (.slice (some ⟨b, o, none⟩) ps.length c)))
theorem RV.mono {D E : Nat → Prop} {w w' : World} (hE : ∀ b, D b → E b) (hw : ∀ b, D b → b < w.heap.size → w'.heap[b]? = w.heap[b]?) {t : RT} {v : Value} (h : RV D w t v) : RV E w' t v := by
  induction h with
  | leaf k u p c => exact .leaf k u p c
  | node k u ps b o c xs hD hn hx hc ih =>
    refine .node k u ps b o c xs (hE b hD) hn ih (fun i hi j hj => ?_)
    obtain ⟨y, h1, h2⟩ := hc i hi j hj
    refine ⟨y, h1, ?_⟩
    have hb := block_lt_of_cell h2
    rw [← h2]
    unfold World.cell?
    simp only [hw b hD hb]
theorem RV.form {D : Nat → Prop} {w : World} {t : RT} {v : Value} (h : RV D w t v) : ∃ k u p n c, v = .agg (nodeC k u (.slice p n c)) := by
  cases h with
  | leaf k u p c => exact ⟨_, _, _, _, _, rfl⟩
  | node k u ps b o c xs hD hn hx hc => exact ⟨_, _, _, _, _, rfl⟩
theorem infoR : (Try.prog.info? 128).map (fun i => (i.zero, i.size)) = some (some (.agg (nodeC 0 u0 (.slice none 0 0))), 6) := by kernel_rfl
theorem zero27r (w : World) : (zeroValue 128).run Try.prog w = .ok (.agg (nodeC 0 u0 (.slice none 0 0))) w := (zero_of_info infoR).1 w
/-- What lies in a part. -/
theorem RV.parts {D : Nat → Prop} {w : World} {k : Int} {u : Nat → Int} {ps : List RT} {v : Value} (h : RV D w (.mk k u ps) v) : ∃ p c, v = .agg #[.int .i64 k, .int .u64 (u 0), .int .u64 (u 1), .int .u64 (u 2), .int .u64 (u 3), .slice p ps.length c] ∧
    (ps ≠ [] → ∃ b o, p = some ⟨b, o, none⟩ ∧ D b ∧ ∀ i (hi : i < ps.length), ∃ k' u' p' n' c', RV D w ps[i] (.agg #[.int .i64 k', .int .u64 (u' 0), .int .u64 (u' 1), .int .u64 (u' 2), .int .u64 (u' 3), .slice p' n' c']) ∧
      (∀ j (y : Value), (nodeC k' u' (.slice p' n' c'))[j]? = some y → w.cell? ⟨b, o + (6 * i + j), none⟩ = some y)) := by
  cases h with
  | leaf k u p c => exact ⟨p, c, rfl, fun h => absurd rfl h⟩
  | node k u ps b o c xs hD hn hx hc =>
    refine ⟨_, c, rfl, fun _ => ⟨b, o, rfl, hD, fun i hi => ?_⟩⟩
    obtain ⟨k', u', p', n', c', hf⟩ := (hx i hi).form
    have hxs : xs i = nodeC k' u' (.slice p' n' c') := by injection hf
    refine ⟨k', u', p', n', c', by have h7 := hx i hi; rw [hxs] at h7; exact h7, fun j y hy => ?_⟩
    have hj : j < 6 := (Array.getElem?_eq_some_iff.1 hy).1
    obtain ⟨y', h5, h6⟩ := hc i hi j hj
    rw [hxs, hy] at h5
    cases h5
    exact h6
mutual
def wid : RT → Nat
  | .mk _ _ ps => max ps.length (widL ps)
def widL : List RT → Nat
  | [] => 0
  | t :: ts => max (wid t) (widL ts)
end
theorem widL_get : ∀ (ts : List RT) (i : Nat) (h : i < ts.length), wid ts[i] ≤ widL ts
  | t :: ts, 0, h => by show wid t ≤ max (wid t) (widL ts); omega
  | t :: ts, i + 1, h => by
    have := widL_get ts i (by simpa using h)
    show wid (ts[i]'(by simpa using h)) ≤ max (wid t) (widL ts); omega
theorem wid_mk {k : Int} {u : Nat → Int} {ps : List RT} {n : Nat} (h : wid (.mk k u ps) ≤ n) : ps.length ≤ n ∧ ∀ i (hi : i < ps.length), wid ps[i] ≤ n := by
  have h1 : max ps.length (widL ps) ≤ n := h
  exact ⟨by omega, fun i hi => by have := widL_get ps i hi; omega⟩
mutual
def sz : RT → Nat
  | .mk _ _ ps => szL ps + 1
def szL : List RT → Nat
  | [] => 0
  | t :: ts => sz t + szL ts
end
theorem sz_pos (t : RT) : 1 ≤ sz t := by cases t; simp [sz]
theorem szL_app : ∀ (a b : List RT), szL (a ++ b) = szL a + szL b
  | [], b => by simp [szL]
  | t :: a, b => by have := szL_app a b; simp only [List.cons_append, szL]; omega
theorem len_szL : ∀ (ts : List RT), ts.length ≤ szL ts
  | [] => by simp [szL]
  | t :: ts => by have := len_szL ts; have := sz_pos t; simp only [List.length_cons, szL]; omega
/-- Rules in memory: their kinds, their patterns. -/
def RuV (D : Nat → Prop) (w : World) (ts : List RT) (sl : Value) : Prop := ∃ q f, sl = .slice q ts.length f ∧ (ts ≠ [] → ∃ b o, q = some ⟨b, o, none⟩ ∧ D b ∧ ∀ i (h : i < ts.length), ∃ (kd k : Int) (u : Nat → Int) (p : Option Addr) (n c : Nat), RV D w ts[i] (.agg (nodeC k u (.slice p n c))) ∧
    ∀ j y, (#[.int .i64 kd, .int .i64 k, .int .u64 (u 0), .int .u64 (u 1), .int .u64 (u 2), .int .u64 (u 3), .slice p n c] : Array Value)[j]? = some y → w.cell? ⟨b, o + i * 7 + j, none⟩ = some y)
theorem RuV.mono {D E : Nat → Prop} {w w' : World} (hE : ∀ b, D b → E b) (hw : ∀ b, D b → b < w.heap.size → w'.heap[b]? = w.heap[b]?) {ts : List RT} {sl : Value} (h : RuV D w ts sl) : RuV E w' ts sl := by
  obtain ⟨p, c, rfl, h⟩ := h
  refine ⟨p, c, rfl, fun hn => ?_⟩
  obtain ⟨b, o, hp, hD, hc⟩ := h hn
  refine ⟨b, o, hp, hE b hD, fun i hi => ?_⟩
  obtain ⟨kd, k, u, p', n, c', h1, h2⟩ := hc i hi
  refine ⟨kd, k, u, p', n, c', h1.mono hE hw, fun j y hy => ?_⟩
  have h3 := h2 j y hy
  rw [← h3]
  exact cell_same (hw b hD (blk_lt h3)) _
theorem info58 : (Try.prog.info? 130).map (fun i => (i.zero, i.size)) = some (some (.agg #[.int .i64 0, .int .i64 0, .int .u64 0, .int .u64 0, .int .u64 0, .int .u64 0, .slice none 0 0]), 7) := by kernel_rfl
open Go.ChangeShapes Go.WideShapes in
theorem weightsAll_mem {H : Type} {P : Program} {e : TypeId} : ∀ {ds : List (DataW H)} {d : DataW H}, d ∈ ds → ∀ n ∈ d.weights P e, n ∈ DataW.weightsAll P e ds
  | a :: ds, d, h, n, hn => by
    rw [DataW.weightsAll]
    rcases List.mem_cons.1 h with rfl | h
    · exact List.mem_append_left _ hn
    · exact List.mem_append_right _ (weightsAll_mem h n hn)
open Go.ChangeShapes Go.WideShapes Go.Deep in
theorem words_open {H : Type} {enc : TypeId × Value → H} {w : World} {base : Nat} {sp : Nat → Bool} {held : Bool} {fuel : Nat} {c0 c1 c2 c3 : Value} {x : DataW H × List MemPlace} (h : DataW.trod enc Try.prog w base sp held fuel 125 [c0, c1, c2, c3] = some x) :
    ∃ u : Nat → Int, c0 = .int .u64 (u 0) ∧ c1 = .int .u64 (u 1) ∧ c2 = .int .u64 (u 2) ∧ c3 = .int .u64 (u 3) ∧ ∀ i, 0 ≤ u i ∧ u i ≤ 18446744073709551615 := by
  obtain ⟨y0, y1, y2, y3, m, hx, hy0, hy1, hy2, hy3⟩ := trod_array4 Try.underlying125 (by kernel_rfl) h
  obtain ⟨x0, e0, rfl, w0⟩ := DataW.trod_int Try.underlying123 hy0
  obtain ⟨x1, e1, rfl, w1⟩ := DataW.trod_int Try.underlying123 hy1
  obtain ⟨x2, e2, rfl, w2⟩ := DataW.trod_int Try.underlying123 hy2
  obtain ⟨x3, e3, rfl, w3⟩ := DataW.trod_int Try.underlying123 hy3
  simp at e0 e1 e2 e3
  subst e0 e1 e2 e3
  have g : ∀ n : Int, (Lit.int .u64 n).wf = true → 0 ≤ n ∧ n ≤ 18446744073709551615 := fun n h => by
    simpa [Lit.wf, IntKind.min, IntKind.max, IntKind.signed, IntKind.bits] using h
  refine ⟨fun i => if i = 0 then x0 else if i = 1 then x1 else if i = 2 then x2 else x3, rfl, rfl, rfl, rfl, fun i => ?_⟩
  simp only
  split
  · exact g _ w0
  · split
    · exact g _ w1
    · split
      · exact g _ w2
      · exact g _ w3
def flat6 (xs : List (Array Value)) : List Value := xs.flatMap Array.toList
theorem flat6_len : ∀ (xs : List (Array Value)), (∀ x ∈ xs, x.size = 6) → (flat6 xs).length = xs.length * 6
  | [], _ => rfl
  | x :: xs, h => by
    have h1 := flat6_len xs fun y hy => h y (List.mem_cons_of_mem _ hy)
    have h2 := h x (List.mem_cons_self ..)
    show (x.toList ++ flat6 xs).length = _
    rw [List.length_append, h1, Array.length_toList, h2, List.length_cons]; omega
theorem flat6_get : ∀ (xs : List (Array Value)), (∀ x ∈ xs, x.size = 6) → ∀ i (h : i < xs.length) j, j < 6 → (flat6 xs)[6 * i + j]? = (xs[i])[j]?
  | [], _, i, h, j, hj => by simp at h
  | x :: xs, h, 0, hi, j, hj => by
    have h2 := h x (List.mem_cons_self ..)
    show (x.toList ++ flat6 xs)[6 * 0 + j]? = _
    rw [List.getElem?_append_left (by simp [h2]; omega)]
    simp
  | x :: xs, h, i + 1, hi, j, hj => by
    have h1 := flat6_get xs (fun y hy => h y (List.mem_cons_of_mem _ hy)) i (by simpa using hi) j hj
    have h2 := h x (List.mem_cons_self ..)
    show (x.toList ++ flat6 xs)[6 * (i + 1) + j]? = _
    rw [List.getElem?_append_right (by simp [h2]; omega), Array.length_toList, h2, show 6 * (i + 1) + j - 6 = 6 * i + j by omega, h1]
    simp
theorem flat6_app (xs : List (Array Value)) (x : Array Value) : flat6 (xs ++ [x]) = flat6 xs ++ x.toList := by simp [flat6]
theorem infoN6 : (Try.prog.info? 128).map (fun i => (i.zero, i.size, i.bytes)) = some (some (.agg (nodeC 0 u0 (.slice none 0 0))), 6, 64) := by kernel_rfl
theorem nodeC_one (k : Int) (u : Nat → Int) (p : Option Addr) (n c : Nat) : (nodeC k u (.slice p n c)).all (·.oneCell') = true := by
  simp only [Array.all_eq_true]
  intro i hi
  have : i < 6 := hi
  rcases (by omega : i = 0 ∨ i = 1 ∨ i = 2 ∨ i = 3 ∨ i = 4 ∨ i = 5) with rfl | rfl | rfl | rfl | rfl | rfl <;> rfl
/-- The patterns ts, as they lay in w0, in a row of one's own. -/
def TB (w0 : World) (D : Nat → Prop) (ts : List RT) (sl : Value) (w : World) : Prop :=
  ∃ xs : List (Array Value), xs.length = ts.length ∧ (∀ x ∈ xs, ∃ k u p n c, x = nodeC k u (.slice p n c)) ∧ (∀ i (h : i < ts.length) (h' : i < xs.length), RV D w0 ts[i] (.agg xs[i])) ∧ w.ownsRow w0.heap.size 128 6 sl ts.length (flat6 xs)
theorem nodes_six {xs : List (Array Value)} (h : ∀ x ∈ xs, ∃ k u p n c, x = nodeC k u (.slice p n c)) : ∀ x ∈ xs, x.size = 6 := fun x hx => by
  obtain ⟨k, u, p, n, c, rfl⟩ := h x hx; rfl
theorem TB.up {w0 w w' : World} {D : Nat → Prop} {ts : List RT} {sl : Value} (h : TB w0 D ts sl w) (hb : Below w.heap.size w w') : TB w0 D ts sl w' := by
  obtain ⟨xs, h1, h2, h3, h4⟩ := h
  refine ⟨xs, h1, h2, h3, h4.1, ?_⟩
  rcases h4.2 with hn | ⟨g, cap, cur, hv, hg, hh, rest⟩
  · exact .inl hn
  · exact .inr ⟨g, cap, cur, hv, hg, (hb.block g (Array.getElem?_eq_some_iff.1 hh).1).trans hh, rest⟩
theorem TB.sl {w0 w : World} {D : Nat → Prop} {ts : List RT} {sl : Value} (h : TB w0 D ts sl w) : ∃ a c, sl = .slice a ts.length c := by
  obtain ⟨xs, h1, h2, h3, h4⟩ := h
  rcases h4.2 with ⟨hv, hn⟩ | ⟨g, cap, cur, hv, _⟩
  · exact ⟨none, 0, by rw [hv, hn]⟩
  · exact ⟨_, _, hv⟩
theorem flat6_take (xs : List (Array Value)) (h : ∀ x ∈ xs, x.size = 6) (n : Nat) (hn : n ≤ xs.length) : (flat6 xs).take (n * 6) = flat6 (xs.take n) := by
  have e : flat6 xs = flat6 (xs.take n) ++ flat6 (xs.drop n) := by
    unfold flat6
    rw [← List.flatMap_append, List.take_append_drop]
  rw [e]
  exact List.take_left' (by rw [flat6_len _ (fun x hx => h x (List.mem_of_mem_take hx)), List.length_take]; omega)
/-- The last one, and what is left. -/
theorem TB.last {w0 w : World} {D : Nat → Prop} {ts : List RT} {t : RT} {sl : Value} (h : TB w0 D (ts ++ [t]) sl w) : ∃ g cap k u p n c, sl = .slice (some ⟨g, 0, none⟩) (ts.length + 1) cap ∧ w0.heap.size ≤ g ∧ g < w.heap.size ∧ RV D w0 t (.agg (nodeC k u (.slice p n c))) ∧
    (∀ j y, (nodeC k u (.slice p n c))[j]? = some y → w.cell? ⟨g, ts.length * 6 + j, none⟩ = some y) ∧ TB w0 D ts (.slice (some ⟨g, 0, none⟩) ts.length cap) w ∧ ts.length + 1 ≤ cap := by
  obtain ⟨xs, h1, h2, h3, h4⟩ := h
  have hl : (ts ++ [t]).length = ts.length + 1 := by simp
  rw [hl] at h1 h4
  rcases h4.2 with ⟨_, hn⟩ | ⟨g, cap, cur, hv, hg, hh, hc1, hc2, hc3, hc4⟩
  · omega
  · have hx := h2 xs[ts.length] (List.getElem_mem _)
    obtain ⟨k, u, p, n, c, he⟩ := hx
    have h5 := h3 ts.length (by simp) (by omega)
    rw [he] at h5
    have e : (ts ++ [t])[ts.length]'(by simp) = t := by simp
    rw [e] at h5
    have h6 := nodes_six h2
    refine ⟨g, cap, k, u, p, n, c, hv, hg, (Array.getElem?_eq_some_iff.1 hh).1, h5, fun j y hy => ?_, ⟨xs.take ts.length, by simp; omega, fun x hx => h2 x (List.mem_of_mem_take hx), fun i hi hi' => ?_, by rw [flat6_len _ (fun x hx => h6 x (List.mem_of_mem_take hx)), List.length_take]; rw [Nat.min_eq_left (by omega)], .inr ⟨g, cap, cur, rfl, hg, hh, by omega, hc2, hc3, ?_⟩⟩, hc1⟩
    · have hj : j < 6 := (Array.getElem?_eq_some_iff.1 hy).1
      rw [cell_of_row w g _ _ 128 (0, 0) hh]
      have h7 := flat6_get xs h6 ts.length (by omega) j hj
      rw [he, hy, ← hc4, List.getElem?_take_of_lt (by omega), Array.getElem?_toList] at h7
      rw [← h7, show ts.length * 6 + j = 6 * ts.length + j by omega]
    · have := h3 i (by simp; omega) (by omega)
      rw [List.getElem_append_left hi] at this
      simpa using this
    · have : cur.toList.take (ts.length * 6) = (cur.toList.take ((ts.length + 1) * 6)).take (ts.length * 6) := by rw [List.take_take]; congr 1; omega
      rw [this, hc4, flat6_take xs h6 _ (by omega)]
/-- One more. -/
theorem TB.app {w0 w' : World} {D : Nat → Prop} {ts : List RT} {t : RT} {sl' : Value} {k : Int} {u : Nat → Int} {p : Option Addr} {n c : Nat} {xs : List (Array Value)} (h1 : xs.length = ts.length) (h2 : ∀ x ∈ xs, ∃ k u p n c, x = nodeC k u (.slice p n c)) (h3 : ∀ i (h : i < ts.length) (h' : i < xs.length), RV D w0 ts[i] (.agg xs[i]))
    (ht : RV D w0 t (.agg (nodeC k u (.slice p n c)))) (hown : w'.ownsRow w0.heap.size 128 6 sl' (ts.length + 1) (flat6 xs ++ (nodeC k u (.slice p n c)).toList)) : TB w0 D (ts ++ [t]) sl' w' := by
  refine ⟨xs ++ [nodeC k u (.slice p n c)], by simp [h1], fun x hx => ?_, fun i hi hi' => ?_, ?_⟩
  · rcases List.mem_append.1 hx with hx | hx
    · exact h2 x hx
    · simp at hx; exact ⟨k, u, p, n, c, hx⟩
  · by_cases hlt : i < ts.length
    · have := h3 i hlt (by omega)
      simpa [List.getElem_append_left, hlt, h1] using this
    · have hi2 : i = ts.length := by simp at hi; omega
      subst hi2
      have e1 : (ts ++ [t])[ts.length]'hi = t := by simp
      have e2 : (xs ++ [nodeC k u (.slice p n c)])[ts.length]'hi' = nodeC k u (.slice p n c) := by simp [← h1]
      rw [e1, e2]; exact ht
  · rw [flat6_app]
    simpa using hown
theorem TB.one {w0 w : World} {D : Nat → Prop} {t : RT} {k : Int} {u : Nat → Int} {p : Option Addr} {n c : Nat} (ht : RV D w0 t (.agg (nodeC k u (.slice p n c)))) (hw : w0.heap.size ≤ w.heap.size) : TB w0 D [t] (.slice (some ⟨w.heap.size, 0, none⟩) 1 1) (w.alloc (.cells (nodeC k u (.slice p n c)) 128)) :=
  ⟨[nodeC k u (.slice p n c)], rfl, fun x hx => by simp at hx; exact ⟨k, u, p, n, c, hx⟩, fun i hi hi' => by
    have : i = 0 := by simpa using hi
    subst this; exact ht, rfl, .inr ⟨w.heap.size, 1, _, rfl, hw, heap_alloc_last w _, by simp, by decide, rfl, rfl⟩⟩
theorem below_grown6 {B : Nat} {w0 w w' : World} {row : Option Nat} (h : Below B w0 w) (hg : w.grownBy w' row) (hr : ∀ g, row = some g → B ≤ g) (hB : B ≤ w.heap.size) : Below B w0 w' :=
  ⟨hg.os.trans h.os, hg.tape.trans h.tape, hg.output.trans h.output, Nat.le_trans h.size hg.size, fun k hk => (hg.block k (by omega) (fun e => by have := hr k e.symm; omega)).trans (h.block k hk)⟩
theorem widL_app2 : ∀ (ts : List RT) (x : RT), wid x ≤ widL (ts ++ [x]) ∧ widL ts ≤ widL (ts ++ [x])
  | [], x => by simp [widL]
  | a :: ts, x => by
    have := widL_app2 ts x
    simp only [List.cons_append, widL]
    omega
theorem widL_appL : ∀ (xs ys : List RT), widL (xs ++ ys) ≤ max (widL xs) (widL ys)
  | [], ys => by simp [widL]
  | a :: xs, ys => by
    have := widL_appL xs ys
    simp only [List.cons_append, widL]
    omega
theorem widL_take (ps : List RT) (j : Nat) : widL (ps.take j) ≤ widL ps := by
  have e : ps.take j ++ ps.drop j = ps := List.take_append_drop j ps
  have : ∀ (xs ys : List RT), widL xs ≤ widL (xs ++ ys) := fun xs ys => by
    induction xs with
    | nil => simp [widL]
    | cons a xs ih => simp only [List.cons_append, widL]; omega
  have h := this (ps.take j) (ps.drop j)
  rwa [e] at h
theorem hwps2 : ∀ (ps : List RT), (∀ i (h : i < ps.length), wid ps[i] ≤ 9223372036854775806) → widL ps ≤ 9223372036854775806
  | [], _ => by simp [widL]
  | p :: ps, h => by
    have h1 := h 0 (by simp)
    have h2 := hwps2 ps fun i hi => by have := h (i + 1) (by simpa using hi); simpa using this
    simp only [widL]
    simp at h1
    omega
set_option maxHeartbeats 8000000 in
theorem rbig_any {D : Nat → Prop} {t : RT} {v : Value} {w : World} (m : Nat) (hm2 : m ≤ 1000000) (hwd : wid t ≤ 9223372036854775806) (hD : ∀ z, D z → z < w.heap.size) (h : RV D w t v) :
    Calls Try.prog 72 #[v, .int .i64 (m : Nat)] w fun e w' => e = .returned (.bool (decide (m < sz t))) ∧ Below w.heap.size w w' := by
  obtain ⟨i0, hi, hz0, hz1, hz2⟩ := info_parts infoN6
  obtain ⟨k, u, p, n, c, rfl⟩ := h.form
  have S0 := (Sb.start w).alloc (.cells (nodeC k u (.slice p n c)) 128)
  have HT1 := Lib.hid (TB.one (w := w.alloc (.cells (nodeC k u (.slice p n c)) 128)) h (by simp))
  have HB1 := Lib.hid (S0.1.alloc S0.1.size (.cells (nodeC k u (.slice p n c)) 128))
  clear h S0
  unfold nodeC at HT1 HB1 ⊢
  go_enter Try.func72, Try.ntmps72
  go_wp2
  rw [show (w.alloc (.cells #[.int .i64 k, .int .u64 (u 0), .int .u64 (u 1), .int .u64 (u 2), .int .u64 (u 3), .slice p n c] 128)).heap.size = w.heap.size + 1 from by simp] at HT1
  generalize hws : ((w.alloc (.cells #[.int .i64 k, .int .u64 (u 0), .int .u64 (u 1), .int .u64 (u 2), .int .u64 (u 3), .slice p n c] 128)).alloc (.cells #[.int .i64 k, .int .u64 (u 0), .int .u64 (u 1), .int .u64 (u 2), .int .u64 (u 3), .slice p n c] 128)) = ws at *
  clear hws
  go_loopw [5, 6] (fun sl i wr => ∃ (ts : List RT) (q : Nat), i = .int .i64 (q : Nat) ∧ q ≤ m ∧ ts.length ≤ m + 1 ∧ Hid ((q + szL ts = sz t) ∨ (m < q + ts.length ∧ m < sz t)) ∧ Hid (widL ts ≤ 9223372036854775806) ∧ Hid (TB w D ts sl wr) ∧ Hid (Below w.heap.size w wr)) (fun _ i _ => m + 1 - (intOf i).toNat)
  case atStart => exact ⟨[t], 0, rfl, by omega, by simp, Lib.hid (.inl (by simp [szL])), Lib.hid (by simp [widL]; exact hwd), HT1, HB1⟩
  case round =>
    obtain ⟨ts, q, rfl, hqm, htm, HQ, HWD, HT, HB⟩ := hrel
    clear HT1 HB1
    rcases List.eq_nil_or_concat ts with rfl | ⟨ts, x, rfl⟩
    · obtain ⟨a, c', hsl⟩ := HT.out.sl
      rw [List.length_nil] at hsl
      subst hsl
      have hans : decide (m < sz t) = false := by
        have := HQ.out
        simp only [szL, List.length_nil] at this
        simp; omega
      go_wp2
      go_ret
      exact ⟨by show _ = Ending.returned (.bool (decide (m < sz t))); rw [hans]; rfl, HB.out⟩
    · rw [List.concat_eq_append] at HT HQ HWD htm
      obtain ⟨g, cap, k1, u1, p1, n1, c1, hsl, hg, hgl, hv, hcell, hTB, hcap⟩ := HT.out.last
      subst hsl
      have hsx : szL (ts ++ [x]) = szL ts + sz x := by rw [szL_app]; simp [szL]
      have hsp := sz_pos x
      have hlen := len_szL ts
      have d0 : wr.cell? ⟨g, ts.length * 6, none⟩ = some (.int .i64 k1) := hcell 0 _ rfl
      have d1 : wr.cell? ⟨g, ts.length * 6 + 1, none⟩ = some (.int .u64 (u1 0)) := hcell 1 _ rfl
      have d2 : wr.cell? ⟨g, ts.length * 6 + 2, none⟩ = some (.int .u64 (u1 1)) := hcell 2 _ rfl
      have d3 : wr.cell? ⟨g, ts.length * 6 + 3, none⟩ = some (.int .u64 (u1 2)) := hcell 3 _ rfl
      have d4 : wr.cell? ⟨g, ts.length * 6 + 4, none⟩ = some (.int .u64 (u1 3)) := hcell 4 _ rfl
      have d5 : wr.cell? ⟨g, ts.length * 6 + 5, none⟩ = some (.slice p1 n1 c1) := hcell 5 _ rfl
      have HT2 := Lib.hid hTB
      have HV := Lib.hid hv
      have hlt : (0 : Int) < ((ts.length : Nat) : Int) + 1 := by omega
      have hcap' : ((ts.length : Nat) : Int) ≤ (cap : Int) := by omega
      clear hcell hTB hv HT
      obtain ⟨kx, ux, ps⟩ := x
      obtain ⟨px, cx, hvx, hpx⟩ := HV.out.parts
      have hn1 : n1 = ps.length := by simp [nodeC] at hvx; exact hvx.2.2.2.2.2.2.1
      have hp1 : p1 = px := by simp [nodeC] at hvx; exact hvx.2.2.2.2.2.1
      subst hn1
      subst hp1
      have HPX := Lib.hid hpx
      have hps := len_szL ps
      simp only [sz] at hsx hsp
      have hwx : wid (.mk kx ux ps) ≤ 9223372036854775806 ∧ widL ts ≤ 9223372036854775806 := by
        have := widL_app2 ts (.mk kx ux ps)
        have := HWD.out
        omega
      obtain ⟨hpl, hwps⟩ := wid_mk hwx.1
      rw [List.length_append, List.length_singleton] at htm
      have HQ2 := Lib.hid HQ.out
      rw [hsx, List.length_append, List.length_singleton] at HQ2
      clear HQ HWD
      have HBx := Lib.hid ((Sb.start wr).alloc (.cells #[.int .i64 k1, .int .u64 (u1 0), .int .u64 (u1 1), .int .u64 (u1 2), .int .u64 (u1 3), .slice p1 ps.length c1] 128))
      have HT3 := Lib.hid (HT2.out.up HBx.out.1)
      have HB3 := Lib.hid (HB.out.trans (HBx.out.1.mono HB.out.size))
      have hgx : g ≠ wr.heap.size := by omega
      have hlx := HBx.out.lt
      clear hvx hpx HT2 HB
      by_cases hcut : m ≤ q
      · have hans : decide (m < sz t) = true := by
          have := HQ2.out
          simp; omega
        have hcut2 : ((m : Nat) : Int) ≤ ((q : Nat) : Int) := by omega
        clear HQ2
        go_wp2_with fail
        go_ret
        exact ⟨by first | rfl | (show _ = Ending.returned (.bool (decide (m < sz t))); rw [hans]; rfl), HB3.out⟩
      have hcut2 : ¬ ((m : Nat) : Int) ≤ ((q : Nat) : Int) := by omega
      by_cases hbg : m < ps.length
      · have hans : decide (m < sz t) = true := by
          have := HQ2.out
          simp; omega
        have hbg2 : ((m : Nat) : Int) < ((ps.length : Nat) : Int) := by omega
        clear HQ2
        go_wp2_with fail
        go_ret
        exact ⟨by first | rfl | (show _ = Ending.returned (.bool (decide (m < sz t))); rw [hans]; rfl), HB3.out⟩
      have hbg2 : ¬ ((m : Nat) : Int) < ((ps.length : Nat) : Int) := by omega
      go_upto_region 9 with fail
      generalize (wr.alloc (.cells #[.int .i64 k1, .int .u64 (u1 0), .int .u64 (u1 1), .int .u64 (u1 2), .int .u64 (u1 3), .slice p1 ps.length c1] 128)) = wx at *
      have HX := Lib.hid HBx.out.heap
      clear HBx d0 d1 d2 d3 d4 d5
      go_wp2
      generalize wr.heap.size = bx at *
      go_loopw [5, 8] (fun sl i w2 => ∃ j : Nat, i = .int .i64 (j : Nat) ∧ j ≤ ps.length ∧ ts.length + j ≤ m + 1 ∧ Hid (TB w D (ts ++ ps.take j) sl w2) ∧ Hid (Below w.heap.size w w2) ∧ Hid (w2.heap[bx]? = some (.cells #[.int .i64 k1, .int .u64 (u1 0), .int .u64 (u1 1), .int .u64 (u1 2), .int .u64 (u1 3), .slice p1 ps.length c1] 128 (0, 0))) ∧ ∀ g', sl.ownBlock = some g' → g' ≠ bx) (fun _ i _ => ps.length - (intOf i).toNat)
      case atStart => exact ⟨0, rfl, by omega, by omega, by simpa using HT3, HB3, HX, fun g' h => by simp [Value.ownBlock] at h; omega⟩
      case round =>
        obtain ⟨j, rfl, hj, hjm, HTj, HBj, HXj, hown⟩ := hrel
        clear HT3 HB3 HX
        have c5 : wr.cell? ⟨bx, 5, none⟩ = some (.slice p1 ps.length c1) := cell_of_row wr bx 5 _ 128 (0, 0) HXj.out
        obtain ⟨a, cc, hsl⟩ := HTj.out.sl
        have hlj : (ts ++ ps.take j).length = ts.length + j := by simp; omega
        rw [hlj] at hsl
        subst hsl
        by_cases hlt2 : j < ps.length
        · have hlt3 : (j : Int) < ((ps.length : Nat) : Int) := by omega
          by_cases hfull : ¬ ts.length + j ≤ m
          · have hle : ¬ ((ts.length : Nat) : Int) + (j : Int) ≤ (m : Int) := by omega
            have htkl : (ps.take j).length = j := by rw [List.length_take]; omega
            have hpl2 := widL_take ps j
            have hbig : m < sz t := by
              have := HQ2.out
              omega
            have hwd2 : widL (ts ++ ps.take j) ≤ 9223372036854775806 := by
              have := widL_appL ts (ps.take j)
              have := hwps2 ps hwps
              omega
            go_wp2_with fail
            go_roundw
            case rel => exact ⟨ts ++ ps.take j, q + 1, by go_num, by omega, by rw [List.length_append, htkl]; omega, Lib.hid (.inr ⟨by rw [List.length_append, htkl]; omega, hbig⟩), Lib.hid hwd2, HTj, HBj⟩
            case measure => simp [intOf]; omega
          have hle : ((ts.length : Nat) : Int) + (j : Int) ≤ (m : Int) := by omega
          have hne : ps ≠ [] := by intro e; subst e; simp at hlt2
          obtain ⟨b', o', rfl, hDb, hx⟩ := HPX.out hne
          obtain ⟨k5, u5, p5, n5, c5', hv5, hc5⟩ := hx j hlt2
          have hbw := hD b' hDb
          have cc5 : ∀ i y, (nodeC k5 u5 (.slice p5 n5 c5'))[i]? = some y → wr.cell? ⟨b', o' + j * 6 + i, none⟩ = some y := fun i y hy => by
            rw [HBj.out.cell (p := ⟨b', o' + j * 6 + i, none⟩) hbw, ← hc5 i y hy, show o' + j * 6 + i = o' + (6 * j + i) by omega]
          have f0 : wr.cell? ⟨b', o' + j * 6, none⟩ = some (.int .i64 k5) := cc5 0 _ rfl
          have f1 : wr.cell? ⟨b', o' + j * 6 + 1, none⟩ = some (.int .u64 (u5 0)) := cc5 1 _ rfl
          have f2 : wr.cell? ⟨b', o' + j * 6 + 2, none⟩ = some (.int .u64 (u5 1)) := cc5 2 _ rfl
          have f3 : wr.cell? ⟨b', o' + j * 6 + 3, none⟩ = some (.int .u64 (u5 2)) := cc5 3 _ rfl
          have f4 : wr.cell? ⟨b', o' + j * 6 + 4, none⟩ = some (.int .u64 (u5 3)) := cc5 4 _ rfl
          have f5 : wr.cell? ⟨b', o' + j * 6 + 5, none⟩ = some (.slice p5 n5 c5') := cc5 5 _ rfl
          obtain ⟨xs, x1, x2, x3, x4⟩ := HTj.out
          rw [hlj] at x4
          have X1 := Lib.hid x1
          have X2 := Lib.hid x2
          have X3 := Lib.hid x3
          have X4 := Lib.hid (World.ownsRow.alloc x4 (.cells #[.int .i64 k5, .int .u64 (u5 0), .int .u64 (u5 1), .int .u64 (u5 2), .int .u64 (u5 3), .slice p5 n5 c5'] 128))
          have HC0 : Hid (∀ j u, (nodeC k5 u5 (.slice p5 n5 c5')).toList[j]? = some u → (wr.alloc (.cells #[.int .i64 k5, .int .u64 (u5 0), .int .u64 (u5 1), .int .u64 (u5 2), .int .u64 (u5 3), .slice p5 n5 c5'] 128)).cell? ((⟨wr.heap.size, 0, none⟩ : Addr).add j) = some u) := Lib.hid fun j u hj => by
            rw [Addr.add_mid, cell_of_row _ wr.heap.size (0 + j) _ 128 (0, 0) (heap_alloc_last wr _), Nat.zero_add]
            rw [Array.getElem?_toList] at hj; exact hj
          have HV5 := Lib.hid hv5
          have hbxl := (Array.getElem?_eq_some_iff.1 HXj.out).1
          have hwl := HBj.out.size
          have HA : Hid (Below wr.heap.size wr (wr.alloc (.cells #[.int .i64 k5, .int .u64 (u5 0), .int .u64 (u5 1), .int .u64 (u5 2), .int .u64 (u5 3), .slice p5 n5 c5'] 128))) := Lib.hid ((Below.refl _ _).alloc (Nat.le_refl _) _)
          clear cc5 hc5 hx x1 x2 x3 x4 hv5
          go_wp2_with (at_builtin; refine wpList_append_own_at _ rfl (.tmp 50) (.tmp 56) 126 rfl w.heap.size 128 i0 (.agg (nodeC 0 u0 (.slice none 0 0))) 6 64 Try.underlying126 hi hz0 hz1 hz2 rfl (by decide) (.slice a (ts.length + j) cc) (ts.length + j) (flat6 xs) rfl ?c0 ⟨wr.heap.size, 0, none⟩ 1 1 (nodeC k5 u5 (.slice p5 n5 c5')).toList rfl rfl ?c1 ?c2 ?c3 ?c4 ?c5 ?_)
          case c0 => exact X4.out
          case c1 => exact HC0.out
          case c2 => exact fun u hu => (Array.all_eq_true_iff_forall_mem.1 (nodeC_one k5 u5 p5 n5 c5')) u (by simpa using hu)
          case c3 => unfold maxLen; omega
          case c4 => omega
          case c5 => simp; omega
          intro v' w7 hown7 hgrow7 _ hat7
          have hbase := fun g (hg : (Value.slice a (ts.length + j) cc).ownBlock = some g) => (World.ownsRow.lt X4.out g hg).1
          have htk : ts ++ ps.take (j + 1) = (ts ++ ps.take j) ++ [ps[j]] := by rw [List.take_succ_eq_append_getElem hlt2, List.append_assoc]
          have HTA : Hid (TB w D (ts ++ ps.take (j + 1)) v' w7) := Lib.hid (by
            rw [htk]
            exact TB.app X1.out X2.out X3.out HV5.out (by rw [hlj]; exact hown7))
          have HBA : Hid (Below w.heap.size w w7) := Lib.hid (below_grown6 (HBj.out.trans (HA.out.mono hwl)) hgrow7 hbase (Nat.le_trans hwl HA.out.size))
          have HXA : Hid (w7.heap[bx]? = some (.cells #[.int .i64 k1, .int .u64 (u1 0), .int .u64 (u1 1), .int .u64 (u1 2), .int .u64 (u1 3), .slice (some ⟨b', o', none⟩) ps.length c1] 128 (0, 0))) := Lib.hid
            ((hgrow7.block bx (Nat.lt_of_lt_of_le hbxl HA.out.size) (fun e => hown bx e.symm rfl)).trans ((HA.out.block bx hbxl).trans HXj.out))
          have hoA : ∀ g', v'.ownBlock = some g' → g' ≠ bx := fun g' hg' => by
            rcases hat7 with e | e
            · exact hown g' (e.symm.trans hg')
            · rw [e] at hg'
              have h1 := Option.some.inj hg'
              have h2 := HA.out.size
              omega
          clear hown7 hgrow7 hat7 hbase htk X1 X2 X3 X4 HC0 HV5 HTj HBj HXj hown HA f0 f1 f2 f3 f4 f5 c5
          go_wp2_with fail
          go_roundw
          case rel => exact ⟨j + 1, by go_num, by omega, by omega, HTA, HBA, HXA, hoA⟩
          case measure => simp [intOf]; omega
        · obtain rfl : j = ps.length := by omega
          have hlt3 : ¬ ((ps.length : Nat) : Int) < ((ps.length : Nat) : Int) := by omega
          rw [List.take_length] at HTj
          have hwd2 : widL (ts ++ ps) ≤ 9223372036854775806 := by
            have := widL_appL ts ps
            have := hwps2 ps hwps
            omega
          have hq2 : (q + 1 + szL (ts ++ ps) = sz t) ∨ (m < q + 1 + (ts ++ ps).length ∧ m < sz t) := by
            have := HQ2.out
            rw [szL_app, List.length_append]
            omega
          go_wp2_with fail
          go_roundw
          case rel => exact ⟨ts ++ ps, q + 1, by go_num, by omega, by rw [List.length_append]; omega, Lib.hid hq2, Lib.hid hwd2, HTj, HBj⟩
          case measure => simp [intOf]; omega
theorem TB.nil {w0 w : World} {D : Nat → Prop} {sl : Value} (h : w.ownsRow w0.heap.size 128 6 sl 0 []) : TB w0 D [] sl w := ⟨[], rfl, by simp, by simp, h⟩
theorem TB.tree {w0 w : World} {D : Nat → Prop} {ts : List RT} {sl : Value} (hD : ∀ b, D b → b < w0.heap.size) (hb : Below w0.heap.size w0 w) (h : TB w0 D ts sl w) : RV (fun b => b < w.heap.size) w (.mk 0 u0 ts) (.agg (nodeC 0 u0 sl)) := by
  obtain ⟨xs, h1, h2, h3, h4⟩ := h
  have h6 := nodes_six h2
  have hs := hb.size
  rcases h4.2 with ⟨hv, hn⟩ | ⟨g, cap, cur, hv, hg, hh, hc1, hc2, hc3, hc4⟩
  · subst hv
    obtain rfl : ts = [] := List.eq_nil_of_length_eq_zero hn
    exact .leaf 0 u0 none 0
  · subst hv
    by_cases hne : ts = []
    · subst hne; exact .leaf 0 u0 _ _
    · exact .node 0 u0 ts g 0 cap (fun i => if h : i < xs.length then xs[i] else #[]) (Array.getElem?_eq_some_iff.1 hh).1 hne (fun i hi => by
        rw [dif_pos (by omega)]
        exact (h3 i hi (by omega)).mono (fun b h => by have := hD b h; omega) (fun b h _ => hb.block b (hD b h))) (fun i hi j hj => by
        have hx6 := h6 xs[i] (List.getElem_mem (by omega))
        refine ⟨(xs[i]'(by omega))[j]'(by omega), by rw [dif_pos (by omega)]; exact Array.getElem?_eq_getElem (by omega), ?_⟩
        have h7 := flat6_get xs h6 i (by omega) j hj
        rw [cell_of_row w g _ _ 128 (0, 0) hh, Nat.zero_add, ← Array.getElem?_eq_getElem (by omega), ← h7, ← hc4, List.getElem?_take_of_lt (by omega), Array.getElem?_toList])
end Go.Proofs.Ytemkppjdfjoipaa.R6
