/- Texts of package regs, one behind the other. -/
import Derived.Lib.Slices
import Derived.Lib.Strings
import Derived.Test.YtmjojahkbjlcdaaDoorProg
import Derived.Test.YtmjojahkbjlcdaaDoorY3
import Derived.Test.YtmjojahkbjlcdaaDoorY4
import Derived.WalkKit
import Derived.WalkLawsBesides
import Derived.WalkSpells
import Derived.Outline
import Derived.Lib.Walk
import Derived.Lib.Hide
import Derived.RegionTactic
import Derived.LoopTactic
import Derived.Below
import Derived.IntWalk
import Derived.Deep.QuietTactic
import Derived.BigQuiet
import Derived.Test.YtmjojahkbjlcdaaDoorY28
import Derived.Test.YtmjojahkbjlcdaaDoorY20
import Derived.Test.YtmjojahkbjlcdaaDoorG37
section
namespace Go.Proofs.YtmjojahkbjlcdaaDoor
set_option linter.unusedSimpArgs false
set_option linter.unusedVariables false
set_option maxRecDepth 100000
open Go.RowKit

/- marked: what it may write over. -/
/-- A pattern of at most n levels; its rows lie in D's blocks. -/
def Dp (D : Nat → Prop) (w : World) : Nat → Value → Prop
  | 0, _ => False
  | n + 1, v => ∃ (k : Int) (u : Nat → Int) (p : Option Addr) (m c : Nat), v = .agg (nodeC k u (.slice p m c)) ∧ m ≤ 1000 ∧ (m ≠ 0 → ∃ b o, p = some ⟨b, o, none⟩ ∧ D b ∧ (∀ j, w.frozen? ⟨b, j, none⟩ = false) ∧
      ∀ i, i < m → ∃ (k' : Int) (u' : Nat → Int) (p' : Option Addr) (m' c' : Nat), Dp D w n (.agg (nodeC k' u' (.slice p' m' c'))) ∧ ∀ j y, (nodeC k' u' (.slice p' m' c'))[j]? = some y → w.cell? ⟨b, o + (6 * i + j), none⟩ = some y)
theorem RV.dp {D : Nat → Prop} {w : World} : ∀ (n : Nat) (t : RT) {v : Value}, dep t ≤ n → wid t ≤ 1000 → RV D w t v → Dp D w n v
  | 0, .mk k u ps, v, hn, _, h => by simp [dep] at hn
  | n + 1, t, v, hn, hw, h => by
    cases h with
    | leaf k u p c => exact ⟨k, u, p, 0, c, rfl, by omega, fun h => absurd rfl h⟩
    | node k u ps b o c xs hD hnn hx hc hz =>
      obtain ⟨hl, hw2⟩ := wid_mk hw
      have h1 : depL ps ≤ n := by simp only [dep] at hn; omega
      refine ⟨k, u, _, _, c, rfl, hl, fun _ => ⟨b, o, rfl, hD, hz, fun i hi => ?_⟩⟩
      obtain ⟨k', u', p', n', c', hf⟩ := (hx i hi).form
      have hxs : xs i = nodeC k' u' (.slice p' n' c') := by injection hf
      have h7 := hx i hi
      rw [hxs] at h7
      refine ⟨k', u', p', n', c', RV.dp n ps[i] (by have := depL_get ps i hi; omega) (hw2 i hi) h7, fun j y hy => ?_⟩
      have hj : j < 6 := (Array.getElem?_eq_some_iff.1 hy).1
      obtain ⟨y', h5, h6⟩ := hc i hi j hj
      rw [hxs, hy] at h5
      cases h5
      exact h6
theorem nodeC_int (k : Int) (u : Nat → Int) (s : Value) (i : Nat) (hi : i < 5) : ∃ kd z, (nodeC k u s)[i]? = some (.int kd z) := by
  rcases (by omega : i = 0 ∨ i = 1 ∨ i = 2 ∨ i = 3 ∨ i = 4) with rfl | rfl | rfl | rfl | rfl <;> exact ⟨_, _, rfl⟩
theorem nodeC_last (k : Int) (u : Nat → Int) (s : Value) : (nodeC k u s)[5]? = some s := rfl
theorem Dp.keep {D : Nat → Prop} {w w' : World} (hw : ∀ b, b < w.heap.size → w'.heap[b]? = w.heap[b]?) : ∀ (n : Nat) (v : Value), Dp D w n v → Dp D w' n v
  | n + 1, v, ⟨k, u, p, m, c, hv, hm, hp⟩ => ⟨k, u, p, m, c, hv, hm, fun h0 => by
    obtain ⟨b, o, hpe, hD, hz, hx⟩ := hp h0
    have hb : b < w.heap.size := by
      obtain ⟨k', u', p', m', c', hd, hc⟩ := hx 0 (by omega)
      exact block_lt_of_cell (hc 0 _ rfl)
    have hwb := hw b hb
    refine ⟨b, o, hpe, hD, fun j => ?_, fun i hi => ?_⟩
    · rw [← hz j]; unfold World.frozen?; simp only [hwb]
    · obtain ⟨k', u', p', m', c', hd, hc⟩ := hx i hi
      refine ⟨k', u', p', m', c', Dp.keep hw n _ hd, fun j y hy => ?_⟩
      rw [← hc j y hy]; unfold World.cell?; simp only [hwb]⟩
/-- A row of six cells is written over. -/
def Wo (B O : Nat) (w w' : World) : Prop := (∀ b j, (b ≠ B ∨ j < O ∨ O + 6 ≤ j) → w'.cell? ⟨b, j, none⟩ = w.cell? ⟨b, j, none⟩) ∧ (∀ j y, (nodeC 99 u0 (.slice none 0 0))[j]? = some y → w'.cell? ⟨B, O + j, none⟩ = some y) ∧ ∀ b j, w'.frozen? ⟨b, j, none⟩ = w.frozen? ⟨b, j, none⟩
theorem Dp.pos {D : Nat → Prop} {w : World} {v : Value} : ∀ {n : Nat}, Dp D w n v → n ≠ 0
  | 0, h => h.elim
  | n + 1, _ => by omega
theorem Dp.dead {D : Nat → Prop} {w : World} : ∀ {n : Nat}, n ≠ 0 → Dp D w n (.agg (nodeC 99 u0 (.slice none 0 0)))
  | 0, h => absurd rfl h
  | n + 1, _ => ⟨99, u0, none, 0, 0, rfl, by omega, fun h => absurd rfl h⟩
theorem Dp.write {D : Nat → Prop} {w w' : World} {B O : Nat} {k1 : Int} {u1 : Nat → Int} {p1 : Option Addr} {m1 c1 : Nat} (hN : ∀ j y, (nodeC k1 u1 (.slice p1 m1 c1))[j]? = some y → w.cell? ⟨B, O + j, none⟩ = some y) (hw : Wo B O w w') : ∀ (n : Nat) (v : Value), Dp D w n v → Dp D w' n v
  | n + 1, v, ⟨k, u, p, m, c, hv, hm, hp⟩ => ⟨k, u, p, m, c, hv, hm, fun h0 => by
    obtain ⟨b, o, hpe, hD, hz, hx⟩ := hp h0
    refine ⟨b, o, hpe, hD, fun j => (hw.2.2 b j).trans (hz j), fun i hi => ?_⟩
    obtain ⟨k', u', p', m', c', hd, hc⟩ := hx i hi
    by_cases e : b = B ∧ o + 6 * i = O
    · refine ⟨99, u0, none, 0, 0, Dp.dead hd.pos, fun j y hy => ?_⟩
      rw [e.1, show o + (6 * i + j) = O + j by omega]
      exact hw.2.1 j y hy
    · refine ⟨k', u', p', m', c', Dp.write hN hw n _ hd, fun j y hy => ?_⟩
      have hj : j < 6 := (Array.getElem?_eq_some_iff.1 hy).1
      rw [hw.1 b (o + (6 * i + j)) ?_]
      · exact hc j y hy
      · by_cases hb : b = B
        · right
          subst hb
          by_cases h1 : o + (6 * i + j) < O
          · exact .inl h1
          · by_cases h2 : O + 6 ≤ o + (6 * i + j)
            · exact .inr h2
            · exfalso
              have hne : o + 6 * i ≠ O := fun h => e ⟨rfl, h⟩
              by_cases h3 : o + 6 * i < O
              · obtain ⟨kd, z, hq⟩ := nodeC_int k1 u1 (.slice p1 m1 c1) (o + 6 * i + 5 - O) (by omega)
                have a1 := hN _ _ hq
                have a2 := hc 5 _ (nodeC_last _ _ _)
                rw [show O + (o + 6 * i + 5 - O) = o + (6 * i + 5) by omega, a2] at a1
                cases a1
              · obtain ⟨kd, z, hq⟩ := nodeC_int k' u' (.slice p' m' c') (O + 5 - (o + 6 * i)) (by omega)
                have a1 := hc _ _ hq
                have a2 := hN 5 _ (nodeC_last _ _ _)
                rw [show o + (6 * i + (O + 5 - (o + 6 * i))) = O + 5 by omega, a2] at a1
                cases a1
        · exact .inl hb⟩
/-- Nothing but D's blocks was written, and what could be written over can be still. -/
structure Kp (D : Nat → Prop) (w w' : World) : Prop where
  os : w'.os = w.os
  tape : w'.tape = w.tape
  output : w'.output = w.output
  size : w.heap.size ≤ w'.heap.size
  block : ∀ b, b < w.heap.size → ¬ D b → w'.heap[b]? = w.heap[b]?
  dp : ∀ n v, Dp D w n v → Dp D w' n v
theorem Kp.below {D : Nat → Prop} {w w' : World} (h : Below w.heap.size w w') : Kp D w w' := ⟨h.os, h.tape, h.output, h.size, fun b hb _ => h.block b hb, fun n v => Dp.keep (fun b hb => h.block b hb) n v⟩
theorem Kp.trans {D : Nat → Prop} {w w1 w2 : World} (h : Kp D w w1) (g : Kp D w1 w2) : Kp D w w2 :=
  ⟨g.os.trans h.os, g.tape.trans h.tape, g.output.trans h.output, Nat.le_trans h.size g.size, fun b hb hn => (g.block b (Nat.lt_of_lt_of_le hb h.size) hn).trans (h.block b hb hn), fun n v hv => g.dp n v (h.dp n v hv)⟩
theorem Kp.to_below {D : Nat → Prop} {B : Nat} {w w' : World} (h : Kp D w w') (hB : B ≤ w.heap.size) (hD : ∀ b, D b → B ≤ b) : Below B w w' :=
  ⟨h.os, h.tape, h.output, h.size, fun b hb => h.block b (by omega) (fun hd => by have := hD b hd; omega)⟩
/-- The same beside a box of one's own. -/
def Kb (D : Nat → Prop) (w wr : World) (o : Obj) : Prop := Kp D w wr ∧ wr.heap[w.heap.size]? = some o
theorem Kb.up {D : Nat → Prop} {w wr w5 : World} {o : Obj} (hD : ∀ b, D b → b < w.heap.size) (h : Kb D w wr o) (g : Kp D wr w5) : Kb D w w5 o :=
  ⟨h.1.trans g, (g.block _ (Array.getElem?_eq_some_iff.1 h.2).1 (fun hd => by have := hD _ hd; omega)).trans h.2⟩
theorem Wo.kp {D : Nat → Prop} {w w' : World} {B O : Nat} {k1 : Int} {u1 : Nat → Int} {p1 : Option Addr} {m1 c1 : Nat} (hDB : D B) (hN : ∀ j y, (nodeC k1 u1 (.slice p1 m1 c1))[j]? = some y → w.cell? ⟨B, O + j, none⟩ = some y) (hw : Wo B O w w') (ho : w'.os = w.os) (ht : w'.tape = w.tape) (hp : w'.output = w.output) (hs : w'.heap.size = w.heap.size) (hb : ∀ b, b ≠ B → w'.heap[b]? = w.heap[b]?) : Kp D w w' :=
  ⟨ho, ht, hp, by omega, fun b _ hn => hb b (fun e => hn (e ▸ hDB)), fun n v => Dp.write hN hw n v⟩
theorem setCells_frozen {b : Nat} (a : Addr) : ∀ (vs : List Value) (o : Nat) (w : World), (w.setCells b o vs).frozen? a = w.frozen? a
  | [], o, w => rfl
  | v :: vs, o, w => by
    show ((w.setCell ⟨b, o, none⟩ v).setCells b (o + 1) vs).frozen? a = _
    rw [setCells_frozen a vs (o + 1) _, World.frozen?_setCell]
theorem Wo.of {w : World} {B O : Nat} (h : w.there B O 6) : Wo B O w (w.setCells B O (nodeC 99 u0 (.slice none 0 0)).toList) := by
  refine ⟨fun b j hb => World.cell?_setCells_out B _ O w ⟨b, j, none⟩ (fun h1 _ => ?_), fun j y hy => ?_, fun b j => World.frozen?_setCells _ _ _ _ _⟩
  · have h1' : b = B := h1
    rcases hb with hb | hb | hb
    · exact absurd h1' hb
    · exact .inl hb
    · exact .inr hb
  · have hr := World.rangeAt_setCells_same w B O (nodeC 99 u0 (.slice none 0 0)).toList h
    rw [Array.getElem?_toList.symm] at hy
    exact hr j y hy
end Go.Proofs.YtmjojahkbjlcdaaDoor
end
section
namespace Go.Proofs.YtmjojahkbjlcdaaDoor
set_option linter.unusedSimpArgs false
set_option linter.unusedVariables false
set_option maxRecDepth 100000
open Go.RowKit

/- marked: the parts of a pattern are written over. -/
theorem Dp.parts {D : Nat → Prop} {w : World} {n : Nat} {k : Int} {u : Nat → Int} {p : Option Addr} {m c : Nat} (h : Dp D w (n + 1) (.agg (nodeC k u (.slice p m c)))) : m ≤ 1000 ∧ (m ≠ 0 → ∃ b o, p = some ⟨b, o, none⟩ ∧ D b ∧ (∀ j, w.frozen? ⟨b, j, none⟩ = false) ∧
      ∀ i, i < m → ∃ (k' : Int) (u' : Nat → Int) (p' : Option Addr) (m' c' : Nat), Dp D w n (.agg (nodeC k' u' (.slice p' m' c'))) ∧ ∀ j y, (nodeC k' u' (.slice p' m' c'))[j]? = some y → w.cell? ⟨b, o + (6 * i + j), none⟩ = some y) := by
  obtain ⟨k0, u0', p0, m0, c0, hv, hm, hp⟩ := h
  have h1 : nodeC k u (.slice p m c) = nodeC k0 u0' (.slice p0 m0 c0) := by injection hv
  have h2 := congrArg (fun a : Array Value => a[5]?) h1
  have h3 : Value.slice p m c = Value.slice p0 m0 c0 := Option.some.inj h2
  cases h3
  exact ⟨hm, hp⟩
theorem bdead : Tryd.prog.built 27 [(0, .int .i64 99)] = some (nodeC 99 u0 (.slice none 0 0)) := by kernel_rfl
theorem wpList_bdead {ops : Array Oper} {rest : List Oper} {o : Oper} {a : Act} {w : World} {Q : Exit → Act → World → Prop} {x : Operand} (hg : o.guard = none) (ho : o.op = .build 27 #[(0, x)]) (hx : a.eval x = .int .i64 99)
    (h : wpList Tryd.prog ops Q rest (a.put o.dst (.agg (nodeC 99 u0 (.slice none 0 0)))) w) : wpList Tryd.prog ops Q (o :: rest) a w := by
  refine wpList_build hg 27 _ ho ?_ ?_
  · simp [hx, bdead]
  · simp [hx, bdead]; exact h
set_option maxHeartbeats 8000000 in
theorem marked_walk {D : Nat → Prop} {n : Nat} {k : Int} {u : Nat → Int} {p : Option Addr} {m c : Nat} {w : World} (hD : ∀ b, D b → b < w.heap.size) (h : Dp D w (n + 1) (.agg (nodeC k u (.slice p m c))))
    (hI : Hid (∀ v w, Dp D w n v → (∀ b, D b → b < w.heap.size) → Calls Tryd.prog 24 #[v] w fun e w' => e = .returned (.tuple #[]) ∧ Kp D w w')) :
    Calls Tryd.prog 24 #[.agg (nodeC k u (.slice p m c))] w fun e w' => e = .returned (.tuple #[]) ∧ Kp D w w' := by
  have HP := Lib.hid h
  have hm := h.parts.1
  have S0 : Hid (Kb D w (w.alloc (.cells #[.int .i64 k, .int .u64 (u 0), .int .u64 (u 1), .int .u64 (u 2), .int .u64 (u 3), .slice p m c] 27)) (.cells #[.int .i64 k, .int .u64 (u 0), .int .u64 (u 1), .int .u64 (u 2), .int .u64 (u 3), .slice p m c] 27)) := Lib.hid ⟨Kp.below ((Below.refl w.heap.size w).alloc (Nat.le_refl _) _), heap_alloc_last w _⟩
  have HD := Lib.hid hD
  clear h hD
  unfold nodeC
  go_enter Tryd.func24, Tryd.ntmps24
  go_wp2_with fail
  go_loopw [2] (fun i wr => ∃ j : Nat, j ≤ m ∧ i = .int .i64 j ∧ Hid (Kb D w wr (.cells #[.int .i64 k, .int .u64 (u 0), .int .u64 (u 1), .int .u64 (u 2), .int .u64 (u 3), .slice p m c] 27))) (fun i _ => m - (intOf i).toNat)
  case atStart => exact ⟨0, by omega, rfl, S0⟩
  case round =>
    clear S0
    obtain ⟨j, hj, rfl, HK⟩ := hrel
    obtain ⟨wo, rfl⟩ : ∃ wo : World, wo = wr := ⟨_, rfl⟩
    by_cases hlt : j < m
    · have hDo := fun b (hb : D b) => (Nat.lt_of_lt_of_le (HD.out b hb) HK.out.1.size : b < wo.heap.size)
      have hP1 := HK.out.1.dp _ _ HP.out
      obtain ⟨b, o, rfl, hDb, hz, hx⟩ := hP1.parts.2 (by omega)
      obtain ⟨k', u', p', m', c', hd, hc⟩ := hx j hlt
      have d0 : wo.cell? ⟨b, o + j * 6, none⟩ = some (.int .i64 k') := by rw [show o + j * 6 = o + (6 * j + 0) by omega]; exact hc 0 _ rfl
      have d1 : wo.cell? ⟨b, o + j * 6 + 1, none⟩ = some (.int .u64 (u' 0)) := by rw [show o + j * 6 + 1 = o + (6 * j + 1) by omega]; exact hc 1 _ rfl
      have d2 : wo.cell? ⟨b, o + j * 6 + 2, none⟩ = some (.int .u64 (u' 1)) := by rw [show o + j * 6 + 2 = o + (6 * j + 2) by omega]; exact hc 2 _ rfl
      have d3 : wo.cell? ⟨b, o + j * 6 + 3, none⟩ = some (.int .u64 (u' 2)) := by rw [show o + j * 6 + 3 = o + (6 * j + 3) by omega]; exact hc 3 _ rfl
      have d4 : wo.cell? ⟨b, o + j * 6 + 4, none⟩ = some (.int .u64 (u' 3)) := by rw [show o + j * 6 + 4 = o + (6 * j + 4) by omega]; exact hc 4 _ rfl
      have d5 : wo.cell? ⟨b, o + j * 6 + 5, none⟩ = some (.slice p' m' c') := by rw [show o + j * 6 + 5 = o + (6 * j + 5) by omega]; exact hc 5 _ rfl
      have q5 : wo.cell? ⟨w.heap.size, 5, none⟩ = some (.slice (some ⟨b, o, none⟩) m c) := cell_of_row wo w.heap.size 5 _ 27 (0, 0) HK.out.2
      have hlt' : (j : Int) < (m : Int) := by omega
      have HC := Lib.hid (hI.out _ wo hd hDo)
      unfold nodeC at HC
      have HP1 := Lib.hid hP1
      clear hd hc hx hz hP1 hDo
      go_wp2_with fail
      refine HC.out.mono ?_
      rintro _ w5 ⟨rfl, hk⟩
      have HK5 := Lib.hid (Kb.up HD.out HK.out hk)
      have hP2 := hk.dp _ _ HP1.out
      obtain ⟨b', o', hpe, hDb2, hz, hx⟩ := hP2.parts.2 (by omega)
      cases hpe
      obtain ⟨k2, u2, p2, m2, c2, hd, hc⟩ := hx j hlt
      have f0 : w5.cell? ⟨b, o + j * 6, none⟩ = some (.int .i64 k2) := by rw [show o + j * 6 = o + (6 * j + 0) by omega]; exact hc 0 _ rfl
      have f1 : w5.cell? ⟨b, o + j * 6 + 1, none⟩ = some (.int .u64 (u2 0)) := by rw [show o + j * 6 + 1 = o + (6 * j + 1) by omega]; exact hc 1 _ rfl
      have f2 : w5.cell? ⟨b, o + j * 6 + 2, none⟩ = some (.int .u64 (u2 1)) := by rw [show o + j * 6 + 2 = o + (6 * j + 2) by omega]; exact hc 2 _ rfl
      have f3 : w5.cell? ⟨b, o + j * 6 + 3, none⟩ = some (.int .u64 (u2 2)) := by rw [show o + j * 6 + 3 = o + (6 * j + 3) by omega]; exact hc 3 _ rfl
      have f4 : w5.cell? ⟨b, o + j * 6 + 4, none⟩ = some (.int .u64 (u2 3)) := by rw [show o + j * 6 + 4 = o + (6 * j + 4) by omega]; exact hc 4 _ rfl
      have f5 : w5.cell? ⟨b, o + j * 6 + 5, none⟩ = some (.slice p2 m2 c2) := by rw [show o + j * 6 + 5 = o + (6 * j + 5) by omega]; exact hc 5 _ rfl
      have hN : ∀ i y, (nodeC k2 u2 (.slice p2 m2 c2))[i]? = some y → w5.cell? ⟨b, o + j * 6 + i, none⟩ = some y := fun i y hy => by rw [show o + j * 6 + i = o + (6 * j + i) by omega]; exact hc i y hy
      have hT : w5.there b (o + j * 6) 6 := fun i hi => ⟨by
        rcases (by omega : i = 0 ∨ i = 1 ∨ i = 2 ∨ i = 3 ∨ i = 4 ∨ i = 5) with rfl | rfl | rfl | rfl | rfl | rfl <;> rw [hN _ _ rfl] <;> rfl, hz _⟩
      have hbl := setCells_below (B := 0) (b := b) (Nat.zero_le _) (nodeC 99 u0 (.slice none 0 0)).toList (o + j * 6) w5 (Below.refl 0 w5)
      have HK6 := Lib.hid (Kb.up HD.out HK5.out (Wo.kp (D := D) hDb hN (Wo.of hT) hbl.os hbl.tape hbl.output (setCells_size _ _ _) (fun z hz => setCells_other hz _ _ _)))
      have HT := Lib.hid hT
      have q6 : w5.cell? ⟨w.heap.size, 5, none⟩ = some (.slice (some ⟨b, o, none⟩) m c) := cell_of_row w5 w.heap.size 5 _ 27 (0, 0) HK5.out.2
      clear hk hd hc hx hz hP2 hN hT hbl d0 d1 d2 d3 d4 d5 q5 HC HP1 HK HK5
      go_upto_region 3 with (first | (refine wpList_bdead rfl rfl rfl ?_) | (refine wpList_plain rfl fun K hK => wp_store_mid 27 (.tmp 20) (.tmp 19) rfl b (o + j * 6) (nodeC 99 u0 (.slice none 0 0)) rfl rfl HT.out size27r (nodeC_one _ _ _ _ _) (hK _ _ ?_)))
      refine at_world (fun y => Kb D w y (.cells #[.int .i64 k, .int .u64 (u 0), .int .u64 (u 1), .int .u64 (u 2), .int .u64 (u 3), .slice (some ⟨b, o, none⟩) m c] 27)) HK6.out fun y hy => ?_
      have HK7 := Lib.hid hy
      clear hy HK6 HT f0 f1 f2 f3 f4 f5 q6
      go_wp2_with fail
      go_roundw
      case rel => exact ⟨j + 1, by omega, by go_num, HK7⟩
      case measure => simp [intOf]; omega
    · obtain rfl : j = m := by omega
      have hlt' : ¬ ((j : Int) < (j : Int)) := by omega
      have q5 : wo.cell? ⟨w.heap.size, 5, none⟩ = some (.slice p j c) := cell_of_row wo w.heap.size 5 _ 27 (0, 0) HK.out.2
      go_wp2
      go_end0
      exact ⟨rfl, HK.out.1⟩
theorem Dp.form {D : Nat → Prop} {w : World} {n : Nat} {v : Value} (h : Dp D w (n + 1) v) : ∃ k u p m c, v = .agg (nodeC k u (.slice p m c)) := by
  obtain ⟨k, u, p, m, c, hv, _⟩ := h
  exact ⟨k, u, p, m, c, hv⟩
theorem marked_any {D : Nat → Prop} : ∀ (n : Nat) (v : Value) (w : World), Dp D w n v → (∀ b, D b → b < w.heap.size) → Calls Tryd.prog 24 #[v] w fun e w' => e = .returned (.tuple #[]) ∧ Kp D w w'
  | 0, v, w, h, _ => h.elim
  | n + 1, v, w, h, hD => by
    obtain ⟨k, u, p, m, c, rfl⟩ := h.form
    exact marked_walk hD h (Lib.hid fun v' w' h' hD' => marked_any n v' w' h' hD')
end Go.Proofs.YtmjojahkbjlcdaaDoor
end
