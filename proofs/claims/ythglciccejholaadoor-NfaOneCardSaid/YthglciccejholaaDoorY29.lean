/- Texts of package regs, one behind the other. -/
import Derived.Test.YthglciccejholaaDoorProg
import Derived.Test.YthglciccejholaaDoorRG45
import Derived.Test.YthglciccejholaaDoorY15
import Derived.WalkKit
import Derived.WalkLawsBesides
import Derived.WalkSpells
import Derived.Outline
import Derived.Lib.Walk
import Derived.Lib.Hide
import Derived.RegionTactic
import Derived.LoopTactic
import Derived.Below
import Derived.IntWalk
import Derived.Deep.QuietTactic
import Derived.BigQuiet
import Derived.Test.YthglciccejholaaDoorY11
import Derived.Lib.Slices
import Derived.Lib.Strings
import Derived.Deep.MidRow
import Derived.Maps.AppendAt
import Derived.Laws.Rows
import Derived.Laws.Tables
import Derived.Deep.WholeRow
import Derived.Deep.Cut
import Derived.Deep.CutRange
import Derived.Lib.SliceRun
import Derived.Laws.MakeOwn
import Derived.Deep.RegionLaw
import Derived.Deep.RegionLawGrows
section
/- Package regs: the reader's small steps: what comes next. -/
namespace Go.Proofs.YthglciccejholaaDoor.R5
set_option linter.unusedSimpArgs false
set_option linter.unusedVariables false
set_option maxRecDepth 100000
open Go.RowKit

theorem runS_pth {M : Net} {l : Nat → Bool} (hs : ∀ c j, M.has c j = true → j < 512) : ∀ (cs : List UInt8) (S : Nat → Bool), (∀ i, S i = true → i < 512) →
    ((∃ q, runS M S cs q = true ∧ l q = true) ↔ ∃ p q, S p = true ∧ Pth (frE 0 M.beh) M.has p cs q ∧ l q = true)
  | [], S, hS => by
    constructor
    · rintro ⟨q, h, g⟩; exact ⟨q, q, h, .nil q, g⟩
    · rintro ⟨p, q, h, k, g⟩; cases k; exact ⟨p, h, g⟩
  | c :: cs, S, hS => by
    have hS' : ∀ i, andS (nxS M S) (M.has c.toNat) i = true → i < 512 := fun i h => by
      simp only [andS, Bool.and_eq_true] at h; exact hs _ _ h.2
    have ih := runS_pth (l := l) hs cs (andS (nxS M S) (M.has c.toNat)) hS'
    rw [runS, ih]
    constructor
    · rintro ⟨p, q, h, k, g⟩
      simp only [andS, Bool.and_eq_true] at h
      obtain ⟨i, hi, hp⟩ := List.any_eq_true.1 h.1
      simp only [Bool.and_eq_true] at hp
      exact ⟨i, q, hp.1, .cons (by simp [frE, hp.2]) h.2 k, g⟩
    · rintro ⟨p, q, h, k, g⟩
      cases k with
      | @cons _ r _ _ _ h1 h2 k =>
        simp only [frE, Nat.zero_le, decide_true, Bool.true_and] at h1
        exact ⟨r, q, by simp only [andS, Bool.and_eq_true]; exact ⟨List.any_eq_true.2 ⟨p, List.mem_range.2 (hS p h), by simp [h, h1]⟩, h2⟩, k, g⟩
/-- What is told of a pattern that may be is what it matches. -/
theorem matB_ok {t : RT} (hm : mayB t = true) (hn : sz t ≤ 512) (x : List UInt8) : matB t x = true ↔ Lg t x := by
  have h := lay_ok t N0 hm wfn0
  have hln := lay_n t N0
  have h0 : N0.n = 0 := rfl
  rw [h.acc (layN t N0).1.has (fun _ _ _ _ => rfl) x]
  cases x with
  | nil =>
    show (layN t N0).2.e = true ↔ _
    constructor
    · intro e; exact .inl ⟨rfl, e⟩
    · rintro (⟨_, e⟩ | ⟨c, x, p, q, e, _⟩)
      · exact e
      · cases e
  | cons c cs =>
    show nzS (andS (runS (layN t N0).1 (andS (layN t N0).2.f ((layN t N0).1.has c.toNat)) cs) (layN t N0).2.l) = true ↔ _
    have hs : ∀ c j, (layN t N0).1.has c j = true → j < 512 := fun c j e => by have := h.wf.hs c j e; omega
    have key := runS_pth (l := (layN t N0).2.l) hs cs (andS (layN t N0).2.f ((layN t N0).1.has c.toNat)) (fun i e => by simp only [andS, Bool.and_eq_true] at e; exact hs _ _ e.2)
    constructor
    · intro e
      obtain ⟨q, _, hq⟩ := List.any_eq_true.1 e
      simp only [andS, Bool.and_eq_true] at hq
      obtain ⟨p, q, hp, k, g⟩ := key.1 ⟨q, hq.1, hq.2⟩
      simp only [andS, Bool.and_eq_true] at hp
      exact .inr ⟨c, cs, p, q, rfl, hp.1, hp.2, k, g⟩
    · rintro (⟨e, _⟩ | ⟨c', x, p, q, e, hp, hd, k, g⟩)
      · cases e
      · cases e
        obtain ⟨q', h1, h2⟩ := key.2 ⟨p, q, by simp [andS, hp, hd], k, g⟩
        have := h.l q' h2
        exact List.any_eq_true.2 ⟨q', List.mem_range.2 (by omega), by simp [andS, h1, h2]⟩
end Go.Proofs.YthglciccejholaaDoor.R5
end
section
/- Package nfa. -/
namespace Go.Proofs.YthglciccejholaaDoor
set_option linter.unusedSimpArgs false
set_option linter.unusedVariables false
set_option maxRecDepth 100000
open Go.RowKit
/- A state's list is another one. -/
theorem flat_len : ∀ (xs : List (Array Value)), (∀ x ∈ xs, x.size = 7) → (flat xs).length = xs.length * 7
  | [], _ => rfl
  | x :: r, h => by
    have hx : x.size = 7 := h x (List.mem_cons_self ..)
    have hr := flat_len r (fun y hy => h y (List.mem_cons_of_mem _ hy))
    rw [flat, List.length_append, hr, List.length_cons]
    simp [hx]; omega
theorem flatz_len (zs : List Nq) : (flat (zs.map zC)).length = zs.length * 7 := by
  rw [flat_len _ (fun x hx => by obtain ⟨z, _, rfl⟩ := List.mem_map.1 hx; exact zC_size z), List.length_map]
theorem flatz_set (zs : List Nq) (i : Nat) (h : i < zs.length) (l : List Int) (p : Option Addr) (c : Nat) : (flat (zs.map zC)).set (i * 7 + 5) (.slice p l.length c) = flat ((zs.set i (⟨zs[i].1.u, zs[i].1.to, l, zs[i].1.rl⟩, p, c)).map zC) := by
  apply List.ext_getElem?
  intro k
  by_cases hk : k < zs.length * 7
  · have hi : k / 7 < zs.length := by omega
    have hj : k % 7 < 7 := Nat.mod_lt _ (by omega)
    have e : k = (k / 7) * 7 + k % 7 := by omega
    rw [List.getElem?_set]
    have h2 := flatz_get (zs.set i (⟨zs[i].1.u, zs[i].1.to, l, zs[i].1.rl⟩, p, c)) (k / 7) (by simpa using hi) (k % 7) hj
    have h1 := flatz_get zs (k / 7) hi (k % 7) hj
    rw [← e] at h1 h2
    rw [h1, h2, flatz_len, List.getElem_set]
    by_cases hik : i = k / 7
    · subst hik
      rw [if_pos rfl]
      by_cases hj5 : k % 7 = 5
      · rw [if_pos (by omega), if_pos (by omega), hj5]; rfl
      · rw [if_neg (by omega)]
        rcases (by omega : k % 7 = 0 ∨ k % 7 = 1 ∨ k % 7 = 2 ∨ k % 7 = 3 ∨ k % 7 = 4 ∨ k % 7 = 6) with h | h | h | h | h | h <;> rw [h] <;> rfl
    · rw [if_neg (by omega), if_neg hik]
  · rw [List.getElem?_eq_none (by rw [List.length_set, flatz_len]; omega), List.getElem?_eq_none (by rw [flatz_len, List.length_set]; omega)]
theorem BB.setFree {B : Nat} {P : Nat → Prop} {w0 y w7 : World} {bb : Nat} {zs : List Nq} {G cap i : Nat} {l : List Int} {p7 : Option Addr} {c7 : Nat} (h : BB B P w0 y bb zs (.slice (some ⟨G, 0, none⟩) zs.length cap)) (hi : i < zs.length) (o : Obj) (hl : l ≠ [])
    (hown : w7.ownsRow (y.heap.size + 1) 3 1 (.slice p7 l.length c7) l.length (l.map fun x => .int .i64 x)) (hg : (y.alloc o).grownBy w7 none) :
    BB B P w0 (w7.setCell ⟨G, i * 7 + 5, none⟩ (.slice p7 l.length c7)) bb (zs.set i (⟨zs[i].1.u, zs[i].1.to, l, zs[i].1.rl⟩, p7, c7)) (.slice (some ⟨G, 0, none⟩) zs.length cap) ∧ ∀ b, b < y.heap.size → b ≠ G → (w7.setCell ⟨G, i * 7 + 5, none⟩ (.slice p7 l.length c7)).heap[b]? = y.heap[b]? := by
  have hGl := World.ownsRow.lt h.ts.2 G rfl
  have hGb : G ≠ bb := fun e => h.sb (by simp [Value.ownBlock, e])
  have hya : (y.alloc o).heap.size = y.heap.size + 1 := by simp
  have hgs := hg.size
  have hk : ∀ b, b < y.heap.size → w7.heap[b]? = y.heap[b]? := fun b hb => (hg.block b (by omega) (by simp)).trans (heap_alloc_old y o hb)
  have hk8 : ∀ b, b < y.heap.size → b ≠ G → (w7.setCell ⟨G, i * 7 + 5, none⟩ (.slice p7 l.length c7)).heap[b]? = y.heap[b]? := fun b hb hne => (heap_setCell_other w7 ⟨G, i * 7 + 5, none⟩ b _ hne).trans (hk b hb)
  have hbb := (Array.getElem?_eq_some_iff.1 h.f).1
  have hsz := h.sz
  have hbel7 : Below B w0 w7 := ⟨hg.os.trans h.bel.os, hg.tape.trans h.bel.tape, hg.output.trans h.bel.output, by have := h.bel.size; omega, fun b hb => (hk b (by omega)).trans (h.bel.block b hb)⟩
  have hrow7 := World.ownsRow.kept (World.ownsRow.alloc h.ts.2 o) hg (.inr (by simp [Value.ownBlock]))
  have hrow8 := (World.ownsRow.stored hrow7 (i * 7 + 5) (.slice p7 l.length c7)).1
  rw [flatz_set zs i hi l p7 c7] at hrow8
  have hlen : (zs.set i (⟨zs[i].1.u, zs[i].1.to, l, zs[i].1.rl⟩, p7, c7)).length = zs.length := List.length_set
  obtain ⟨g7, cap7, cur7, he7, hb7, hh7, _, _, hcs7, htk7⟩ : ∃ g cap cur, Value.slice p7 l.length c7 = .slice (some ⟨g, 0, none⟩) l.length cap ∧ y.heap.size + 1 ≤ g ∧ w7.heap[g]? = some (.cells cur 3 (0, 0)) ∧ l.length ≤ cap ∧ cap ≤ maxLen ∧ cur.size = cap * 1 ∧ cur.toList.take (l.length * 1) = (l.map fun x => .int .i64 x) := by
    rcases hown.2 with ⟨_, h0⟩ | h
    · exact absurd (List.length_eq_zero_iff.1 h0) hl
    · exact h
  cases he7
  have hg7 := (Array.getElem?_eq_some_iff.1 hh7).1
  refine ⟨⟨hbel7.setCell (p := ⟨G, i * 7 + 5, none⟩) hGl.1 _, (hk8 bb hbb (fun e => hGb e.symm)).trans h.f, ⟨fun k hkl => ?_, ?_⟩, h.hb, h.sb, by simp; omega, fun b hp => ⟨by have := (h.pr b hp).1; simp; omega, (h.pr b hp).2⟩⟩, hk8⟩
  · rw [List.getElem_set]
    by_cases hik : i = k
    · subst hik
      rw [if_pos rfl]
      refine ⟨_, _, rfl, fun _ => ⟨g7, 0, rfl, ⟨by omega, by simpa using hg7, fun e => by simp [Value.ownBlock] at e; omega, by omega, fun hp => by have := (h.pr _ hp).1; omega⟩, fun j hj => ?_, _, _, (heap_setCell_other w7 ⟨G, i * 7 + 5, none⟩ g7 _ (by show g7 ≠ G; omega)).trans hh7⟩⟩
      have hgG : g7 ≠ G := by omega
      rw [cell_same (heap_setCell_other w7 ⟨G, i * 7 + 5, none⟩ g7 _ hgG) _, cell_of_row w7 g7 _ _ 3 (0, 0) hh7, Nat.zero_add]
      have e := congrArg (fun x : List Value => x[j]?) htk7
      have hj' : j < l.length := hj
      simp only [Nat.mul_one, List.getElem?_take, if_pos hj', Array.getElem?_toList, List.getElem?_map, List.getElem?_eq_getElem hj', Option.map_some] at e
      exact e
    · rw [if_neg hik]
      have hkl' : k < zs.length := by rw [hlen] at hkl; exact hkl
      exact (h.ts.1 k hkl').mono (fun b hb => ⟨hb.1, by simp; omega, hb.2.2⟩) (fun b hb _ => hk8 b hb.2.1 (fun e => hb.2.2.1 (by simp [Value.ownBlock, e])))
  · rw [hlen]; exact hrow8
set_option maxHeartbeats 8000000 in
theorem loop_set {B : Nat} {P : Nat → Prop} {w0 y : World} {bb : Nat} {ss : List Nq} {sl : Value} {u : Nat → Int} {t : Int} {p : Option Addr} {n c : Nat} (h : BB B P w0 y bb ss sl) (hlen : ss.length ≤ 4000) :
    Calls Tryd.prog 79 #[.pointer (some ⟨bb, 0, none⟩), .agg (nodeC 2 u (.slice p n c)), .int .i64 t] y fun e y' => e = .returned (.tuple #[.int .i64 ((ss.length : Int) + 1), .int .i64 (ss.length : Nat)]) ∧ (∃ sl' q f, BB B P w0 y' bb (ss ++ [(⟨uZ, -1, [t, ((ss.length : Int) + 1)], -1⟩, q, f), (⟨u, (ss.length : Nat), [], -1⟩, none, 0)]) sl') ∧ ∀ b, P b → y'.heap[b]? = y.heap[b]? := by
  obtain ⟨i0, hi, hz0, hz1, hz2⟩ := info_parts info3
  have hbY := h.sz
  have hbb := (Array.getElem?_eq_some_iff.1 h.f).1
  have hown : ∀ g, sl.ownBlock = some g → g < y.heap.size := fun g hg => (World.ownsRow.lt h.ts.2 g hg).2
  have hz1' : (y.alloc (.cells #[.int .i64 2, .int .u64 (u 0), .int .u64 (u 1), .int .u64 (u 2), .int .u64 (u 3), .slice p n c] 27)).heap.size = y.heap.size + 1 := by simp
  have hb1 := (Below.refl y.heap.size y).alloc (Nat.le_refl _) (.cells #[.int .i64 2, .int .u64 (u 0), .int .u64 (u 1), .int .u64 (u 2), .int .u64 (u 3), .slice p n c] 27)
  have hb2 := hb1.alloc (by simp) (.cells #[.int .i64 t] 3)
  have hB2 : BB B (fun b => P b ∨ b = y.heap.size) w0 ((y.alloc (.cells #[.int .i64 2, .int .u64 (u 0), .int .u64 (u 1), .int .u64 (u 2), .int .u64 (u 3), .slice p n c] 27)).alloc (.cells #[.int .i64 t] 3)) bb ss sl := (h.allocP (.cells #[.int .i64 2, .int .u64 (u 0), .int .u64 (u 1), .int .u64 (u 2), .int .u64 (u 3), .slice p n c] 27)).up ((Below.refl _ _).alloc (Nat.le_refl _) (.cells #[.int .i64 t] 3))
  have HPR := Lib.hid h.pr
  have hg0 : ((y.alloc (.cells #[.int .i64 2, .int .u64 (u 0), .int .u64 (u 1), .int .u64 (u 2), .int .u64 (u 3), .slice p n c] 27)).alloc (.cells #[.int .i64 t] 3)).heap[y.heap.size + 1]? = some (.cells #[.int .i64 t] 3) := by
    have := heap_alloc_last (y.alloc (.cells #[.int .i64 2, .int .u64 (u 0), .int .u64 (u 1), .int .u64 (u 2), .int .u64 (u 3), .slice p n c] 27)) (.cells #[.int .i64 t] 3)
    rwa [hz1'] at this
  have hIV : IVf (fun b => B ≤ b ∧ b < ((y.alloc (.cells #[.int .i64 2, .int .u64 (u 0), .int .u64 (u 1), .int .u64 (u 2), .int .u64 (u 3), .slice p n c] 27)).alloc (.cells #[.int .i64 t] 3)).heap.size ∧ some b ≠ sl.ownBlock ∧ b ≠ bb ∧ ¬ (P b ∨ b = y.heap.size)) ((y.alloc (.cells #[.int .i64 2, .int .u64 (u 0), .int .u64 (u 1), .int .u64 (u 2), .int .u64 (u 3), .slice p n c] 27)).alloc (.cells #[.int .i64 t] 3)) [t] (.slice (some ⟨y.heap.size + 1, 0, none⟩) ([t] : List Int).length 1) :=
    ⟨_, 1, rfl, fun _ => ⟨y.heap.size + 1, 0, rfl, ⟨by omega, by simp, fun e => by have := hown _ e.symm; omega, by omega, fun hP => hP.elim (fun hp => by have := (HPR.out _ hp).1; omega) (fun e => by omega)⟩, fun i hi => by
      have h0 : i = 0 := by simp at hi; omega
      subst h0
      rw [cell_of_row _ (y.heap.size + 1) _ _ 3 (0, 0) hg0]; rfl, _, _, hg0⟩⟩
  have HC1 := Lib.hid (free_any hB2 (by omega) hIV)
  rw [show ([t] : List Int).length = 1 from rfl] at HC1
  have HBX : Hid (((y.alloc (.cells #[.int .i64 2, .int .u64 (u 0), .int .u64 (u 1), .int .u64 (u 2), .int .u64 (u 3), .slice p n c] 27)).alloc (.cells #[.int .i64 t] 3)).heap[y.heap.size]? = some (.cells #[.int .i64 2, .int .u64 (u 0), .int .u64 (u 1), .int .u64 (u 2), .int .u64 (u 3), .slice p n c] 27)) := Lib.hid ((heap_alloc_old _ _ (by simp)).trans (heap_alloc_last y _))
  have HK2 := Lib.hid fun b (hp : P b) => hb2.block b (h.pr b hp).1
  clear h hIV hB2 hg0 hb1 hb2 hz1' hown
  unfold nodeC
  go_enter Tryd.func79, Tryd.ntmps79
  go_wp2_with fail
  refine HC1.out.mono ?_
  rintro _ y3 ⟨rfl, ⟨sl3, h3⟩, hk3⟩
  have HBX3 := Lib.hid ((hk3 _ (.inr rfl)).trans HBX.out)
  have HK3 := Lib.hid fun b (hp : P b) => (hk3 b (.inl hp)).trans (HK2.out b hp)
  have HL := Lib.hid (lay_set (u := u) (t := (ss.length : Nat)) (p := p) (n := n) (c := c) h3 (by simp; omega))
  unfold nodeC at HL
  rw [List.length_append, List.length_singleton] at HL
  have e0 : y3.cell? ⟨y.heap.size, 0, none⟩ = some (.int .i64 2) := cell_of_row y3 _ 0 _ 27 (0, 0) HBX3.out
  have e1 : y3.cell? ⟨y.heap.size, 1, none⟩ = some (.int .u64 (u 0)) := cell_of_row y3 _ 1 _ 27 (0, 0) HBX3.out
  have e2 : y3.cell? ⟨y.heap.size, 2, none⟩ = some (.int .u64 (u 1)) := cell_of_row y3 _ 2 _ 27 (0, 0) HBX3.out
  have e3 : y3.cell? ⟨y.heap.size, 3, none⟩ = some (.int .u64 (u 2)) := cell_of_row y3 _ 3 _ 27 (0, 0) HBX3.out
  have e4 : y3.cell? ⟨y.heap.size, 4, none⟩ = some (.int .u64 (u 3)) := cell_of_row y3 _ 4 _ 27 (0, 0) HBX3.out
  have e5 : y3.cell? ⟨y.heap.size, 5, none⟩ = some (.slice p n c) := cell_of_row y3 _ 5 _ 27 (0, 0) HBX3.out
  clear h3 hk3 HC1 HBX HK2
  go_wp2_with fail
  refine HL.out.mono ?_
  rintro _ y4 ⟨rfl, ⟨sl4, h4⟩, hk4⟩
  have HK4 := Lib.hid fun b (hp : P b) => (hk4 b (.inl hp)).trans (HK3.out b hp)
  have H4 := Lib.hid h4
  clear hk4 HL HK3 e0 e1 e2 e3 e4 e5 HBX3 h4
  rw [List.append_assoc] at H4
  go_upto_region 3 with fail
  obtain ⟨zs4, hzs4⟩ : ∃ zs4 : List Nq, (ss ++ ([(⟨uZ, -1, [t], -1⟩, some ⟨y.heap.size + 1, 0, none⟩, 1)] ++ [(⟨u, (ss.length : Nat), [], -1⟩, none, 0)])) = zs4 := ⟨_, rfl⟩
  rw [hzs4] at H4
  have hl4 : zs4.length = ss.length + 2 := by rw [← hzs4]; simp
  have hlt4 : ss.length < zs4.length := by omega
  have hget4 : zs4[ss.length] = (⟨uZ, -1, [t], -1⟩, some ⟨y.heap.size + 1, 0, none⟩, 1) := by subst hzs4; simp
  have hset4 : ∀ x : Nq, zs4.set ss.length x = ss ++ [x, (⟨u, (ss.length : Nat), [], -1⟩, none, 0)] := fun x => by subst hzs4; simp
  obtain ⟨G, cap4, hsl4⟩ : ∃ G cap4, sl4 = .slice (some ⟨G, 0, none⟩) zs4.length cap4 := by
    rcases H4.out.ts.2.2 with ⟨_, h0⟩ | ⟨G, cap4, cur, he, _⟩
    · omega
    · exact ⟨G, cap4, he⟩
  subst hsl4
  have hGlt : G < y4.heap.size := (World.ownsRow.lt H4.out.ts.2 G rfl).2
  have hGB : B ≤ G := (World.ownsRow.lt H4.out.ts.2 G rfl).1
  have hGb : G ≠ bb := fun e => H4.out.sb (by simp [Value.ownBlock, e])
  have hbb4 : bb < y4.heap.size := (Array.getElem?_eq_some_iff.1 H4.out.f).1
  have hiv4 := H4.out.ts.1 ss.length hlt4
  rw [hget4] at hiv4
  obtain ⟨pg, cg, heg, hhg⟩ := hiv4
  cases heg
  obtain ⟨b', o', hbo, hDg, hcg⟩ := hhg (by simp)
  cases hbo
  have cell_t : y4.cell? ⟨y.heap.size + 1, 0, none⟩ = some (.int .i64 t) := hcg.1 0 (by simp)
  have hflat : (flat (zs4.map zC))[ss.length * 7 + 5]? = some (.slice (some ⟨y.heap.size + 1, 0, none⟩) 1 1) := by
    rw [flatz_get zs4 ss.length hlt4 5 (by omega), hget4]; rfl
  have cS : y4.cell? ⟨bb, 0, none⟩ = some (.slice (some ⟨G, 0, none⟩) zs4.length cap4) := cell_of_row y4 bb 0 _ 77 (0, 0) H4.out.f
  have cF : y4.cell? ⟨G, ss.length * 7 + 5, none⟩ = some (.slice (some ⟨y.heap.size + 1, 0, none⟩) 1 1) := by
    have := World.ownsRow.cells H4.out.ts.2 (g := G) rfl _ _ hflat
    rwa [Addr.add_mid, Nat.zero_add] at this
  have fF : y4.frozen? ⟨G, ss.length * 7 + 5, none⟩ = false := World.ownsRow.frozenAt H4.out.ts.2 _
  have cS2 : ∀ o, (y4.alloc o).cell? ⟨bb, 0, none⟩ = some (.slice (some ⟨G, 0, none⟩) zs4.length cap4) := fun o => (cell_same (heap_alloc_old y4 o hbb4) _).trans cS
  have cF2 : ∀ o, (y4.alloc o).cell? ⟨G, ss.length * 7 + 5, none⟩ = some (.slice (some ⟨y.heap.size + 1, 0, none⟩) 1 1) := fun o => (cell_same (heap_alloc_old y4 o hGlt) _).trans cF
  have hglt : y.heap.size + 1 < y4.heap.size := blk_lt cell_t
  have HOLD : Hid (∀ b, (some (⟨y.heap.size + 1, 0, none⟩ : Addr)) = some b → ∀ j v, [Value.int .i64 t][j]? = some v → ((y4.alloc (.cells #[.int .i64 ((ss.length : Int) + 1)] 3)).drew).cell? (b.add j) = some v) := Lib.hid fun b hb j v hj => by
    cases hb
    match j, hj with
    | 0, hj =>
      simp at hj
      subst hj
      exact (cell_same (heap_alloc_old y4 _ hglt) 0).trans cell_t
  have HNEW : Hid (∀ j v, [Value.int .i64 ((ss.length : Int) + 1)][j]? = some v → ((y4.alloc (.cells #[.int .i64 ((ss.length : Int) + 1)] 3)).drew).cell? ((⟨y4.heap.size, 0, none⟩ : Addr).add j) = some v) := Lib.hid (cell_one_new y4 _ 3)
  have hsI : ¬ (ss.length : Int) < 0 := by omega
  have hsI2 : (ss.length : Int) < (zs4.length : Int) := by omega
  have hsI3 : (ss.length : Int) < (ss.length : Int) + 2 := by omega
  have HYA := Lib.hid (show (y4.alloc (.cells #[.int .i64 ((ss.length : Int) + 1)] 3)).heap.size = y4.heap.size + 1 by simp)
  clear hhg hcg hflat hDg
  go_region_law (refine step_append_grows rfl (.tmp 28) (.tmp 30) 39 rfl 3 i0 (.int .i64 0) 1 8 Tryd.underlying39 hi hz0 hz1 hz2 rfl (by decide) (some ⟨y.heap.size + 1, 0, none⟩) 1 1 [.int .i64 t] (by simp [Act.eval, Act.put]) (by intro h; cases h) rfl HOLD.out ⟨y4.heap.size, 0, none⟩ 1 1 [.int .i64 ((ss.length : Int) + 1)] (by simp [Act.eval, Act.put]) rfl HNEW.out (by simp [Value.oneCell']) (by omega) (by unfold maxLen; omega) (by omega) ?_; intro v' w7 hown7 hgrow7; obtain ⟨p7, c7, rfl⟩ := row_form hown7; have hG7 : w7.heap[G]? = y4.heap[G]? := (hgrow7.block G (by have := HYA.out; show G < (y4.alloc _).heap.size; omega) (by simp)).trans (heap_alloc_old y4 _ hGlt); have hbb7 : w7.heap[bb]? = y4.heap[bb]? := (hgrow7.block bb (by have := HYA.out; show bb < (y4.alloc _).heap.size; omega) (by simp)).trans (heap_alloc_old y4 _ hbb4); have cS7 : w7.cell? ⟨bb, 0, none⟩ = some (.slice (some ⟨G, 0, none⟩) zs4.length cap4) := (cell_same hbb7 _).trans cS; have cF7 : w7.cell? ⟨G, ss.length * 7 + 5, none⟩ = some (.slice (some ⟨y.heap.size + 1, 0, none⟩) 1 1) := (cell_same hG7 _).trans cF; have fF7 : w7.frozen? ⟨G, ss.length * 7 + 5, none⟩ = false := by (rw [← fF]; unfold World.frozen?; simp only [hG7]))
  all_goals
    have hown8 : w7.ownsRow (y4.heap.size + 1) 3 1 (.slice p7 2 c7) 2 [.int .i64 t, .int .i64 ((ss.length : Int) + 1)] := by
      have h9 := hown7
      rw [show ((y4.alloc (.cells #[.int .i64 ((ss.length : Int) + 1)] 3)).drew).heap.size = y4.heap.size + 1 from HYA.out] at h9
      exact h9
    have hg7 : (y4.alloc (.cells #[.int .i64 ((ss.length : Int) + 1)] 3)).grownBy w7 none := ⟨hgrow7.os, hgrow7.tape, hgrow7.output, hgrow7.size, hgrow7.block⟩
    have hX := BB.setFree (l := [t, (ss.length : Int) + 1]) (H4.out.less (Q := P) (fun b hp => .inl hp)) hlt4 (.cells #[.int .i64 ((ss.length : Int) + 1)] 3) (by simp) hown8 hg7
    simp only [hget4] at hX
    rw [hset4] at hX
    have hPK : ∀ b, P b → (w7.setCell ⟨G, ss.length * 7 + 5, none⟩ (.slice p7 2 c7)).heap[b]? = y.heap[b]? := fun b hp => (hX.2 b (H4.out.pr b (.inl hp)).1 (fun e => (H4.out.pr b (.inl hp)).2.2 (by simp [Value.ownBlock, e]))).trans (HK4.out b hp)
    have HX := Lib.hid hX.1
    have HPK := Lib.hid hPK
    clear hX hPK hown8 hg7 hown7 hgrow7 hG7 hbb7 cS7 cF7 fF7 HOLD HNEW
    refine at_worldQ (fun x => BB B P w0 x bb (ss ++ [(⟨uZ, -1, [t, (ss.length : Int) + 1], -1⟩, p7, c7), (⟨u, (ss.length : Nat), [], -1⟩, none, 0)]) (.slice (some ⟨G, 0, none⟩) zs4.length cap4) ∧ ∀ b, P b → x.heap[b]? = y.heap[b]?) ⟨HX.out, HPK.out⟩ fun x hx => ?_
    have H9 := Lib.hid hx
    clear hx HX HPK cS cF fF cS2 cF2 H4
    go_wp2_with fail
    exact bodyPost_ret (v := .tuple #[.int .i64 ((ss.length : Int) + 1), .int .i64 (ss.length : Nat)]) (by simp [results, Tryd.results79, go_sem]) rfl ⟨rfl, ⟨_, _, _, H9.out.1⟩, H9.out.2⟩
end Go.Proofs.YthglciccejholaaDoor
end
