/- Texts of package regs, one behind the other. -/
import Derived.Test.YthglciccejholaaDoorProg
import Derived.Test.YthglciccejholaaDoorRGM
import Derived.Test.YthglciccejholaaDoorV1
import Derived.Test.YthglciccejholaaDoorV2
import Derived.WalkKit
import Derived.BigFrame
import Derived.WalkMore
import Derived.ScopeJumps
import Derived.StillTailTactics
import Derived.Stop.BytesEq
import Derived.WalkLawsBesides
import Derived.WalkSpells
import Derived.Outline
import Derived.Lib.Walk
import Derived.Lib.Hide
import Derived.Lib.Slices
import Derived.Lib.Strings
import Derived.RegionTactic
import Derived.LoopTactic
import Derived.Below
import Derived.IntWalk
import Derived.Deep.QuietTactic
import Derived.BigQuiet
import Derived.Deep.MidRow
import Derived.Maps.AppendAt
import Derived.Laws.Rows
import Derived.Laws.Tables
import Derived.Deep.WholeRow
import Derived.Deep.Cut
import Derived.Deep.CutRange
import Derived.Lib.SliceRun
import Derived.Laws.MakeOwn
import Derived.Deep.RegionLaw
import Derived.Deep.RegionLawGrows
import Derived.Deep.RegionHeld3
import Derived.RegionCalls
import Derived.Deep.RegionWith
import Derived.Deep.Light
import Derived.Laws.CopyOwn
import Derived.Laws.ResultCell
import Derived.Deep.LoopGhost
section
/- Package regs, taken over. -/
namespace Go.Proofs.YthglciccejholaaDoor.R5
set_option linter.unusedSimpArgs false
set_option linter.unusedVariables false
set_option maxRecDepth 100000
open Go.RowKit
def mix (r a : Nat → Value) (k j : Nat) : Value := if j < k then r j else a j
/-- A string of a list of bytes. -/
abbrev bs (l : List UInt8) : ByteArray := ⟨l.toArray⟩
theorem bs_ne (c : UInt8) (q : List UInt8) : (bs (c :: q)).toList.isEmpty = false ∧ ¬ (bs (c :: q)).toList = [] := by
  rw [Lib.toList_data]; simp
/-- A set's value of four numbers, whatever they are. -/
abbrev vv (u : Nat → Int) : Value := .agg #[.int .u64 (u 0), .int .u64 (u 1), .int .u64 (u 2), .int .u64 (u 3)]
def vc (u : Nat → Int) : Array Value := #[.int .u64 (u 0), .int .u64 (u 1), .int .u64 (u 2), .int .u64 (u 3)]
/-- The numbers of a set. -/
def wf (f : Nat → Bool) (i : Nat) : Int := (W f i : Nat)
/-- The first k numbers that are in f, as bytes. -/
def mem (f : Nat → Bool) : Nat → List UInt8
  | 0 => []
  | k + 1 => if f k then mem f k ++ [UInt8.ofNat k] else mem f k
theorem mem_len (f : Nat → Bool) : ∀ k, (mem f k).length = cntF f k
  | 0 => rfl
  | k + 1 => by
    have := mem_len f k
    simp only [mem, cntF]
    cases f k <;> simp [this]
/-- A set's letters are those of its bits. -/
def okU (u : Nat → Int) : Prop := ∀ i, i < 4 → u i = wf (fOf u) i
mutual
def okT : RT → Prop
  | .mk k u ps => (k = 2 → okU u) ∧ okL ps
def okL : List RT → Prop
  | [] => True
  | t :: ts => okT t ∧ okL ts
end
theorem okL_get : ∀ (ts : List RT) (i : Nat) (h : i < ts.length), okL ts → okT ts[i]
  | t :: ts, 0, h, g => by rw [okL] at g; exact g.1
  | t :: ts, i + 1, h, g => by rw [okL] at g; exact okL_get ts i (by simpa using h) g.2
theorem mayL_get : ∀ (ts : List RT) (i : Nat) (h : i < ts.length), mayL ts = true → mayB ts[i] = true
  | t :: ts, 0, h, g => by rw [mayL, Bool.and_eq_true] at g; exact g.1
  | t :: ts, i + 1, h, g => by rw [mayL, Bool.and_eq_true] at g; exact mayL_get ts i (by simpa using h) g.2
theorem okU_vv {u : Nat → Int} (h : okU u) : (.agg #[.int .u64 (u 0), .int .u64 (u 1), .int .u64 (u 2), .int .u64 (u 3)] : Value) = vv (wf (fOf u)) := by
  simp only [vv]
  rw [h 0 (by omega), h 1 (by omega), h 2 (by omega), h 3 (by omega)]
end Go.Proofs.YthglciccejholaaDoor.R5
end
section
/- Package regs: the reader's small steps: what comes next. -/
namespace Go.Proofs.YthglciccejholaaDoor.R5
set_option linter.unusedSimpArgs false
set_option linter.unusedVariables false
set_option maxRecDepth 100000
open Go.RowKit

/-- Eight words as a value. -/
abbrev spV (u : Nat → Int) : Value := .agg #[.int .u64 (u 0), .int .u64 (u 1), .int .u64 (u 2), .int .u64 (u 3), .int .u64 (u 4), .int .u64 (u 5), .int .u64 (u 6), .int .u64 (u 7)]
def C8 (x : Nat → Value) : Array Value := #[x 0, x 1, x 2, x 3, x 4, x 5, x 6, x 7]
theorem lt8 {k : Nat} (h : k < 8) : k = 0 ∨ k = 1 ∨ k = 2 ∨ k = 3 ∨ k = 4 ∨ k = 5 ∨ k = 6 ∨ k = 7 := by omega
theorem C8_get (x : Nat → Value) (k : Nat) (h : k < 8) : (C8 x)[k]? = some (x k) := by
  rcases lt8 h with rfl | rfl | rfl | rfl | rfl | rfl | rfl | rfl <;> rfl
theorem C8_set (x y : Nat → Value) (k : Nat) (v : Value) (h : ∀ j, j < 8 → y j = if j = k then v else x j) : (C8 x).setIfInBounds k v = C8 y := by
  apply Array.ext_getElem?
  intro j
  rw [Array.getElem?_setIfInBounds]
  by_cases hj : j < 8
  · rw [C8_get y j hj, h j hj]
    by_cases he : k = j
    · subst he; simp [C8, hj]
    · rw [if_neg he, C8_get x j hj, if_neg (fun e => he e.symm)]
  · have e1 : (C8 y)[j]? = none := by simp [C8]; omega
    have e2 : (C8 x)[j]? = none := by simp [C8]; omega
    rw [e1, e2]
    by_cases he : k = j
    · subst he; simp [C8, hj]
    · rw [if_neg he]
/-- Two arrays of eight words, and one that is «to» be the answer. -/
def U8 (w0 : World) (r a b : Nat → Value) (k : Nat) (w : World) : Prop :=
  w.heap[w0.heap.size]? = some (.cells (C8 (mix r a k)) 90 (0, 0)) ∧ w.heap[w0.heap.size + 1]? = some (.cells (C8 b) 90 (0, 0)) ∧
  w.heap[w0.heap.size + 2]? = some (.cells #[.int .u64 0, .int .u64 0, .int .u64 0, .int .u64 0, .int .u64 0, .int .u64 0, .int .u64 0, .int .u64 0] 90 (0, 0)) ∧ Below w0.heap.size w0 w
theorem U8.start (w : World) (r a b : Nat → Value) : U8 w r a b 0 (((w.alloc (.cells (C8 a) 90)).alloc (.cells (C8 b) 90)).alloc (.cells #[.int .u64 0, .int .u64 0, .int .u64 0, .int .u64 0, .int .u64 0, .int .u64 0, .int .u64 0, .int .u64 0] 90)) := by
  refine ⟨?_, ?_, ?_, (((Below.refl _ _).alloc (Nat.le_refl _) _).alloc (by simp) _).alloc (by simp; omega) _⟩
  · rw [heap_alloc_old _ _ (by simp; omega), heap_alloc2_old]
    have : mix r a 0 = a := by funext j; simp [mix]
    rw [this]
  · rw [heap_alloc_old _ _ (by simp), heap_alloc2_new]
  · have h := _root_.Go.heap_alloc_new ((w.alloc (.cells (C8 a) 90)).alloc (.cells (C8 b) 90)) (.cells #[.int .u64 0, .int .u64 0, .int .u64 0, .int .u64 0, .int .u64 0, .int .u64 0, .int .u64 0, .int .u64 0] 90)
    have e : ((w.alloc (.cells (C8 a) 90)).alloc (.cells (C8 b) 90)).heap.size = w.heap.size + 2 := by simp
    rwa [e] at h
theorem U8.drewN {w0 w : World} {r a b : Nat → Value} {k : Nat} (h : U8 w0 r a b k w) (n : Nat) : U8 w0 r a b k (w.drewN n) := ⟨h.1, h.2.1, h.2.2.1, below_drewN h.2.2.2 n⟩
theorem U8.set {w0 w : World} {r a b : Nat → Value} {k : Nat} (h : U8 w0 r a b k w) (hk : k < 8) : U8 w0 r a b (k + 1) (w.setCell ⟨w0.heap.size, k, none⟩ (r k)) := by
  refine ⟨?_, ?_, ?_, h.2.2.2.setCell (p := ⟨w0.heap.size, k, none⟩) (Nat.le_refl _) _⟩
  · rw [heap_setCell_same w _ k _ 90 (r k) h.1, C8_set (mix r a k) (mix r a (k + 1)) k (r k)]
    intro j hj
    unfold mix
    by_cases e : j = k
    · subst e; simp
    · by_cases h1 : j < k
      · simp [h1, e, show j < k + 1 by omega]
      · simp [h1, e, show ¬ j < k + 1 by omega]
  · rw [heap_setCell_other _ _ _ _ (by simp)]; exact h.2.1
  · rw [heap_setCell_other _ _ _ _ (by simp)]; exact h.2.2.1
theorem U8.c0 {w0 w : World} {r a b : Nat → Value} {k : Nat} (h : U8 w0 r a b k w) (hk : k < 8) : w.cell? ⟨w0.heap.size, k, none⟩ = some (a k) := by
  rw [cell_of_row w _ k _ 90 (0, 0) h.1, C8_get _ _ hk]; simp [mix]
theorem U8.c1 {w0 w : World} {r a b : Nat → Value} {k : Nat} (h : U8 w0 r a b k w) (hk : k < 8) : w.cell? ⟨w0.heap.size + 1, k, none⟩ = some (b k) := by
  rw [cell_of_row w _ k _ 90 (0, 0) h.2.1, C8_get _ _ hk]
theorem U8.f0 {w0 w : World} {r a b : Nat → Value} {k : Nat} (h : U8 w0 r a b k w) : w.frozen? ⟨w0.heap.size, k, none⟩ = false := frozen_of_row w _ k _ 90 h.1
theorem U8.e0 {w0 w : World} {r a b : Nat → Value} (h : U8 w0 r a b 8 w) (j : Nat) (hj : j < 8) : w.cell? ⟨w0.heap.size, j, none⟩ = some (r j) := by
  rw [cell_of_row w _ j _ 90 (0, 0) h.1, C8_get _ _ hj]; simp [mix, hj]
theorem U8.h2 {w0 w : World} {r a b : Nat → Value} {k : Nat} (h : U8 w0 r a b k w) : w0.heap.size + 2 < w.heap.size := (Array.getElem?_eq_some_iff.1 h.2.2.1).1
theorem U8.z {w0 w : World} {r a b : Nat → Value} {k : Nat} (h : U8 w0 r a b k w) (j : Nat) (hj : j < 8) : w.cell? ⟨w0.heap.size + 1 + 1, j, none⟩ = some (.int .u64 0) := by
  rw [cell_of_row w _ j _ 90 (0, 0) h.2.2.1]; rcases lt8 hj with rfl | rfl | rfl | rfl | rfl | rfl | rfl | rfl <;> rfl
theorem U8.zf {w0 w : World} {r a b : Nat → Value} {k : Nat} (h : U8 w0 r a b k w) (j : Nat) : w.frozen? ⟨w0.heap.size + 1 + 1, j, none⟩ = false := frozen_of_row w _ j _ 90 h.2.2.1
set_option maxHeartbeats 4000000 in
theorem either8_r (a b r : Nat → Nat) (hr : ∀ k, k < 8 → bits .or .u64 (a k : Int) (b k : Int) = ((r k : Nat) : Int)) (w : World) :
    Calls Tryd.prog 113 #[.agg #[.int .u64 (a 0), .int .u64 (a 1), .int .u64 (a 2), .int .u64 (a 3), .int .u64 (a 4), .int .u64 (a 5), .int .u64 (a 6), .int .u64 (a 7)], .agg #[.int .u64 (b 0), .int .u64 (b 1), .int .u64 (b 2), .int .u64 (b 3), .int .u64 (b 4), .int .u64 (b 5), .int .u64 (b 6), .int .u64 (b 7)]] w
      fun e w' => e = .returned (.agg #[.int .u64 (r 0), .int .u64 (r 1), .int .u64 (r 2), .int .u64 (r 3), .int .u64 (r 4), .int .u64 (r 5), .int .u64 (r 6), .int .u64 (r 7)]) ∧ Below w.heap.size w w' := by
  have HR := Lib.hid hr
  clear hr
  have S0 := Lib.hid (U8.start w (fun k => .int .u64 (r k)) (fun k => .int .u64 (a k)) (fun k => .int .u64 (b k)))
  unfold C8 at S0
  go_enter Tryd.func113, Tryd.ntmps113
  go_wp2
  go_loopw [6] (fun i wr => ∃ k : Nat, k ≤ 8 ∧ i = .int .i64 k ∧ U8 w (fun k => .int .u64 (r k)) (fun k => .int .u64 (a k)) (fun k => .int .u64 (b k)) k wr) (fun i _ => 8 - (intOf i).toNat)
  case atStart => exact ⟨0, by omega, rfl, S0.out⟩
  case round =>
    obtain ⟨k, hk, rfl, hS⟩ := hrel
    have HS := Lib.hid hS
    clear hS
    by_cases hlt : k < 8
    · have hlt' : (k : Int) < 8 := by omega
      have c0 := HS.out.c0 hlt
      have c1 := HS.out.c1 hlt
      have f0 := HS.out.f0
      have z0 : w.heap.size < wr.heap.size := by have := HS.out.h2; omega
      have hv := HR.out k hlt
      go_wp2
      go_region
      go_wp2
      go_roundw
      case rel => exact ⟨k + 1, by omega, by go_num, (HS.out.set hlt).drewN 1⟩
      case measure => simp [intOf]; omega
    · obtain rfl : k = 8 := by omega
      clear hlt hk
      have c0 := HS.out.e0 0 (by omega)
      have c1 := HS.out.e0 1 (by omega)
      have c2 := HS.out.e0 2 (by omega)
      have c3 := HS.out.e0 3 (by omega)
      have c4 := HS.out.e0 4 (by omega)
      have c5 := HS.out.e0 5 (by omega)
      have c6 := HS.out.e0 6 (by omega)
      have c7 := HS.out.e0 7 (by omega)
      have d0 := HS.out.z 0 (by omega)
      have d1 := HS.out.z 1 (by omega)
      have d2 := HS.out.z 2 (by omega)
      have d3 := HS.out.z 3 (by omega)
      have d4 := HS.out.z 4 (by omega)
      have d5 := HS.out.z 5 (by omega)
      have d6 := HS.out.z 6 (by omega)
      have d7 := HS.out.z 7 (by omega)
      have g0 := HS.out.zf 0
      have g1 := HS.out.zf 1
      have g2 := HS.out.zf 2
      have g3 := HS.out.zf 3
      have g4 := HS.out.zf 4
      have g5 := HS.out.zf 5
      have g6 := HS.out.zf 6
      have g7 := HS.out.zf 7
      have z2 : w.heap.size + 1 + 1 < wr.heap.size := HS.out.h2
      go_wp2
      refine bodyPost_ret (v := .agg #[.int .u64 (r 0), .int .u64 (r 1), .int .u64 (r 2), .int .u64 (r 3), .int .u64 (r 4), .int .u64 (r 5), .int .u64 (r 6), .int .u64 (r 7)]) (by simp [results, Tryd.results113, go_sem, c0, c1, c2, c3, c4, c5, c6, c7, d0, d1, d2, d3, d4, d5, d6, d7, g0, g1, g2, g3, g4, g5, g6, g7, z2]) rfl ⟨rfl, ?_⟩
      have hb := HS.out.2.2.2
      exact ((((((((hb).setCell (p := ⟨w.heap.size + 1 + 1, 0, none⟩) (by simp; omega) _).setCell (p := ⟨w.heap.size + 1 + 1, 1, none⟩) (by simp; omega) _).setCell (p := ⟨w.heap.size + 1 + 1, 2, none⟩) (by simp; omega) _).setCell (p := ⟨w.heap.size + 1 + 1, 3, none⟩) (by simp; omega) _).setCell (p := ⟨w.heap.size + 1 + 1, 4, none⟩) (by simp; omega) _).setCell (p := ⟨w.heap.size + 1 + 1, 5, none⟩) (by simp; omega) _).setCell (p := ⟨w.heap.size + 1 + 1, 6, none⟩) (by simp; omega) _).setCell (p := ⟨w.heap.size + 1 + 1, 7, none⟩) (by simp; omega) _
set_option maxHeartbeats 4000000 in
theorem both8_r (a b r : Nat → Nat) (hr : ∀ k, k < 8 → bits .and .u64 (a k : Int) (b k : Int) = ((r k : Nat) : Int)) (w : World) :
    Calls Tryd.prog 87 #[.agg #[.int .u64 (a 0), .int .u64 (a 1), .int .u64 (a 2), .int .u64 (a 3), .int .u64 (a 4), .int .u64 (a 5), .int .u64 (a 6), .int .u64 (a 7)], .agg #[.int .u64 (b 0), .int .u64 (b 1), .int .u64 (b 2), .int .u64 (b 3), .int .u64 (b 4), .int .u64 (b 5), .int .u64 (b 6), .int .u64 (b 7)]] w
      fun e w' => e = .returned (.agg #[.int .u64 (r 0), .int .u64 (r 1), .int .u64 (r 2), .int .u64 (r 3), .int .u64 (r 4), .int .u64 (r 5), .int .u64 (r 6), .int .u64 (r 7)]) ∧ Below w.heap.size w w' := by
  have HR := Lib.hid hr
  clear hr
  have S0 := Lib.hid (U8.start w (fun k => .int .u64 (r k)) (fun k => .int .u64 (a k)) (fun k => .int .u64 (b k)))
  unfold C8 at S0
  go_enter Tryd.func87, Tryd.ntmps87
  go_wp2
  go_loopw [6] (fun i wr => ∃ k : Nat, k ≤ 8 ∧ i = .int .i64 k ∧ U8 w (fun k => .int .u64 (r k)) (fun k => .int .u64 (a k)) (fun k => .int .u64 (b k)) k wr) (fun i _ => 8 - (intOf i).toNat)
  case atStart => exact ⟨0, by omega, rfl, S0.out⟩
  case round =>
    obtain ⟨k, hk, rfl, hS⟩ := hrel
    have HS := Lib.hid hS
    clear hS
    by_cases hlt : k < 8
    · have hlt' : (k : Int) < 8 := by omega
      have c0 := HS.out.c0 hlt
      have c1 := HS.out.c1 hlt
      have f0 := HS.out.f0
      have z0 : w.heap.size < wr.heap.size := by have := HS.out.h2; omega
      have hv := HR.out k hlt
      go_wp2
      go_region
      go_wp2
      go_roundw
      case rel => exact ⟨k + 1, by omega, by go_num, (HS.out.set hlt).drewN 1⟩
      case measure => simp [intOf]; omega
    · obtain rfl : k = 8 := by omega
      clear hlt hk
      have c0 := HS.out.e0 0 (by omega)
      have c1 := HS.out.e0 1 (by omega)
      have c2 := HS.out.e0 2 (by omega)
      have c3 := HS.out.e0 3 (by omega)
      have c4 := HS.out.e0 4 (by omega)
      have c5 := HS.out.e0 5 (by omega)
      have c6 := HS.out.e0 6 (by omega)
      have c7 := HS.out.e0 7 (by omega)
      have d0 := HS.out.z 0 (by omega)
      have d1 := HS.out.z 1 (by omega)
      have d2 := HS.out.z 2 (by omega)
      have d3 := HS.out.z 3 (by omega)
      have d4 := HS.out.z 4 (by omega)
      have d5 := HS.out.z 5 (by omega)
      have d6 := HS.out.z 6 (by omega)
      have d7 := HS.out.z 7 (by omega)
      have g0 := HS.out.zf 0
      have g1 := HS.out.zf 1
      have g2 := HS.out.zf 2
      have g3 := HS.out.zf 3
      have g4 := HS.out.zf 4
      have g5 := HS.out.zf 5
      have g6 := HS.out.zf 6
      have g7 := HS.out.zf 7
      have z2 : w.heap.size + 1 + 1 < wr.heap.size := HS.out.h2
      go_wp2
      refine bodyPost_ret (v := .agg #[.int .u64 (r 0), .int .u64 (r 1), .int .u64 (r 2), .int .u64 (r 3), .int .u64 (r 4), .int .u64 (r 5), .int .u64 (r 6), .int .u64 (r 7)]) (by simp [results, Tryd.results87, go_sem, c0, c1, c2, c3, c4, c5, c6, c7, d0, d1, d2, d3, d4, d5, d6, d7, g0, g1, g2, g3, g4, g5, g6, g7, z2]) rfl ⟨rfl, ?_⟩
      have hb := HS.out.2.2.2
      exact ((((((((hb).setCell (p := ⟨w.heap.size + 1 + 1, 0, none⟩) (by simp; omega) _).setCell (p := ⟨w.heap.size + 1 + 1, 1, none⟩) (by simp; omega) _).setCell (p := ⟨w.heap.size + 1 + 1, 2, none⟩) (by simp; omega) _).setCell (p := ⟨w.heap.size + 1 + 1, 3, none⟩) (by simp; omega) _).setCell (p := ⟨w.heap.size + 1 + 1, 4, none⟩) (by simp; omega) _).setCell (p := ⟨w.heap.size + 1 + 1, 5, none⟩) (by simp; omega) _).setCell (p := ⟨w.heap.size + 1 + 1, 6, none⟩) (by simp; omega) _).setCell (p := ⟨w.heap.size + 1 + 1, 7, none⟩) (by simp; omega) _
theorem either_any (f g : Nat → Bool) (w : World) : Calls Tryd.prog 113 #[spV (wf f), spV (wf g)] w fun e w' => e = .returned (spV (wf (orS f g))) ∧ Below w.heap.size w w' :=
  either8_r (W f) (W g) (W (orS f g)) (fun k _ => W_or f g k) w
theorem both_any (f g : Nat → Bool) (w : World) : Calls Tryd.prog 87 #[spV (wf f), spV (wf g)] w fun e w' => e = .returned (spV (wf (andS f g))) ∧ Below w.heap.size w w' :=
  both8_r (W f) (W g) (W (andS f g)) (fun k _ => W_and f g k) w
end Go.Proofs.YthglciccejholaaDoor.R5
end
