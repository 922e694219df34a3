/- Texts of package regs, one behind the other. -/
import Derived.Test.YtmjojahkbjlcdaaDoorProg
import Derived.Test.YtmjojahkbjlcdaaDoorY3
import Derived.Test.YtmjojahkbjlcdaaDoorY4
import Derived.WalkKit
import Derived.WalkLawsBesides
import Derived.WalkSpells
import Derived.Outline
import Derived.Lib.Walk
import Derived.Lib.Hide
import Derived.RegionTactic
import Derived.LoopTactic
import Derived.Below
import Derived.IntWalk
import Derived.Deep.QuietTactic
import Derived.BigQuiet
import Derived.StillTailTactics
import Derived.Deep.LoopGhost
import Derived.Laws.Rows
import Derived.Test.YtmjojahkbjlcdaaDoorGM
import Derived.Test.YtmjojahkbjlcdaaDoorG28
import Derived.Test.YtmjojahkbjlcdaaDoorY2
import Derived.Shelf.Spec.TrailingZeros
import Derived.Deep.MidRow
section
/- Package regs: the reader's small steps: what comes next. -/
namespace Go.Proofs.YtmjojahkbjlcdaaDoor
set_option linter.unusedSimpArgs false
set_option linter.unusedVariables false
set_option maxRecDepth 100000
open Go.RowKit

/-- Eight words as a value. -/
abbrev spV (u : Nat → Int) : Value := .agg #[.int .u64 (u 0), .int .u64 (u 1), .int .u64 (u 2), .int .u64 (u 3), .int .u64 (u 4), .int .u64 (u 5), .int .u64 (u 6), .int .u64 (u 7)]
def C8 (x : Nat → Value) : Array Value := #[x 0, x 1, x 2, x 3, x 4, x 5, x 6, x 7]
theorem lt8 {k : Nat} (h : k < 8) : k = 0 ∨ k = 1 ∨ k = 2 ∨ k = 3 ∨ k = 4 ∨ k = 5 ∨ k = 6 ∨ k = 7 := by omega
theorem C8_get (x : Nat → Value) (k : Nat) (h : k < 8) : (C8 x)[k]? = some (x k) := by
  rcases lt8 h with rfl | rfl | rfl | rfl | rfl | rfl | rfl | rfl <;> rfl
theorem C8_set (x y : Nat → Value) (k : Nat) (v : Value) (h : ∀ j, j < 8 → y j = if j = k then v else x j) : (C8 x).setIfInBounds k v = C8 y := by
  apply Array.ext_getElem?
  intro j
  rw [Array.getElem?_setIfInBounds]
  by_cases hj : j < 8
  · rw [C8_get y j hj, h j hj]
    by_cases he : k = j
    · subst he; simp [C8, hj]
    · rw [if_neg he, C8_get x j hj, if_neg (fun e => he e.symm)]
  · have e1 : (C8 y)[j]? = none := by simp [C8]; omega
    have e2 : (C8 x)[j]? = none := by simp [C8]; omega
    rw [e1, e2]
    by_cases he : k = j
    · subst he; simp [C8, hj]
    · rw [if_neg he]
/-- Two arrays of eight words, and one that is to be the answer. -/
def U8 (w0 : World) (r a b : Nat → Value) (k : Nat) (w : World) : Prop :=
  w.heap[w0.heap.size]? = some (.cells (C8 (mix r a k)) 64 (0, 0)) ∧ w.heap[w0.heap.size + 1]? = some (.cells (C8 b) 64 (0, 0)) ∧
  w.heap[w0.heap.size + 2]? = some (.cells #[.int .u64 0, .int .u64 0, .int .u64 0, .int .u64 0, .int .u64 0, .int .u64 0, .int .u64 0, .int .u64 0] 64 (0, 0)) ∧ Below w0.heap.size w0 w
theorem U8.start (w : World) (r a b : Nat → Value) : U8 w r a b 0 (((w.alloc (.cells (C8 a) 64)).alloc (.cells (C8 b) 64)).alloc (.cells #[.int .u64 0, .int .u64 0, .int .u64 0, .int .u64 0, .int .u64 0, .int .u64 0, .int .u64 0, .int .u64 0] 64)) := by
  refine ⟨?_, ?_, ?_, (((Below.refl _ _).alloc (Nat.le_refl _) _).alloc (by simp) _).alloc (by simp; omega) _⟩
  · rw [heap_alloc_old _ _ (by simp; omega), heap_alloc2_old]
    have : mix r a 0 = a := by funext j; simp [mix]
    rw [this]
  · rw [heap_alloc_old _ _ (by simp), heap_alloc2_new]
  · have h := _root_.Go.heap_alloc_new ((w.alloc (.cells (C8 a) 64)).alloc (.cells (C8 b) 64)) (.cells #[.int .u64 0, .int .u64 0, .int .u64 0, .int .u64 0, .int .u64 0, .int .u64 0, .int .u64 0, .int .u64 0] 64)
    have e : ((w.alloc (.cells (C8 a) 64)).alloc (.cells (C8 b) 64)).heap.size = w.heap.size + 2 := by simp
    rwa [e] at h
theorem U8.drewN {w0 w : World} {r a b : Nat → Value} {k : Nat} (h : U8 w0 r a b k w) (n : Nat) : U8 w0 r a b k (w.drewN n) := ⟨h.1, h.2.1, h.2.2.1, below_drewN h.2.2.2 n⟩
theorem U8.set {w0 w : World} {r a b : Nat → Value} {k : Nat} (h : U8 w0 r a b k w) (hk : k < 8) : U8 w0 r a b (k + 1) (w.setCell ⟨w0.heap.size, k, none⟩ (r k)) := by
  refine ⟨?_, ?_, ?_, h.2.2.2.setCell (p := ⟨w0.heap.size, k, none⟩) (Nat.le_refl _) _⟩
  · rw [heap_setCell_same w _ k _ 64 (r k) h.1, C8_set (mix r a k) (mix r a (k + 1)) k (r k)]
    intro j hj
    unfold mix
    by_cases e : j = k
    · subst e; simp
    · by_cases h1 : j < k
      · simp [h1, e, show j < k + 1 by omega]
      · simp [h1, e, show ¬ j < k + 1 by omega]
  · rw [heap_setCell_other _ _ _ _ (by simp)]; exact h.2.1
  · rw [heap_setCell_other _ _ _ _ (by simp)]; exact h.2.2.1
theorem U8.c0 {w0 w : World} {r a b : Nat → Value} {k : Nat} (h : U8 w0 r a b k w) (hk : k < 8) : w.cell? ⟨w0.heap.size, k, none⟩ = some (a k) := by
  rw [cell_of_row w _ k _ 64 (0, 0) h.1, C8_get _ _ hk]; simp [mix]
theorem U8.c1 {w0 w : World} {r a b : Nat → Value} {k : Nat} (h : U8 w0 r a b k w) (hk : k < 8) : w.cell? ⟨w0.heap.size + 1, k, none⟩ = some (b k) := by
  rw [cell_of_row w _ k _ 64 (0, 0) h.2.1, C8_get _ _ hk]
theorem U8.f0 {w0 w : World} {r a b : Nat → Value} {k : Nat} (h : U8 w0 r a b k w) : w.frozen? ⟨w0.heap.size, k, none⟩ = false := frozen_of_row w _ k _ 64 h.1
theorem U8.e0 {w0 w : World} {r a b : Nat → Value} (h : U8 w0 r a b 8 w) (j : Nat) (hj : j < 8) : w.cell? ⟨w0.heap.size, j, none⟩ = some (r j) := by
  rw [cell_of_row w _ j _ 64 (0, 0) h.1, C8_get _ _ hj]; simp [mix, hj]
theorem U8.h2 {w0 w : World} {r a b : Nat → Value} {k : Nat} (h : U8 w0 r a b k w) : w0.heap.size + 2 < w.heap.size := (Array.getElem?_eq_some_iff.1 h.2.2.1).1
theorem U8.z {w0 w : World} {r a b : Nat → Value} {k : Nat} (h : U8 w0 r a b k w) (j : Nat) (hj : j < 8) : w.cell? ⟨w0.heap.size + 1 + 1, j, none⟩ = some (.int .u64 0) := by
  rw [cell_of_row w _ j _ 64 (0, 0) h.2.2.1]; rcases lt8 hj with rfl | rfl | rfl | rfl | rfl | rfl | rfl | rfl <;> rfl
theorem U8.zf {w0 w : World} {r a b : Nat → Value} {k : Nat} (h : U8 w0 r a b k w) (j : Nat) : w.frozen? ⟨w0.heap.size + 1 + 1, j, none⟩ = false := frozen_of_row w _ j _ 64 h.2.2.1
set_option maxHeartbeats 4000000 in
theorem either8_r (a b r : Nat → Nat) (hr : ∀ k, k < 8 → bits .or .u64 (a k : Int) (b k : Int) = ((r k : Nat) : Int)) (w : World) :
    Calls Tryd.prog 81 #[.agg #[.int .u64 (a 0), .int .u64 (a 1), .int .u64 (a 2), .int .u64 (a 3), .int .u64 (a 4), .int .u64 (a 5), .int .u64 (a 6), .int .u64 (a 7)], .agg #[.int .u64 (b 0), .int .u64 (b 1), .int .u64 (b 2), .int .u64 (b 3), .int .u64 (b 4), .int .u64 (b 5), .int .u64 (b 6), .int .u64 (b 7)]] w
      fun e w' => e = .returned (.agg #[.int .u64 (r 0), .int .u64 (r 1), .int .u64 (r 2), .int .u64 (r 3), .int .u64 (r 4), .int .u64 (r 5), .int .u64 (r 6), .int .u64 (r 7)]) ∧ Below w.heap.size w w' := by
  have HR := Lib.hid hr
  clear hr
  have S0 := Lib.hid (U8.start w (fun k => .int .u64 (r k)) (fun k => .int .u64 (a k)) (fun k => .int .u64 (b k)))
  unfold C8 at S0
  go_enter Tryd.func81, Tryd.ntmps81
  go_wp2
  go_loopw [6] (fun i wr => ∃ k : Nat, k ≤ 8 ∧ i = .int .i64 k ∧ U8 w (fun k => .int .u64 (r k)) (fun k => .int .u64 (a k)) (fun k => .int .u64 (b k)) k wr) (fun i _ => 8 - (intOf i).toNat)
  case atStart => exact ⟨0, by omega, rfl, S0.out⟩
  case round =>
    obtain ⟨k, hk, rfl, hS⟩ := hrel
    have HS := Lib.hid hS
    clear hS
    by_cases hlt : k < 8
    · have hlt' : (k : Int) < 8 := by omega
      have c0 := HS.out.c0 hlt
      have c1 := HS.out.c1 hlt
      have f0 := HS.out.f0
      have z0 : w.heap.size < wr.heap.size := by have := HS.out.h2; omega
      have hv := HR.out k hlt
      go_wp2
      go_region
      go_wp2
      go_roundw
      case rel => exact ⟨k + 1, by omega, by go_num, (HS.out.set hlt).drewN 1⟩
      case measure => simp [intOf]; omega
    · obtain rfl : k = 8 := by omega
      clear hlt hk
      have c0 := HS.out.e0 0 (by omega)
      have c1 := HS.out.e0 1 (by omega)
      have c2 := HS.out.e0 2 (by omega)
      have c3 := HS.out.e0 3 (by omega)
      have c4 := HS.out.e0 4 (by omega)
      have c5 := HS.out.e0 5 (by omega)
      have c6 := HS.out.e0 6 (by omega)
      have c7 := HS.out.e0 7 (by omega)
      have d0 := HS.out.z 0 (by omega)
      have d1 := HS.out.z 1 (by omega)
      have d2 := HS.out.z 2 (by omega)
      have d3 := HS.out.z 3 (by omega)
      have d4 := HS.out.z 4 (by omega)
      have d5 := HS.out.z 5 (by omega)
      have d6 := HS.out.z 6 (by omega)
      have d7 := HS.out.z 7 (by omega)
      have g0 := HS.out.zf 0
      have g1 := HS.out.zf 1
      have g2 := HS.out.zf 2
      have g3 := HS.out.zf 3
      have g4 := HS.out.zf 4
      have g5 := HS.out.zf 5
      have g6 := HS.out.zf 6
      have g7 := HS.out.zf 7
      have z2 : w.heap.size + 1 + 1 < wr.heap.size := HS.out.h2
      go_wp2
      refine bodyPost_ret (v := .agg #[.int .u64 (r 0), .int .u64 (r 1), .int .u64 (r 2), .int .u64 (r 3), .int .u64 (r 4), .int .u64 (r 5), .int .u64 (r 6), .int .u64 (r 7)]) (by simp [results, Tryd.results81, go_sem, c0, c1, c2, c3, c4, c5, c6, c7, d0, d1, d2, d3, d4, d5, d6, d7, g0, g1, g2, g3, g4, g5, g6, g7, z2]) rfl ⟨rfl, ?_⟩
      have hb := HS.out.2.2.2
      exact ((((((((hb).setCell (p := ⟨w.heap.size + 1 + 1, 0, none⟩) (by simp; omega) _).setCell (p := ⟨w.heap.size + 1 + 1, 1, none⟩) (by simp; omega) _).setCell (p := ⟨w.heap.size + 1 + 1, 2, none⟩) (by simp; omega) _).setCell (p := ⟨w.heap.size + 1 + 1, 3, none⟩) (by simp; omega) _).setCell (p := ⟨w.heap.size + 1 + 1, 4, none⟩) (by simp; omega) _).setCell (p := ⟨w.heap.size + 1 + 1, 5, none⟩) (by simp; omega) _).setCell (p := ⟨w.heap.size + 1 + 1, 6, none⟩) (by simp; omega) _).setCell (p := ⟨w.heap.size + 1 + 1, 7, none⟩) (by simp; omega) _
set_option maxHeartbeats 4000000 in
theorem both8_r (a b r : Nat → Nat) (hr : ∀ k, k < 8 → bits .and .u64 (a k : Int) (b k : Int) = ((r k : Nat) : Int)) (w : World) :
    Calls Tryd.prog 60 #[.agg #[.int .u64 (a 0), .int .u64 (a 1), .int .u64 (a 2), .int .u64 (a 3), .int .u64 (a 4), .int .u64 (a 5), .int .u64 (a 6), .int .u64 (a 7)], .agg #[.int .u64 (b 0), .int .u64 (b 1), .int .u64 (b 2), .int .u64 (b 3), .int .u64 (b 4), .int .u64 (b 5), .int .u64 (b 6), .int .u64 (b 7)]] w
      fun e w' => e = .returned (.agg #[.int .u64 (r 0), .int .u64 (r 1), .int .u64 (r 2), .int .u64 (r 3), .int .u64 (r 4), .int .u64 (r 5), .int .u64 (r 6), .int .u64 (r 7)]) ∧ Below w.heap.size w w' := by
  have HR := Lib.hid hr
  clear hr
  have S0 := Lib.hid (U8.start w (fun k => .int .u64 (r k)) (fun k => .int .u64 (a k)) (fun k => .int .u64 (b k)))
  unfold C8 at S0
  go_enter Tryd.func60, Tryd.ntmps60
  go_wp2
  go_loopw [6] (fun i wr => ∃ k : Nat, k ≤ 8 ∧ i = .int .i64 k ∧ U8 w (fun k => .int .u64 (r k)) (fun k => .int .u64 (a k)) (fun k => .int .u64 (b k)) k wr) (fun i _ => 8 - (intOf i).toNat)
  case atStart => exact ⟨0, by omega, rfl, S0.out⟩
  case round =>
    obtain ⟨k, hk, rfl, hS⟩ := hrel
    have HS := Lib.hid hS
    clear hS
    by_cases hlt : k < 8
    · have hlt' : (k : Int) < 8 := by omega
      have c0 := HS.out.c0 hlt
      have c1 := HS.out.c1 hlt
      have f0 := HS.out.f0
      have z0 : w.heap.size < wr.heap.size := by have := HS.out.h2; omega
      have hv := HR.out k hlt
      go_wp2
      go_region
      go_wp2
      go_roundw
      case rel => exact ⟨k + 1, by omega, by go_num, (HS.out.set hlt).drewN 1⟩
      case measure => simp [intOf]; omega
    · obtain rfl : k = 8 := by omega
      clear hlt hk
      have c0 := HS.out.e0 0 (by omega)
      have c1 := HS.out.e0 1 (by omega)
      have c2 := HS.out.e0 2 (by omega)
      have c3 := HS.out.e0 3 (by omega)
      have c4 := HS.out.e0 4 (by omega)
      have c5 := HS.out.e0 5 (by omega)
      have c6 := HS.out.e0 6 (by omega)
      have c7 := HS.out.e0 7 (by omega)
      have d0 := HS.out.z 0 (by omega)
      have d1 := HS.out.z 1 (by omega)
      have d2 := HS.out.z 2 (by omega)
      have d3 := HS.out.z 3 (by omega)
      have d4 := HS.out.z 4 (by omega)
      have d5 := HS.out.z 5 (by omega)
      have d6 := HS.out.z 6 (by omega)
      have d7 := HS.out.z 7 (by omega)
      have g0 := HS.out.zf 0
      have g1 := HS.out.zf 1
      have g2 := HS.out.zf 2
      have g3 := HS.out.zf 3
      have g4 := HS.out.zf 4
      have g5 := HS.out.zf 5
      have g6 := HS.out.zf 6
      have g7 := HS.out.zf 7
      have z2 : w.heap.size + 1 + 1 < wr.heap.size := HS.out.h2
      go_wp2
      refine bodyPost_ret (v := .agg #[.int .u64 (r 0), .int .u64 (r 1), .int .u64 (r 2), .int .u64 (r 3), .int .u64 (r 4), .int .u64 (r 5), .int .u64 (r 6), .int .u64 (r 7)]) (by simp [results, Tryd.results60, go_sem, c0, c1, c2, c3, c4, c5, c6, c7, d0, d1, d2, d3, d4, d5, d6, d7, g0, g1, g2, g3, g4, g5, g6, g7, z2]) rfl ⟨rfl, ?_⟩
      have hb := HS.out.2.2.2
      exact ((((((((hb).setCell (p := ⟨w.heap.size + 1 + 1, 0, none⟩) (by simp; omega) _).setCell (p := ⟨w.heap.size + 1 + 1, 1, none⟩) (by simp; omega) _).setCell (p := ⟨w.heap.size + 1 + 1, 2, none⟩) (by simp; omega) _).setCell (p := ⟨w.heap.size + 1 + 1, 3, none⟩) (by simp; omega) _).setCell (p := ⟨w.heap.size + 1 + 1, 4, none⟩) (by simp; omega) _).setCell (p := ⟨w.heap.size + 1 + 1, 5, none⟩) (by simp; omega) _).setCell (p := ⟨w.heap.size + 1 + 1, 6, none⟩) (by simp; omega) _).setCell (p := ⟨w.heap.size + 1 + 1, 7, none⟩) (by simp; omega) _
theorem either_any (f g : Nat → Bool) (w : World) : Calls Tryd.prog 81 #[spV (wf f), spV (wf g)] w fun e w' => e = .returned (spV (wf (orS f g))) ∧ Below w.heap.size w w' :=
  either8_r (W f) (W g) (W (orS f g)) (fun k _ => W_or f g k) w
theorem both_any (f g : Nat → Bool) (w : World) : Calls Tryd.prog 60 #[spV (wf f), spV (wf g)] w fun e w' => e = .returned (spV (wf (andS f g))) ∧ Below w.heap.size w w' :=
  both8_r (W f) (W g) (W (andS f g)) (fun k _ => W_and f g k) w
end Go.Proofs.YtmjojahkbjlcdaaDoor
end
section
/- Package regs: the reader's small steps: what comes next. -/
namespace Go.Proofs.YtmjojahkbjlcdaaDoor
set_option linter.unusedSimpArgs false
set_option linter.unusedVariables false
set_option maxRecDepth 100000
open Go.RowKit

/-- The library's table lies where its variable lies. -/
abbrev Tb (w : World) : Prop := TabAt 0 Lib.deBruijn64tab w
set_option maxHeartbeats 1000000 in
theorem tz_core (x k idx : Nat) (w : World) (hx0 : ((x : Int) == 0) = false)
    (key : IntKind.u64.wrap (bits BinOp.and IntKind.u64 (x : Int) (IntKind.u64.wrap (-(x : Int))) * 285870213051353865) / 288230376151711744 = (idx : Int))
    (hi : idx < 64) (hk : k < 64) (hcell : w.cell? ⟨0, idx, none⟩ = some (.int .u8 k)) :
    Calls Tryd.prog 82 #[.int .u64 x] w fun e w' => e = .returned (.int .i64 k) ∧ w = w' := by
  have hi' : (idx : Int) < 64 := by omega
  go_enter Tryd.func82, Tryd.ntmps82
  go_wp2_with (simp only [key])
  go_ret
  exact ⟨rfl, rfl⟩
theorem tz_any (x : Nat) (hx : x < 18446744073709551616) (h0 : x ≠ 0) (w : World) (hT : Tb w) :
    Calls Tryd.prog 82 #[.int .u64 x] w fun e w' => e = .returned (.int .i64 (Lib.ctz 64 x : Nat)) ∧ w = w' := by
  obtain ⟨hlow, hk⟩ := Lib.lowest_bit 64 x h0 hx
  obtain ⟨hi, htab⟩ := Lib.deBruijn64_at _ hk
  have hcell := hT _ hi
  rw [htab] at hcell
  exact tz_core x _ _ w (by simp; omega) (tz64_key x _ hx h0 hlow) hi hk hcell
end Go.Proofs.YtmjojahkbjlcdaaDoor
end
section
/- Package regs: the reader's small steps: what comes next. -/
namespace Go.Proofs.YtmjojahkbjlcdaaDoor
set_option linter.unusedSimpArgs false
set_option linter.unusedVariables false
set_option maxRecDepth 100000
open Go.RowKit

section
variable {P : Program} {ops : Array Oper} {Q : Exit → Act → World → Prop}
/-- What has come up has what it waits for. -/
def Closed (ops : Array Oper) (l : Nat → Bool) : Prop := ∀ i, l i = true → ∀ j, (waitsFor .any ops i).contains j = true → l j = true
theorem Closed.next {l : Nat → Bool} {i : Nat} (h : Closed ops l) (hw : ∀ j, (waitsFor .any ops i).contains j = true → l j = true) : Closed ops (fun j => j == i || l j) := fun k hk j hj => by
  by_cases e : k = i
  · subst e; simp [hw j hj]
  · have : l k = true := by simpa [e] using hk
    simp [h k this j hj]
theorem Closed.none : Closed ops (fun _ => false) := fun _ h => by cases h
theorem wp_region_owed2 {id : Nat} {a : Act} {w : World} (I : (Nat → Bool) → Act → World → Prop) (hm : P.follows .mixedOrders = true) (hr : rising .any ops = true)
    (h0 : I (fun _ => false) a w.drew) (hstep : Owed P ops Q (fun l a w => Closed ops l ∧ I l a w) 0)
    (hfin : ∀ (l : Nat → Bool) a w, (∀ j, decide (j < ops.size) = true → l j = true) → I l a w → Q .normal a w) : (Code.region id ops true).wp P Q a w :=
  wp_region_owed (fun l a w => Closed ops l ∧ I l a w) hm hr ⟨Closed.none, h0⟩ hstep (fun l a w hl h => hfin l a w hl h.2)
end
/-- A row's cells with others put in from o on. -/
def putA : Array Value → Nat → List Value → Array Value
  | cs, _, [] => cs
  | cs, o, v :: r => putA (cs.setIfInBounds o v) (o + 1) r
theorem putA_get : ∀ (vs : List Value) (cs : Array Value) (o i : Nat), o + vs.length ≤ cs.size → (putA cs o vs)[i]? = if o ≤ i ∧ i < o + vs.length then vs[i - o]? else cs[i]?
  | [], cs, o, i, _ => by
    rw [putA, if_neg (by rintro ⟨h1, h2⟩; simp at h2; omega)]
  | v :: r, cs, o, i, h => by
    simp only [List.length_cons] at h
    rw [putA, putA_get r _ (o + 1) i (by simp; omega), Array.getElem?_setIfInBounds]
    simp only [List.length_cons]
    by_cases h1 : o = i
    · subst h1
      rw [if_neg (by omega), if_pos rfl, if_pos (by omega), if_pos (by omega)]
      simp
    · by_cases h2 : o + 1 ≤ i ∧ i < o + 1 + r.length
      · rw [if_pos h2, if_pos (by omega), show i - o = (i - (o + 1)) + 1 by omega]; simp
      · rw [if_neg h2, if_neg h1, if_neg (by omega)]
theorem putA_size : ∀ (vs : List Value) (cs : Array Value) (o : Nat), (putA cs o vs).size = cs.size
  | [], _, _ => rfl
  | v :: r, cs, o => by rw [putA, putA_size]; simp
theorem setCells_heap {b : Nat} {t : TypeId} : ∀ (vs : List Value) (o : Nat) (w : World) (cs : Array Value), w.heap[b]? = some (.cells cs t (0, 0)) → (w.setCells b o vs).heap[b]? = some (.cells (putA cs o vs) t (0, 0))
  | [], _, _, _, h => h
  | v :: r, o, w, cs, h => setCells_heap r (o + 1) _ _ (heap_setCell_same w b o cs t v h)
theorem setCells_other {b z : Nat} (hz : z ≠ b) : ∀ (vs : List Value) (o : Nat) (w : World), (w.setCells b o vs).heap[z]? = w.heap[z]?
  | [], _, _ => rfl
  | v :: r, o, w => by
    rw [World.setCells, setCells_other hz r, heap_setCell_other _ _ _ _ (by simpa using hz)]
theorem setCells_below {B b : Nat} {w0 : World} (hb : B ≤ b) : ∀ (vs : List Value) (o : Nat) (w : World), Below B w0 w → Below B w0 (w.setCells b o vs)
  | [], _, _, h => h
  | v :: r, o, w, h => setCells_below hb r (o + 1) _ (h.setCell (p := ⟨b, o, none⟩) hb v)
theorem setCells_size {b : Nat} : ∀ (vs : List Value) (o : Nat) (w : World), (w.setCells b o vs).heap.size = w.heap.size
  | [], _, _ => rfl
  | v :: r, o, w => by rw [World.setCells, setCells_size r]; simp
/-- The words of some spots, as cells. -/
def spL (f : Nat → Bool) : List Value := [.int .u64 (wf f 0), .int .u64 (wf f 1), .int .u64 (wf f 2), .int .u64 (wf f 3), .int .u64 (wf f 4), .int .u64 (wf f 5), .int .u64 (wf f 6), .int .u64 (wf f 7)]
theorem spL_get (f : Nat → Bool) (j : Nat) (h : j < 8) : (spL f)[j]? = some (.int .u64 (wf f j)) := by
  rcases lt8 h with rfl | rfl | rfl | rfl | rfl | rfl | rfl | rfl <;> rfl
theorem wf_congr {f g : Nat → Bool} (h : ∀ k, k < 512 → f k = g k) (j : Nat) (hj : j < 8) : wf f j = wf g j := by
  unfold wf; rw [W_congr j (fun k hk => h _ (by omega))]
theorem spL_congr {f g : Nat → Bool} (h : ∀ k, k < 512 → f k = g k) : spL f = spL g := by
  unfold spL
  rw [wf_congr h 0 (by omega), wf_congr h 1 (by omega), wf_congr h 2 (by omega), wf_congr h 3 (by omega), wf_congr h 4 (by omega), wf_congr h 5 (by omega), wf_congr h 6 (by omega), wf_congr h 7 (by omega)]
theorem spV_congr {f g : Nat → Bool} (h : ∀ k, k < 512 → f k = g k) : spV (wf f) = spV (wf g) := by
  have := spL_congr h
  show Value.agg (spL f).toArray = Value.agg (spL g).toArray
  rw [this]
def netV (N : Net) (i : Nat) : Value := if i = 0 then .int .i64 (N.n : Nat) else if i < 2049 then .int .u64 (wf (N.has ((i - 1) / 8)) ((i - 1) % 8)) else .int .u64 (wf (N.beh ((i - 2049) / 8)) ((i - 2049) % 8))
/-- A net's cells. -/
def netC (N : Net) : Array Value := Array.ofFn (n := 6145) fun i => netV N i.val
theorem netC_size (N : Net) : (netC N).size = 6145 := by simp [netC]
theorem netC_get (N : Net) (i : Nat) (h : i < 6145) : (netC N)[i]? = some (netV N i) := by
  simp [netC, Array.getElem?_ofFn, h]
theorem netC_n (N : Net) : (netC N)[0]? = some (.int .i64 (N.n : Nat)) := netC_get N 0 (by omega)
theorem netC_has (N : Net) (c j : Nat) (hc : c < 256) (hj : j < 8) : (netC N)[1 + c * 8 + j]? = some (.int .u64 (wf (N.has c) j)) := by
  rw [netC_get N _ (by omega)]
  unfold netV
  rw [if_neg (by omega), if_pos (by omega), show (1 + c * 8 + j - 1) / 8 = c by omega, show (1 + c * 8 + j - 1) % 8 = j by omega]
theorem netC_beh (N : Net) (c j : Nat) (hc : c < 512) (hj : j < 8) : (netC N)[2049 + c * 8 + j]? = some (.int .u64 (wf (N.beh c) j)) := by
  rw [netC_get N _ (by omega)]
  unfold netV
  rw [if_neg (by omega), if_neg (by omega), show (2049 + c * 8 + j - 2049) / 8 = c by omega, show (2049 + c * 8 + j - 2049) % 8 = j by omega]
theorem netV_congr {N M : Net} (hn : N.n = M.n) (hh : ∀ c, c < 256 → ∀ s, s < 512 → N.has c s = M.has c s) (hb : ∀ c, c < 512 → ∀ s, s < 512 → N.beh c s = M.beh c s) (i : Nat) (hi : i < 6145) : netV N i = netV M i := by
  unfold netV
  by_cases h0 : i = 0
  · rw [if_pos h0, if_pos h0, hn]
  · rw [if_neg h0, if_neg h0]
    by_cases h1 : i < 2049
    · rw [if_pos h1, if_pos h1, wf_congr (hh _ (by omega)) _ (by omega)]
    · rw [if_neg h1, if_neg h1, wf_congr (hb _ (by omega)) _ (by omega)]
theorem arr_ext {a b : Array Value} {n : Nat} (ha : a.size = n) (hb : b.size = n) (h : ∀ i, i < n → a[i]? = b[i]?) : a = b := by
  apply Array.ext_getElem?
  intro i
  by_cases hi : i < n
  · exact h i hi
  · rw [Array.getElem?_eq_none (by omega), Array.getElem?_eq_none (by omega)]
theorem netC_congr {N M : Net} (hn : N.n = M.n) (hh : ∀ c, c < 256 → ∀ s, s < 512 → N.has c s = M.has c s) (hb : ∀ c, c < 512 → ∀ s, s < 512 → N.beh c s = M.beh c s) : netC N = netC M :=
  arr_ext (netC_size N) (netC_size M) fun i hi => by rw [netC_get N i hi, netC_get M i hi, netV_congr hn hh hb i hi]
/-- What one more word of a byte's spots makes. -/
theorem putA_has {N M : Net} (c : Nat) (hc : c < 256) (f : Nat → Bool) (hn : N.n = M.n) (h1 : ∀ s, s < 512 → M.has c s = f s) (hh : ∀ k, k < 256 → k ≠ c → ∀ s, s < 512 → N.has k s = M.has k s) (hb : ∀ k, k < 512 → ∀ s, s < 512 → N.beh k s = M.beh k s) :
    putA (netC N) (1 + c * 8) (spL f) = netC M := by
  have hl : (spL f).length = 8 := rfl
  refine arr_ext (n := 6145) (by rw [putA_size, netC_size]) (netC_size M) fun i hi => ?_
  rw [putA_get _ _ _ _ (by rw [netC_size, hl]; omega), netC_get M i hi, netC_get N i hi, hl]
  by_cases h : 1 + c * 8 ≤ i ∧ i < 1 + c * 8 + 8
  · rw [if_pos h, spL_get f _ (by omega)]
    unfold netV
    rw [if_neg (by omega), if_pos (by omega), show (i - 1) / 8 = c by omega, show (i - 1) % 8 = i - (1 + c * 8) by omega, wf_congr (fun s hs => h1 s hs) _ (by omega)]
  · rw [if_neg h]
    unfold netV
    by_cases h0 : i = 0
    · rw [if_pos h0, if_pos h0, hn]
    · rw [if_neg h0, if_neg h0]
      by_cases h2 : i < 2049
      · rw [if_pos h2, if_pos h2, wf_congr (hh _ (by omega) (by omega)) _ (by omega)]
      · rw [if_neg h2, if_neg h2, wf_congr (hb _ (by omega)) _ (by omega)]
theorem putA_beh {N M : Net} (c : Nat) (hc : c < 512) (f : Nat → Bool) (hn : N.n = M.n) (h1 : ∀ s, s < 512 → M.beh c s = f s) (hh : ∀ k, k < 256 → ∀ s, s < 512 → N.has k s = M.has k s) (hb : ∀ k, k < 512 → k ≠ c → ∀ s, s < 512 → N.beh k s = M.beh k s) :
    putA (netC N) (2049 + c * 8) (spL f) = netC M := by
  have hl : (spL f).length = 8 := rfl
  refine arr_ext (n := 6145) (by rw [putA_size, netC_size]) (netC_size M) fun i hi => ?_
  rw [putA_get _ _ _ _ (by rw [netC_size, hl]; omega), netC_get M i hi, netC_get N i hi, hl]
  by_cases h : 2049 + c * 8 ≤ i ∧ i < 2049 + c * 8 + 8
  · rw [if_pos h, spL_get f _ (by omega)]
    unfold netV
    rw [if_neg (by omega), if_neg (by omega), show (i - 2049) / 8 = c by omega, show (i - 2049) % 8 = i - (2049 + c * 8) by omega, wf_congr (fun s hs => h1 s hs) _ (by omega)]
  · rw [if_neg h]
    unfold netV
    by_cases h0 : i = 0
    · rw [if_pos h0, if_pos h0, hn]
    · rw [if_neg h0, if_neg h0]
      by_cases h2 : i < 2049
      · rw [if_pos h2, if_pos h2, wf_congr (hh _ (by omega)) _ (by omega)]
      · rw [if_neg h2, if_neg h2, wf_congr (hb _ (by omega) (by omega)) _ (by omega)]
/-- A net at b; whatever else there was is as it was. -/
def Nk (b : Nat) (N : Net) (w w' : World) : Prop := w'.heap[b]? = some (.cells (netC N) 68 (0, 0)) ∧ Below b w w' ∧ ∀ z, z < w.heap.size → z ≠ b → w'.heap[z]? = w.heap[z]?
theorem Nk.trans {b : Nat} {N M : Net} {w w1 w2 : World} (h : Nk b N w w1) (g : Nk b M w1 w2) : Nk b M w w2 :=
  ⟨g.1, h.2.1.trans g.2.1, fun z hz hne => (g.2.2 z (Nat.lt_of_lt_of_le hz h.2.1.size) hne).trans (h.2.2 z hz hne)⟩
theorem Nk.lt {b : Nat} {N : Net} {w w' : World} (h : Nk b N w w') : b < w'.heap.size := (Array.getElem?_eq_some_iff.1 h.1).1
theorem Nk.up {b : Nat} {N : Net} {w w1 w2 : World} (h : Nk b N w w1) (hb : Below w1.heap.size w1 w2) : Nk b N w w2 :=
  ⟨(hb.block b h.lt).trans h.1, h.2.1.trans (hb.mono (Nat.le_of_lt h.lt)), fun z hz hne => (hb.block z (Nat.lt_of_lt_of_le hz h.2.1.size)).trans (h.2.2 z hz hne)⟩
theorem Nk.start {b : Nat} {N : Net} {w : World} (h : w.heap[b]? = some (.cells (netC N) 68 (0, 0))) : Nk b N w w := ⟨h, Below.refl _ _, fun _ _ _ => rfl⟩
theorem Nk.again {b : Nat} {N : Net} {w w' : World} (h : Nk b N w w') : Nk b N w' w' := Nk.start h.1
theorem Nk.drew {b : Nat} {N : Net} {w w' : World} (h : Nk b N w w') : Nk b N w w'.drew := ⟨h.1, below_drewN h.2.1 1, h.2.2⟩
/-- A block made since is written: the net is as it was. -/
theorem Nk.set {b g o : Nat} {N : Net} {w w' : World} (h : Nk b N w w') (hb : b < w.heap.size) (hg : w.heap.size ≤ g) (vs : List Value) : Nk b N w (w'.setCells g o vs) :=
  ⟨(setCells_other (by omega) vs o w').trans h.1, setCells_below (by omega) vs o w' h.2.1, fun z hz hne => (setCells_other (by omega) vs o w').trans (h.2.2 z hz hne)⟩
theorem Nk.put {b o : Nat} {N M : Net} {w w' : World} (h : Nk b N w w') (vs : List Value) (hM : putA (netC N) o vs = netC M) : Nk b M w (w'.setCells b o vs) :=
  ⟨by rw [← hM]; exact setCells_heap vs o w' _ h.1, setCells_below (Nat.le_refl _) vs o w' h.2.1, fun z hz hne => (setCells_other hne vs o w').trans (h.2.2 z hz hne)⟩
theorem Nk.hasAt {b : Nat} {N : Net} {w w' : World} (h : Nk b N w w') (c : Nat) (hc : c < 256) : w'.rangeAt b (1 + c * 8) (spL (N.has c)) := fun j v hv => by
  have hj : j < 8 := (List.getElem?_eq_some_iff.1 hv).1
  rw [cell_of_row w' b _ _ 68 (0, 0) h.1, netC_has N c j hc hj, ← spL_get _ _ hj]; exact hv
theorem Nk.behAt {b : Nat} {N : Net} {w w' : World} (h : Nk b N w w') (c : Nat) (hc : c < 512) : w'.rangeAt b (2049 + c * 8) (spL (N.beh c)) := fun j v hv => by
  have hj : j < 8 := (List.getElem?_eq_some_iff.1 hv).1
  rw [cell_of_row w' b _ _ 68 (0, 0) h.1, netC_beh N c j hc hj, ← spL_get _ _ hj]; exact hv
theorem Nk.there {b : Nat} {N : Net} {w w' : World} (h : Nk b N w w') (o n : Nat) (ho : o + n ≤ 6145) : w'.there b o n := fun j hj => by
  refine ⟨?_, frozen_of_row w' b _ _ 68 h.1⟩
  rw [cell_of_row w' b _ _ 68 (0, 0) h.1, netC_get N _ (by omega)]; rfl
theorem Nk.count {b : Nat} {N : Net} {w w' : World} (h : Nk b N w w') : w'.cell? ⟨b, 0, none⟩ = some (.int .i64 (N.n : Nat)) := by
  rw [cell_of_row w' b _ _ 68 (0, 0) h.1, netC_n]
theorem netC_one (N : Net) : (netC N).all (·.oneCell') = true := by
  rw [Array.all_eq_true]
  intro i hi
  have hi' : i < 6145 := by rw [netC_size] at hi; exact hi
  have h1 := netC_get N i hi'
  rw [Array.getElem?_eq_getElem hi] at h1
  rw [Option.some.inj h1]
  unfold netV
  split
  · rfl
  · split <;> rfl
/-- A block of eight words. -/
theorem row8_at {w : World} {b : Nat} {f : Nat → Bool} (h : w.heap[b]? = some (.cells (spL f).toArray 64 (0, 0))) (j : Nat) (hj : j < 8) : w.cell? ⟨b, j, none⟩ = some (.int .u64 (wf f j)) := by
  rw [cell_of_row w b j _ 64 (0, 0) h, List.getElem?_toArray, spL_get f j hj]
theorem row8_range {w : World} {b : Nat} {f : Nat → Bool} (h : w.heap[b]? = some (.cells (spL f).toArray 64 (0, 0))) : w.rangeAt b 0 (spL f) := fun j v hv => by
  have hj : j < 8 := (List.getElem?_eq_some_iff.1 hv).1
  rw [Nat.zero_add, row8_at h j hj, ← spL_get _ _ hj]; exact hv
end Go.Proofs.YtmjojahkbjlcdaaDoor
end
