/- Union, Meet, Not, Count: word by word. -/
import Derived.Test.YtennflnfjjhgpaaProg
import Derived.Test.YtennflnfjjhgpaaHas
import Derived.Test.YtennflnfjjhgpaaOnes
import Derived.WalkKit
import Derived.WalkLawsBesides
import Derived.WalkSpells
import Derived.Outline
import Derived.Lib.Walk
import Derived.Lib.Hide
import Derived.RegionTactic
import Derived.LoopTactic
import Derived.Below
import Derived.Laws.Rows
import Derived.StillTailTactics
import Derived.Deep.QuietTactic
import Derived.BigQuiet
import Derived.Deep.LoopGhost
namespace Go.Proofs.Ytennflnfjjhgpaa
set_option linter.unusedSimpArgs false
set_option linter.unusedVariables false
open Go.RowKit

theorem below_drewN {B : Nat} {a w : World} (h : Below B a w) (n : Nat) : Below B a (w.drewN n) := ⟨h.os, h.tape, h.output, h.size, h.block⟩
def C4 (x : Nat → Value) : Array Value := #[x 0, x 1, x 2, x 3]
theorem C4_get (x : Nat → Value) (k : Nat) (h : k < 4) : (C4 x)[k]? = some (x k) := by
  rcases (by omega : k = 0 ∨ k = 1 ∨ k = 2 ∨ k = 3) with rfl | rfl | rfl | rfl <;> rfl
theorem C4_set (x y : Nat → Value) (k : Nat) (v : Value) (h : ∀ j, j < 4 → y j = if j = k then v else x j) : (C4 x).setIfInBounds k v = C4 y := by
  apply Array.ext_getElem?
  intro j
  rw [Array.getElem?_setIfInBounds]
  by_cases hj : j < 4
  · rw [C4_get y j hj, h j hj]
    by_cases he : k = j
    · subst he; simp [C4, hj]
    · rw [if_neg he, C4_get x j hj, if_neg (fun e => he e.symm)]
  · have e1 : (C4 y)[j]? = none := by simp [C4]; omega
    have e2 : (C4 x)[j]? = none := by simp [C4]; omega
    rw [e1, e2]
    by_cases he : k = j
    · subst he; simp [C4, hj]
    · rw [if_neg he]
def mix (r a : Nat → Value) (k j : Nat) : Value := if j < k then r j else a j
/-- Two arrays of four words, and one that is to be the answer. -/
def U (w0 : World) (r a b : Nat → Value) (k : Nat) (w : World) : Prop :=
  w.heap[w0.heap.size]? = some (.cells (C4 (mix r a k)) 24 (0, 0)) ∧ w.heap[w0.heap.size + 1]? = some (.cells (C4 b) 24 (0, 0)) ∧
  w.heap[w0.heap.size + 2]? = some (.cells #[.int .u64 0, .int .u64 0, .int .u64 0, .int .u64 0] 24 (0, 0)) ∧ Below w0.heap.size w0 w
theorem U.start (w : World) (r a b : Nat → Value) : U w r a b 0 (((w.alloc (.cells (C4 a) 24)).alloc (.cells (C4 b) 24)).alloc (.cells #[.int .u64 0, .int .u64 0, .int .u64 0, .int .u64 0] 24)) := by
  refine ⟨?_, ?_, ?_, (((Below.refl _ _).alloc (Nat.le_refl _) _).alloc (by simp) _).alloc (by simp; omega) _⟩
  · rw [heap_alloc_old _ _ (by simp; omega), heap_alloc2_old]
    have : mix r a 0 = a := by funext j; simp [mix]
    rw [this]
  · rw [heap_alloc_old _ _ (by simp), heap_alloc2_new]
  · have h := _root_.Go.heap_alloc_new ((w.alloc (.cells (C4 a) 24)).alloc (.cells (C4 b) 24)) (.cells #[.int .u64 0, .int .u64 0, .int .u64 0, .int .u64 0] 24)
    have e : ((w.alloc (.cells (C4 a) 24)).alloc (.cells (C4 b) 24)).heap.size = w.heap.size + 2 := by simp
    rwa [e] at h
theorem U.drewN {w0 w : World} {r a b : Nat → Value} {k : Nat} (h : U w0 r a b k w) (n : Nat) : U w0 r a b k (w.drewN n) := ⟨h.1, h.2.1, h.2.2.1, below_drewN h.2.2.2 n⟩
theorem U.set {w0 w : World} {r a b : Nat → Value} {k : Nat} (h : U w0 r a b k w) (hk : k < 4) : U w0 r a b (k + 1) (w.setCell ⟨w0.heap.size, k, none⟩ (r k)) := by
  refine ⟨?_, ?_, ?_, h.2.2.2.setCell (p := ⟨w0.heap.size, k, none⟩) (Nat.le_refl _) _⟩
  · rw [heap_setCell_same w _ k _ 24 (r k) h.1, C4_set (mix r a k) (mix r a (k + 1)) k (r k)]
    intro j hj
    unfold mix
    by_cases e : j = k
    · subst e; simp
    · by_cases h1 : j < k
      · simp [h1, e, show j < k + 1 by omega]
      · simp [h1, e, show ¬ j < k + 1 by omega]
  · rw [heap_setCell_other _ _ _ _ (by simp)]; exact h.2.1
  · rw [heap_setCell_other _ _ _ _ (by simp)]; exact h.2.2.1
theorem U.c0 {w0 w : World} {r a b : Nat → Value} {k : Nat} (h : U w0 r a b k w) (hk : k < 4) : w.cell? ⟨w0.heap.size, k, none⟩ = some (a k) := by
  rw [cell_of_row w _ k _ 24 (0, 0) h.1, C4_get _ _ hk]; simp [mix]
theorem U.c1 {w0 w : World} {r a b : Nat → Value} {k : Nat} (h : U w0 r a b k w) (hk : k < 4) : w.cell? ⟨w0.heap.size + 1, k, none⟩ = some (b k) := by
  rw [cell_of_row w _ k _ 24 (0, 0) h.2.1, C4_get _ _ hk]
theorem U.f0 {w0 w : World} {r a b : Nat → Value} {k : Nat} (h : U w0 r a b k w) : w.frozen? ⟨w0.heap.size, k, none⟩ = false := frozen_of_row w _ k _ 24 h.1
theorem U.e0 {w0 w : World} {r a b : Nat → Value} (h : U w0 r a b 4 w) (j : Nat) (hj : j < 4) : w.cell? ⟨w0.heap.size, j, none⟩ = some (r j) := by
  rw [cell_of_row w _ j _ 24 (0, 0) h.1, C4_get _ _ hj]; simp [mix, hj]
theorem U.h2 {w0 w : World} {r a b : Nat → Value} {k : Nat} (h : U w0 r a b k w) : w0.heap.size + 2 < w.heap.size := (Array.getElem?_eq_some_iff.1 h.2.2.1).1
def zero4 (j : Nat) : Value := .int .u64 0
theorem U.z {w0 w : World} {r a b : Nat → Value} {k : Nat} (h : U w0 r a b k w) (j : Nat) (hj : j < 4) : w.cell? ⟨w0.heap.size + 1 + 1, j, none⟩ = some (.int .u64 0) := by
  rw [cell_of_row w _ j _ 24 (0, 0) h.2.2.1]; rcases (by omega : j = 0 ∨ j = 1 ∨ j = 2 ∨ j = 3) with rfl | rfl | rfl | rfl <;> rfl
theorem U.zf {w0 w : World} {r a b : Nat → Value} {k : Nat} (h : U w0 r a b k w) (j : Nat) : w.frozen? ⟨w0.heap.size + 1 + 1, j, none⟩ = false := frozen_of_row w _ j _ 24 h.2.2.1

set_option maxHeartbeats 2000000 in
theorem union_r (a b r : Nat → Nat) (hr : ∀ k, k < 4 → bits .or .u64 (a k : Int) (b k : Int) = ((r k : Nat) : Int)) (w : World) :
    Calls Try.prog 21 #[.agg #[.int .u64 (a 0), .int .u64 (a 1), .int .u64 (a 2), .int .u64 (a 3)], .agg #[.int .u64 (b 0), .int .u64 (b 1), .int .u64 (b 2), .int .u64 (b 3)]] w
      fun e w' => e = .returned (.agg #[.int .u64 (r 0), .int .u64 (r 1), .int .u64 (r 2), .int .u64 (r 3)]) ∧ Below w.heap.size w w' := by
  have HR := Lib.hid hr
  clear hr
  have S0 := Lib.hid (U.start w (fun k => .int .u64 (r k)) (fun k => .int .u64 (a k)) (fun k => .int .u64 (b k)))
  unfold C4 at S0
  go_enter Try.func21, Try.ntmps21
  go_wp2
  go_loopw [6] (fun i wr => ∃ k : Nat, k ≤ 4 ∧ i = .int .i64 k ∧ U w (fun k => .int .u64 (r k)) (fun k => .int .u64 (a k)) (fun k => .int .u64 (b k)) k wr) (fun i _ => 4 - (intOf i).toNat)
  case atStart => exact ⟨0, by omega, rfl, S0.out⟩
  case round =>
    obtain ⟨k, hk, rfl, hS⟩ := hrel
    have HS := Lib.hid hS
    clear hS
    by_cases hlt : k < 4
    · have hlt' : (k : Int) < 4 := by omega
      have c0 := HS.out.c0 hlt
      have c1 := HS.out.c1 hlt
      have f0 := HS.out.f0
      have z0 : w.heap.size < wr.heap.size := by have := HS.out.h2; omega
      have hv := HR.out k hlt
      go_wp2
      go_region
      go_wp2
      go_roundw
      case rel => exact ⟨k + 1, by omega, by go_num, (HS.out.set hlt).drewN 1⟩
      case measure => simp [intOf]; omega
    · obtain rfl : k = 4 := by omega
      clear hlt hk
      have c0 := HS.out.e0 0 (by omega)
      have c1 := HS.out.e0 1 (by omega)
      have c2 := HS.out.e0 2 (by omega)
      have c3 := HS.out.e0 3 (by omega)
      have d0 := HS.out.z 0 (by omega)
      have d1 := HS.out.z 1 (by omega)
      have d2 := HS.out.z 2 (by omega)
      have d3 := HS.out.z 3 (by omega)
      have g0 := HS.out.zf 0
      have g1 := HS.out.zf 1
      have g2 := HS.out.zf 2
      have g3 := HS.out.zf 3
      have z2 : w.heap.size + 1 + 1 < wr.heap.size := HS.out.h2
      go_wp2
      refine bodyPost_ret (v := .agg #[.int .u64 (r 0), .int .u64 (r 1), .int .u64 (r 2), .int .u64 (r 3)]) (by simp [results, Try.results21, go_sem, c0, c1, c2, c3, d0, d1, d2, d3, g0, g1, g2, g3, z2]) rfl ⟨rfl, ?_⟩
      have hb := HS.out.2.2.2
      exact (((hb.setCell (p := ⟨w.heap.size + 1 + 1, 0, none⟩) (by simp; omega) _).setCell (p := ⟨w.heap.size + 1 + 1, 1, none⟩) (by simp; omega) _).setCell (p := ⟨w.heap.size + 1 + 1, 2, none⟩) (by simp; omega) _).setCell (p := ⟨w.heap.size + 1 + 1, 3, none⟩) (by simp; omega) _
theorem union_any (f g : Nat → Bool) (w : World) :
    Calls Try.prog 21 #[setV f, setV g] w fun e w' => e = .returned (setV (fun b => f b || g b)) ∧ Below w.heap.size w w' :=
  union_r (W f) (W g) (W fun b => f b || g b) (fun k _ => W_or f g k) w

set_option maxHeartbeats 2000000 in
theorem meet_r (a b r : Nat → Nat) (hr : ∀ k, k < 4 → bits .and .u64 (a k : Int) (b k : Int) = ((r k : Nat) : Int)) (w : World) :
    Calls Try.prog 22 #[.agg #[.int .u64 (a 0), .int .u64 (a 1), .int .u64 (a 2), .int .u64 (a 3)], .agg #[.int .u64 (b 0), .int .u64 (b 1), .int .u64 (b 2), .int .u64 (b 3)]] w
      fun e w' => e = .returned (.agg #[.int .u64 (r 0), .int .u64 (r 1), .int .u64 (r 2), .int .u64 (r 3)]) ∧ Below w.heap.size w w' := by
  have HR := Lib.hid hr
  clear hr
  have S0 := Lib.hid (U.start w (fun k => .int .u64 (r k)) (fun k => .int .u64 (a k)) (fun k => .int .u64 (b k)))
  unfold C4 at S0
  go_enter Try.func22, Try.ntmps22
  go_wp2
  go_loopw [6] (fun i wr => ∃ k : Nat, k ≤ 4 ∧ i = .int .i64 k ∧ U w (fun k => .int .u64 (r k)) (fun k => .int .u64 (a k)) (fun k => .int .u64 (b k)) k wr) (fun i _ => 4 - (intOf i).toNat)
  case atStart => exact ⟨0, by omega, rfl, S0.out⟩
  case round =>
    obtain ⟨k, hk, rfl, hS⟩ := hrel
    have HS := Lib.hid hS
    clear hS
    by_cases hlt : k < 4
    · have hlt' : (k : Int) < 4 := by omega
      have c0 := HS.out.c0 hlt
      have c1 := HS.out.c1 hlt
      have f0 := HS.out.f0
      have z0 : w.heap.size < wr.heap.size := by have := HS.out.h2; omega
      have hv := HR.out k hlt
      go_wp2
      go_region
      go_wp2
      go_roundw
      case rel => exact ⟨k + 1, by omega, by go_num, (HS.out.set hlt).drewN 1⟩
      case measure => simp [intOf]; omega
    · obtain rfl : k = 4 := by omega
      clear hlt hk
      have c0 := HS.out.e0 0 (by omega)
      have c1 := HS.out.e0 1 (by omega)
      have c2 := HS.out.e0 2 (by omega)
      have c3 := HS.out.e0 3 (by omega)
      have d0 := HS.out.z 0 (by omega)
      have d1 := HS.out.z 1 (by omega)
      have d2 := HS.out.z 2 (by omega)
      have d3 := HS.out.z 3 (by omega)
      have g0 := HS.out.zf 0
      have g1 := HS.out.zf 1
      have g2 := HS.out.zf 2
      have g3 := HS.out.zf 3
      have z2 : w.heap.size + 1 + 1 < wr.heap.size := HS.out.h2
      go_wp2
      refine bodyPost_ret (v := .agg #[.int .u64 (r 0), .int .u64 (r 1), .int .u64 (r 2), .int .u64 (r 3)]) (by simp [results, Try.results22, go_sem, c0, c1, c2, c3, d0, d1, d2, d3, g0, g1, g2, g3, z2]) rfl ⟨rfl, ?_⟩
      have hb := HS.out.2.2.2
      exact (((hb.setCell (p := ⟨w.heap.size + 1 + 1, 0, none⟩) (by simp; omega) _).setCell (p := ⟨w.heap.size + 1 + 1, 1, none⟩) (by simp; omega) _).setCell (p := ⟨w.heap.size + 1 + 1, 2, none⟩) (by simp; omega) _).setCell (p := ⟨w.heap.size + 1 + 1, 3, none⟩) (by simp; omega) _
theorem meet_any (f g : Nat → Bool) (w : World) :
    Calls Try.prog 22 #[setV f, setV g] w fun e w' => e = .returned (setV (fun b => f b && g b)) ∧ Below w.heap.size w w' :=
  meet_r (W f) (W g) (W fun b => f b && g b) (fun k _ => W_and f g k) w
end Go.Proofs.Ytennflnfjjhgpaa
