/- Of and Range: byte by byte. -/
import Derived.Test.YtennflnfjjhgpaaProg
import Derived.Test.YtennflnfjjhgpaaOps
import Derived.Test.YtennflnfjjhgpaaOpsN
import Derived.WalkKit
import Derived.WalkLawsBesides
import Derived.WalkSpells
import Derived.Outline
import Derived.Lib.Walk
import Derived.Lib.Hide
import Derived.RegionTactic
import Derived.LoopTactic
import Derived.Below
import Derived.Laws.Rows
import Derived.IntWalk
import Derived.RegionCalls
import Derived.Deep.RegionWith
namespace Go.Proofs.Ytennflnfjjhgpaa
set_option linter.unusedSimpArgs false
set_option linter.unusedVariables false
open Go.RowKit

def ofL (l : List UInt8) (b : Nat) : Bool := l.any fun c => b == c.toNat
theorem ofL_nil : ofL [] = fun _ => false := rfl
theorem ofL_snoc (l : List UInt8) (c : UInt8) : ofL (l ++ [c]) = fun b => ofL l b || b == c.toNat := by
  funext b; unfold ofL; simp
def rangeF (a k b : Nat) : Bool := decide (a ≤ b) && decide (b < a + k)
theorem rangeF_zero (a : Nat) : rangeF a 0 = fun _ => false := by
  funext b; unfold rangeF; rw [Bool.eq_false_iff]; simp
theorem rangeF_succ (a k : Nat) : rangeF a (k + 1) = fun b => rangeF a k b || b == a + k := by
  funext b; unfold rangeF; rw [Bool.eq_iff_iff]; simp; omega
theorem W_none (i : Nat) : W (fun _ => false) i = 0 := (W_eq _ _ 0 (by omega) fun k _ => by simp).symm

def wc (f : Nat → Bool) : Array Value := #[.int .u64 (W f 0), .int .u64 (W f 1), .int .u64 (W f 2), .int .u64 (W f 3)]
/-- The answer's block, zero as yet, and the set so far, behind it. -/
def S1 (w0 : World) (f : Nat → Bool) (w : World) : Prop :=
  w.heap[w0.heap.size]? = some (.cells #[.int .u64 0, .int .u64 0, .int .u64 0, .int .u64 0] 24 (0, 0)) ∧ w.heap[w0.heap.size + 1]? = some (.cells (wc f) 24 (0, 0)) ∧ Below w0.heap.size w0 w
theorem S1.start (w : World) : S1 w (fun _ => false) ((w.alloc (.cells #[.int .u64 0, .int .u64 0, .int .u64 0, .int .u64 0] 24)).alloc (.cells #[.int .u64 0, .int .u64 0, .int .u64 0, .int .u64 0] 24)) := by
  refine ⟨by rw [heap_alloc2_old], ?_, ((Below.refl _ _).alloc (Nat.le_refl _) _).alloc (by simp) _⟩
  rw [heap_alloc2_new]
  unfold wc; simp only [W_none]; rfl
theorem S1.below {w0 w w' : World} {f : Nat → Bool} (h : S1 w0 f w) (hb : Below w.heap.size w w') : S1 w0 f w' := by
  have l1 := (Array.getElem?_eq_some_iff.1 h.1).1
  have l2 := (Array.getElem?_eq_some_iff.1 h.2.1).1
  exact ⟨(hb.block _ l1).trans h.1, (hb.block _ l2).trans h.2.1, h.2.2.trans (hb.mono (by omega))⟩
theorem S1.drewN {w0 w : World} {f : Nat → Bool} (h : S1 w0 f w) (n : Nat) : S1 w0 f (w.drewN n) := ⟨h.1, h.2.1, below_drewN h.2.2 n⟩
theorem S1.put {w0 w : World} {f : Nat → Bool} (h : S1 w0 f w) (g : Nat → Bool) :
    S1 w0 g ((((w.setCell ⟨w0.heap.size + 1, 0, none⟩ (.int .u64 (W g 0))).setCell ⟨w0.heap.size + 1, 1, none⟩ (.int .u64 (W g 1))).setCell ⟨w0.heap.size + 1, 2, none⟩ (.int .u64 (W g 2))).setCell ⟨w0.heap.size + 1, 3, none⟩ (.int .u64 (W g 3))) := by
  refine ⟨?_, ?_, (((h.2.2.setCell (p := ⟨w0.heap.size + 1, 0, none⟩) (by simp) _).setCell (p := ⟨w0.heap.size + 1, 1, none⟩) (by simp) _).setCell (p := ⟨w0.heap.size + 1, 2, none⟩) (by simp) _).setCell (p := ⟨w0.heap.size + 1, 3, none⟩) (by simp) _⟩
  · rw [heap_setCell_other _ _ _ _ (by simp), heap_setCell_other _ _ _ _ (by simp), heap_setCell_other _ _ _ _ (by simp), heap_setCell_other _ _ _ _ (by simp)]
    exact h.1
  · have a0 := heap_setCell_same w (w0.heap.size + 1) 0 _ 24 (.int .u64 (W g 0)) h.2.1
    have a1 := heap_setCell_same _ (w0.heap.size + 1) 1 _ 24 (.int .u64 (W g 1)) a0
    have a2 := heap_setCell_same _ (w0.heap.size + 1) 2 _ 24 (.int .u64 (W g 2)) a1
    have a3 := heap_setCell_same _ (w0.heap.size + 1) 3 _ 24 (.int .u64 (W g 3)) a2
    rw [a3]; rfl
theorem S1.c {w0 w : World} {f : Nat → Bool} (h : S1 w0 f w) (j : Nat) (hj : j < 4) : w.cell? ⟨w0.heap.size + 1, j, none⟩ = some (.int .u64 (W f j)) := by
  rw [cell_of_row w _ j _ 24 (0, 0) h.2.1]; rcases (by omega : j = 0 ∨ j = 1 ∨ j = 2 ∨ j = 3) with rfl | rfl | rfl | rfl <;> rfl
theorem S1.f {w0 w : World} {f : Nat → Bool} (h : S1 w0 f w) (j : Nat) : w.frozen? ⟨w0.heap.size + 1, j, none⟩ = false := frozen_of_row w _ j _ 24 h.2.1
theorem S1.z {w0 w : World} {f : Nat → Bool} (h : S1 w0 f w) (j : Nat) (hj : j < 4) : w.cell? ⟨w0.heap.size, j, none⟩ = some (.int .u64 0) := by
  rw [cell_of_row w _ j _ 24 (0, 0) h.1]; rcases (by omega : j = 0 ∨ j = 1 ∨ j = 2 ∨ j = 3) with rfl | rfl | rfl | rfl <;> rfl
theorem S1.zf {w0 w : World} {f : Nat → Bool} (h : S1 w0 f w) (j : Nat) : w.frozen? ⟨w0.heap.size, j, none⟩ = false := frozen_of_row w _ j _ 24 h.1
theorem S1.fin {w0 w : World} {f : Nat → Bool} (h : S1 w0 f w) :
    ((((w.setCell ⟨w0.heap.size, 0, none⟩ (.int .u64 (W f 0))).setCell ⟨w0.heap.size, 1, none⟩ (.int .u64 (W f 1))).setCell ⟨w0.heap.size, 2, none⟩ (.int .u64 (W f 2))).setCell ⟨w0.heap.size, 3, none⟩ (.int .u64 (W f 3))).heap[w0.heap.size]? = some (.cells (wc f) 24 (0, 0)) := by
  have a0 := heap_setCell_same w w0.heap.size 0 _ 24 (.int .u64 (W f 0)) h.1
  have a1 := heap_setCell_same _ w0.heap.size 1 _ 24 (.int .u64 (W f 1)) a0
  have a2 := heap_setCell_same _ w0.heap.size 2 _ 24 (.int .u64 (W f 2)) a1
  have a3 := heap_setCell_same _ w0.heap.size 3 _ 24 (.int .u64 (W f 3)) a2
  rw [a3]; rfl
theorem i24 (f : Nat → Bool) : (Try.prog.info? 24).map (·.size) = some (wc f).size := by
  show _ = some 4
  kernel_rfl
theorem S1.lt {w0 w : World} {f : Nat → Bool} (h : S1 w0 f w) : w0.heap.size + 1 < w.heap.size := (Array.getElem?_eq_some_iff.1 h.2.1).1
theorem S1.res {w0 w : World} {f : Nat → Bool} (h : S1 w0 f w) (x0 x1 x2 x3 : Value) : Below w0.heap.size w0 ((((w.setCell ⟨w0.heap.size, 0, none⟩ x0).setCell ⟨w0.heap.size, 1, none⟩ x1).setCell ⟨w0.heap.size, 2, none⟩ x2).setCell ⟨w0.heap.size, 3, none⟩ x3) :=
  (((h.2.2.setCell (p := ⟨w0.heap.size, 0, none⟩) (by simp) _).setCell (p := ⟨w0.heap.size, 1, none⟩) (by simp) _).setCell (p := ⟨w0.heap.size, 2, none⟩) (by simp) _).setCell (p := ⟨w0.heap.size, 3, none⟩) (by simp) _

set_option maxHeartbeats 2000000 in
theorem of_any (s : ByteArray) (hs : s.size ≤ 9223372036854775807) (w : World) :
    Calls Try.prog 17 #[.string s] w fun e w' => e = .returned (setV (ofL s.data.toList)) ∧ Below w.heap.size w w' := by
  have S0 := Lib.hid (S1.start w)
  have hlen : s.data.toList.length = s.size := by simp
  have hlen' := Lib.hid hlen
  clear hlen
  obtain ⟨G, hG⟩ : ∃ G, ofL s.data.toList = G := ⟨_, rfl⟩
  rw [hG]
  have hG' := Lib.hid hG
  clear hG
  go_enter Try.func17, Try.ntmps17
  go_wp2
  go_loopw [7] (fun i wr => ∃ k : Nat, k ≤ s.size ∧ i = .int .i64 k ∧ S1 w (ofL (s.data.toList.take k)) wr) (fun i _ => s.size - (intOf i).toNat)
  case atStart => exact ⟨0, by omega, rfl, S0.out⟩
  case round =>
    obtain ⟨k, hk, rfl, hS⟩ := hrel
    have HS := Lib.hid hS
    clear hS
    by_cases hlt : k < s.size
    · have hjl : k < s.data.toList.length := by rw [hlen'.out]; exact hlt
      have ht : s.data.toList.take (k + 1) = s.data.toList.take k ++ [s[k]] := by rw [List.take_succ_eq_append_getElem hjl]; rfl
      have hn := s[k].toNat_lt
      have hw := Lib.hid (with_any (ofL (s.data.toList.take k)) s[k].toNat hn)
      have hT := Lib.hid (congrArg ofL ht)
      rw [ofL_snoc] at hT
      clear ht
      generalize ofL (s.data.toList.take k) = f at *
      generalize (fun b => f b || b == s[k].toNat) = g at *
      have c0 := HS.out.c 0 (by omega); have f0 := HS.out.f 0
      have c1 := HS.out.c 1 (by omega); have f1 := HS.out.f 1
      have c2 := HS.out.c 2 (by omega); have f2 := HS.out.f 2
      have c3 := HS.out.c 3 (by omega); have f3 := HS.out.f 3
      have z1 := HS.out.lt
      go_wp2
      have S8 := HS
      go_region_with (go_at_call 31; refine (hw.out _).mono ?_; rintro _ w2 ⟨rfl, hb⟩; have HS2 := Lib.hid ((HS.out.drewN 1).below hb); have e0 := HS2.out.c 0 (by omega); have p0 := HS2.out.f 0; have e1 := HS2.out.c 1 (by omega); have p1 := HS2.out.f 1; have e2 := HS2.out.c 2 (by omega); have p2 := HS2.out.f 2; have e3 := HS2.out.c 3 (by omega); have p3 := HS2.out.f 3)
      all_goals
        (go_wp2
         go_roundw
         case rel => exact ⟨k + 1, by omega, by go_num, by rw [hT.out]; exact HS2.out.put g⟩
         case measure => simp [intOf]; omega)
    · obtain rfl : k = s.size := by omega
      rw [← hlen'.out, List.take_length, hG'.out] at HS
      have c0 := HS.out.c 0 (by omega); have d0 := HS.out.z 0 (by omega); have g0 := HS.out.zf 0
      have c1 := HS.out.c 1 (by omega); have d1 := HS.out.z 1 (by omega); have g1 := HS.out.zf 1
      have c2 := HS.out.c 2 (by omega); have d2 := HS.out.z 2 (by omega); have g2 := HS.out.zf 2
      have c3 := HS.out.c 3 (by omega); have d3 := HS.out.z 3 (by omega); have g3 := HS.out.zf 3
      have z1 := HS.out.lt
      have z0 : w.heap.size < wr.heap.size := by omega
      go_wp2
      refine bodyPost_ret (v := setV G) (results_cell_row rfl _ _ w.heap.size 24 (wc G) (0, 0) _ rfl HS.out.fin Try.underlying24 rfl (i24 G)) rfl ⟨rfl, ?_⟩
      exact HS.out.res _ _ _ _

theorem sub_wrap (a b : Nat) (ha : a < 256) (hb : b < 256) : (if a ≤ b then b + 1 - a else 0) ≤ 256 := by split <;> omega
set_option maxHeartbeats 2000000 in
theorem range_any (a b : Nat) (ha : a < 256) (hb : b < 256) (w : World) :
    Calls Try.prog 19 #[.int .u8 a, .int .u8 b] w fun e w' => e = .returned (setV (rangeF a (b + 1 - a))) ∧ Below w.heap.size w w' := by
  have S0 := Lib.hid (S1.start w)
  obtain ⟨G, hG⟩ : ∃ G, rangeF a (b + 1 - a) = G := ⟨_, rfl⟩
  rw [hG]
  have hG' := Lib.hid hG
  clear hG
  go_enter Try.func19, Try.ntmps19
  go_wp2
  go_loopw [13] (fun i wr => ∃ k : Nat, k ≤ b + 1 - a ∧ i = .int .i64 k ∧ S1 w (rangeF a k) wr) (fun i _ => b + 1 - a - (intOf i).toNat)
  case atStart => exact ⟨0, by omega, rfl, by rw [rangeF_zero]; exact S0.out⟩
  case round =>
    obtain ⟨k, hk, rfl, hS⟩ := hrel
    have HS := Lib.hid hS
    clear hS
    by_cases hlt : (k : Int) < (b : Int) - (a : Int) + 1
    · have hlt' : k < b + 1 - a := by omega
      have hw := Lib.hid (with_any (rangeF a k) (a + k) (by omega))
      have hT := Lib.hid (rangeF_succ a k)
      generalize rangeF a k = f at *
      generalize (fun b => f b || b == a + k) = g at *
      have c0 := HS.out.c 0 (by omega); have f0 := HS.out.f 0
      have c1 := HS.out.c 1 (by omega); have f1 := HS.out.f 1
      have c2 := HS.out.c 2 (by omega); have f2 := HS.out.f 2
      have c3 := HS.out.c 3 (by omega); have f3 := HS.out.f 3
      have z1 := HS.out.lt
      have hm : (k : Int) % 256 = k := by omega
      go_wp2_with fail
      refine (hw.out _).mono ?_
      rintro _ w2 ⟨rfl, hb2⟩
      have HS2 := Lib.hid (HS.out.below hb2)
      clear c0 c1 c2 c3 f0 f1 f2 f3 z1 hb2
      have c0 := HS2.out.c 0 (by omega); have f0 := HS2.out.f 0
      have c1 := HS2.out.c 1 (by omega); have f1 := HS2.out.f 1
      have c2 := HS2.out.c 2 (by omega); have f2 := HS2.out.f 2
      have c3 := HS2.out.c 3 (by omega); have f3 := HS2.out.f 3
      have z1 := HS2.out.lt
      go_wp2
      go_roundw
      case rel => exact ⟨k + 1, by omega, by go_num, by rw [hT.out]; exact HS2.out.put g⟩
      case measure => simp [intOf]; omega
    · obtain rfl : k = b + 1 - a := by omega
      rw [hG'.out] at HS
      have c0 := HS.out.c 0 (by omega); have d0 := HS.out.z 0 (by omega); have g0 := HS.out.zf 0
      have c1 := HS.out.c 1 (by omega); have d1 := HS.out.z 1 (by omega); have g1 := HS.out.zf 1
      have c2 := HS.out.c 2 (by omega); have d2 := HS.out.z 2 (by omega); have g2 := HS.out.zf 2
      have c3 := HS.out.c 3 (by omega); have d3 := HS.out.z 3 (by omega); have g3 := HS.out.zf 3
      have z1 := HS.out.lt
      have z0 : w.heap.size < wr.heap.size := by omega
      go_wp2
      refine bodyPost_ret (v := setV G) (results_cell_row rfl _ _ w.heap.size 24 (wc G) (0, 0) _ rfl HS.out.fin Try.underlying24 rfl (i24 G)) rfl ⟨rfl, ?_⟩
      exact HS.out.res _ _ _ _
end Go.Proofs.Ytennflnfjjhgpaa
