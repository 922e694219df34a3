/- Texts of package regs, one behind the other. -/
import Derived.Test.YtmjojahkbjlcdaaDoorProg
import Derived.Test.YtmjojahkbjlcdaaDoorY2
import Derived.WalkKit
import Derived.WalkLawsBesides
import Derived.WalkSpells
import Derived.Outline
import Derived.Lib.Walk
import Derived.Lib.Hide
import Derived.RegionTactic
import Derived.LoopTactic
import Derived.Below
import Derived.Laws.Rows
import Derived.IntWalk
import Derived.RegionCalls
import Derived.Deep.RegionWith
import Derived.Shelf.Strings.BuilderK
import Derived.Shelf.Lays
import Derived.Shelf.LaysM
import Derived.Laws.Tables
import Derived.Deep.WholeRow
import Derived.Lib.OthersKept
import Derived.Lib.FrozenHead
section
/- Of and Range: byte by byte. -/
namespace Go.Proofs.YtmjojahkbjlcdaaDoor
set_option linter.unusedSimpArgs false
set_option linter.unusedVariables false
set_option maxRecDepth 100000
open Go.RowKit

def ofL (l : List UInt8) (b : Nat) : Bool := l.any fun c => b == c.toNat
theorem ofL_nil : ofL [] = fun _ => false := rfl
theorem ofL_snoc (l : List UInt8) (c : UInt8) : ofL (l ++ [c]) = fun b => ofL l b || b == c.toNat := by
  funext b; unfold ofL; simp
def rangeF (a k b : Nat) : Bool := decide (a ≤ b) && decide (b < a + k)
theorem rangeF_zero (a : Nat) : rangeF a 0 = fun _ => false := by
  funext b; unfold rangeF; rw [Bool.eq_false_iff]; simp
theorem rangeF_succ (a k : Nat) : rangeF a (k + 1) = fun b => rangeF a k b || b == a + k := by
  funext b; unfold rangeF; rw [Bool.eq_iff_iff]; simp; omega
theorem W_none (i : Nat) : W (fun _ => false) i = 0 := (W_eq _ _ 0 (by omega) fun k _ => by simp).symm

def wc (f : Nat → Bool) : Array Value := #[.int .u64 (W f 0), .int .u64 (W f 1), .int .u64 (W f 2), .int .u64 (W f 3)]
/-- The answer's block, zero as yet, and the set so far, behind it. -/
def S1 (w0 : World) (f : Nat → Bool) (w : World) : Prop :=
  w.heap[w0.heap.size]? = some (.cells #[.int .u64 0, .int .u64 0, .int .u64 0, .int .u64 0] 24 (0, 0)) ∧ w.heap[w0.heap.size + 1]? = some (.cells (wc f) 24 (0, 0)) ∧ Below w0.heap.size w0 w
theorem S1.start (w : World) : S1 w (fun _ => false) ((w.alloc (.cells #[.int .u64 0, .int .u64 0, .int .u64 0, .int .u64 0] 24)).alloc (.cells #[.int .u64 0, .int .u64 0, .int .u64 0, .int .u64 0] 24)) := by
  refine ⟨by rw [heap_alloc2_old], ?_, ((Below.refl _ _).alloc (Nat.le_refl _) _).alloc (by simp) _⟩
  rw [heap_alloc2_new]
  unfold wc; simp only [W_none]; rfl
theorem S1.below {w0 w w' : World} {f : Nat → Bool} (h : S1 w0 f w) (hb : Below w.heap.size w w') : S1 w0 f w' := by
  have l1 := (Array.getElem?_eq_some_iff.1 h.1).1
  have l2 := (Array.getElem?_eq_some_iff.1 h.2.1).1
  exact ⟨(hb.block _ l1).trans h.1, (hb.block _ l2).trans h.2.1, h.2.2.trans (hb.mono (by omega))⟩
theorem S1.drewN {w0 w : World} {f : Nat → Bool} (h : S1 w0 f w) (n : Nat) : S1 w0 f (w.drewN n) := ⟨h.1, h.2.1, below_drewN h.2.2 n⟩
theorem S1.put {w0 w : World} {f : Nat → Bool} (h : S1 w0 f w) (g : Nat → Bool) :
    S1 w0 g ((((w.setCell ⟨w0.heap.size + 1, 0, none⟩ (.int .u64 (W g 0))).setCell ⟨w0.heap.size + 1, 1, none⟩ (.int .u64 (W g 1))).setCell ⟨w0.heap.size + 1, 2, none⟩ (.int .u64 (W g 2))).setCell ⟨w0.heap.size + 1, 3, none⟩ (.int .u64 (W g 3))) := by
  refine ⟨?_, ?_, (((h.2.2.setCell (p := ⟨w0.heap.size + 1, 0, none⟩) (by simp) _).setCell (p := ⟨w0.heap.size + 1, 1, none⟩) (by simp) _).setCell (p := ⟨w0.heap.size + 1, 2, none⟩) (by simp) _).setCell (p := ⟨w0.heap.size + 1, 3, none⟩) (by simp) _⟩
  · rw [heap_setCell_other _ _ _ _ (by simp), heap_setCell_other _ _ _ _ (by simp), heap_setCell_other _ _ _ _ (by simp), heap_setCell_other _ _ _ _ (by simp)]
    exact h.1
  · have a0 := heap_setCell_same w (w0.heap.size + 1) 0 _ 24 (.int .u64 (W g 0)) h.2.1
    have a1 := heap_setCell_same _ (w0.heap.size + 1) 1 _ 24 (.int .u64 (W g 1)) a0
    have a2 := heap_setCell_same _ (w0.heap.size + 1) 2 _ 24 (.int .u64 (W g 2)) a1
    have a3 := heap_setCell_same _ (w0.heap.size + 1) 3 _ 24 (.int .u64 (W g 3)) a2
    rw [a3]; rfl
theorem S1.c {w0 w : World} {f : Nat → Bool} (h : S1 w0 f w) (j : Nat) (hj : j < 4) : w.cell? ⟨w0.heap.size + 1, j, none⟩ = some (.int .u64 (W f j)) := by
  rw [cell_of_row w _ j _ 24 (0, 0) h.2.1]; rcases (by omega : j = 0 ∨ j = 1 ∨ j = 2 ∨ j = 3) with rfl | rfl | rfl | rfl <;> rfl
theorem S1.f {w0 w : World} {f : Nat → Bool} (h : S1 w0 f w) (j : Nat) : w.frozen? ⟨w0.heap.size + 1, j, none⟩ = false := frozen_of_row w _ j _ 24 h.2.1
theorem S1.z {w0 w : World} {f : Nat → Bool} (h : S1 w0 f w) (j : Nat) (hj : j < 4) : w.cell? ⟨w0.heap.size, j, none⟩ = some (.int .u64 0) := by
  rw [cell_of_row w _ j _ 24 (0, 0) h.1]; rcases (by omega : j = 0 ∨ j = 1 ∨ j = 2 ∨ j = 3) with rfl | rfl | rfl | rfl <;> rfl
theorem S1.zf {w0 w : World} {f : Nat → Bool} (h : S1 w0 f w) (j : Nat) : w.frozen? ⟨w0.heap.size, j, none⟩ = false := frozen_of_row w _ j _ 24 h.1
theorem S1.fin {w0 w : World} {f : Nat → Bool} (h : S1 w0 f w) :
    ((((w.setCell ⟨w0.heap.size, 0, none⟩ (.int .u64 (W f 0))).setCell ⟨w0.heap.size, 1, none⟩ (.int .u64 (W f 1))).setCell ⟨w0.heap.size, 2, none⟩ (.int .u64 (W f 2))).setCell ⟨w0.heap.size, 3, none⟩ (.int .u64 (W f 3))).heap[w0.heap.size]? = some (.cells (wc f) 24 (0, 0)) := by
  have a0 := heap_setCell_same w w0.heap.size 0 _ 24 (.int .u64 (W f 0)) h.1
  have a1 := heap_setCell_same _ w0.heap.size 1 _ 24 (.int .u64 (W f 1)) a0
  have a2 := heap_setCell_same _ w0.heap.size 2 _ 24 (.int .u64 (W f 2)) a1
  have a3 := heap_setCell_same _ w0.heap.size 3 _ 24 (.int .u64 (W f 3)) a2
  rw [a3]; rfl
theorem i24 (f : Nat → Bool) : (Tryd.prog.info? 24).map (·.size) = some (wc f).size := by
  show _ = some 4
  kernel_rfl
theorem S1.lt {w0 w : World} {f : Nat → Bool} (h : S1 w0 f w) : w0.heap.size + 1 < w.heap.size := (Array.getElem?_eq_some_iff.1 h.2.1).1
theorem S1.res {w0 w : World} {f : Nat → Bool} (h : S1 w0 f w) (x0 x1 x2 x3 : Value) : Below w0.heap.size w0 ((((w.setCell ⟨w0.heap.size, 0, none⟩ x0).setCell ⟨w0.heap.size, 1, none⟩ x1).setCell ⟨w0.heap.size, 2, none⟩ x2).setCell ⟨w0.heap.size, 3, none⟩ x3) :=
  (((h.2.2.setCell (p := ⟨w0.heap.size, 0, none⟩) (by simp) _).setCell (p := ⟨w0.heap.size, 1, none⟩) (by simp) _).setCell (p := ⟨w0.heap.size, 2, none⟩) (by simp) _).setCell (p := ⟨w0.heap.size, 3, none⟩) (by simp) _

set_option maxHeartbeats 2000000 in
theorem of_any (s : ByteArray) (hs : s.size ≤ 9223372036854775807) (w : World) :
    Calls Tryd.prog 90 #[.string s] w fun e w' => e = .returned (setV (ofL s.data.toList)) ∧ Below w.heap.size w w' := by
  have S0 := Lib.hid (S1.start w)
  have hlen : s.data.toList.length = s.size := by simp
  have hlen' := Lib.hid hlen
  clear hlen
  obtain ⟨G, hG⟩ : ∃ G, ofL s.data.toList = G := ⟨_, rfl⟩
  rw [hG]
  have hG' := Lib.hid hG
  clear hG
  go_enter Tryd.func90, Tryd.ntmps90
  go_wp2
  go_loopw [7] (fun i wr => ∃ k : Nat, k ≤ s.size ∧ i = .int .i64 k ∧ S1 w (ofL (s.data.toList.take k)) wr) (fun i _ => s.size - (intOf i).toNat)
  case atStart => exact ⟨0, by omega, rfl, S0.out⟩
  case round =>
    obtain ⟨k, hk, rfl, hS⟩ := hrel
    have HS := Lib.hid hS
    clear hS
    by_cases hlt : k < s.size
    · have hjl : k < s.data.toList.length := by rw [hlen'.out]; exact hlt
      have ht : s.data.toList.take (k + 1) = s.data.toList.take k ++ [s[k]] := by rw [List.take_succ_eq_append_getElem hjl]; rfl
      have hn := s[k].toNat_lt
      have hw := Lib.hid (with_any (ofL (s.data.toList.take k)) s[k].toNat hn)
      have hT := Lib.hid (congrArg ofL ht)
      rw [ofL_snoc] at hT
      clear ht
      generalize ofL (s.data.toList.take k) = f at *
      generalize (fun b => f b || b == s[k].toNat) = g at *
      have c0 := HS.out.c 0 (by omega); have f0 := HS.out.f 0
      have c1 := HS.out.c 1 (by omega); have f1 := HS.out.f 1
      have c2 := HS.out.c 2 (by omega); have f2 := HS.out.f 2
      have c3 := HS.out.c 3 (by omega); have f3 := HS.out.f 3
      have z1 := HS.out.lt
      go_wp2
      have S8 := HS
      go_region_with (go_at_call 102; refine (hw.out _).mono ?_; rintro _ w2 ⟨rfl, hb⟩; have HS2 := Lib.hid ((HS.out.drewN 1).below hb); have e0 := HS2.out.c 0 (by omega); have p0 := HS2.out.f 0; have e1 := HS2.out.c 1 (by omega); have p1 := HS2.out.f 1; have e2 := HS2.out.c 2 (by omega); have p2 := HS2.out.f 2; have e3 := HS2.out.c 3 (by omega); have p3 := HS2.out.f 3)
      all_goals
        (go_wp2
         go_roundw
         case rel => exact ⟨k + 1, by omega, by go_num, by rw [hT.out]; exact HS2.out.put g⟩
         case measure => simp [intOf]; omega)
    · obtain rfl : k = s.size := by omega
      rw [← hlen'.out, List.take_length, hG'.out] at HS
      have c0 := HS.out.c 0 (by omega); have d0 := HS.out.z 0 (by omega); have g0 := HS.out.zf 0
      have c1 := HS.out.c 1 (by omega); have d1 := HS.out.z 1 (by omega); have g1 := HS.out.zf 1
      have c2 := HS.out.c 2 (by omega); have d2 := HS.out.z 2 (by omega); have g2 := HS.out.zf 2
      have c3 := HS.out.c 3 (by omega); have d3 := HS.out.z 3 (by omega); have g3 := HS.out.zf 3
      have z1 := HS.out.lt
      have z0 : w.heap.size < wr.heap.size := by omega
      go_wp2
      refine bodyPost_ret (v := setV G) (results_cell_row rfl _ _ w.heap.size 24 (wc G) (0, 0) _ rfl HS.out.fin Tryd.underlying24 rfl (i24 G)) rfl ⟨rfl, ?_⟩
      exact HS.out.res _ _ _ _

theorem sub_wrap (a b : Nat) (ha : a < 256) (hb : b < 256) : (if a ≤ b then b + 1 - a else 0) ≤ 256 := by split <;> omega
set_option maxHeartbeats 2000000 in
theorem range_any (a b : Nat) (ha : a < 256) (hb : b < 256) (w : World) :
    Calls Tryd.prog 108 #[.int .u8 a, .int .u8 b] w fun e w' => e = .returned (setV (rangeF a (b + 1 - a))) ∧ Below w.heap.size w w' := by
  have S0 := Lib.hid (S1.start w)
  obtain ⟨G, hG⟩ : ∃ G, rangeF a (b + 1 - a) = G := ⟨_, rfl⟩
  rw [hG]
  have hG' := Lib.hid hG
  clear hG
  go_enter Tryd.func108, Tryd.ntmps108
  go_wp2
  go_loopw [13] (fun i wr => ∃ k : Nat, k ≤ b + 1 - a ∧ i = .int .i64 k ∧ S1 w (rangeF a k) wr) (fun i _ => b + 1 - a - (intOf i).toNat)
  case atStart => exact ⟨0, by omega, rfl, by rw [rangeF_zero]; exact S0.out⟩
  case round =>
    obtain ⟨k, hk, rfl, hS⟩ := hrel
    have HS := Lib.hid hS
    clear hS
    by_cases hlt : (k : Int) < (b : Int) - (a : Int) + 1
    · have hlt' : k < b + 1 - a := by omega
      have hw := Lib.hid (with_any (rangeF a k) (a + k) (by omega))
      have hT := Lib.hid (rangeF_succ a k)
      generalize rangeF a k = f at *
      generalize (fun b => f b || b == a + k) = g at *
      have c0 := HS.out.c 0 (by omega); have f0 := HS.out.f 0
      have c1 := HS.out.c 1 (by omega); have f1 := HS.out.f 1
      have c2 := HS.out.c 2 (by omega); have f2 := HS.out.f 2
      have c3 := HS.out.c 3 (by omega); have f3 := HS.out.f 3
      have z1 := HS.out.lt
      have hm : (k : Int) % 256 = k := by omega
      go_wp2_with fail
      refine (hw.out _).mono ?_
      rintro _ w2 ⟨rfl, hb2⟩
      have HS2 := Lib.hid (HS.out.below hb2)
      clear c0 c1 c2 c3 f0 f1 f2 f3 z1 hb2
      have c0 := HS2.out.c 0 (by omega); have f0 := HS2.out.f 0
      have c1 := HS2.out.c 1 (by omega); have f1 := HS2.out.f 1
      have c2 := HS2.out.c 2 (by omega); have f2 := HS2.out.f 2
      have c3 := HS2.out.c 3 (by omega); have f3 := HS2.out.f 3
      have z1 := HS2.out.lt
      go_wp2
      go_roundw
      case rel => exact ⟨k + 1, by omega, by go_num, by rw [hT.out]; exact HS2.out.put g⟩
      case measure => simp [intOf]; omega
    · obtain rfl : k = b + 1 - a := by omega
      rw [hG'.out] at HS
      have c0 := HS.out.c 0 (by omega); have d0 := HS.out.z 0 (by omega); have g0 := HS.out.zf 0
      have c1 := HS.out.c 1 (by omega); have d1 := HS.out.z 1 (by omega); have g1 := HS.out.zf 1
      have c2 := HS.out.c 2 (by omega); have d2 := HS.out.z 2 (by omega); have g2 := HS.out.zf 2
      have c3 := HS.out.c 3 (by omega); have d3 := HS.out.z 3 (by omega); have g3 := HS.out.zf 3
      have z1 := HS.out.lt
      have z0 : w.heap.size < wr.heap.size := by omega
      go_wp2
      refine bodyPost_ret (v := setV G) (results_cell_row rfl _ _ w.heap.size 24 (wc G) (0, 0) _ rfl HS.out.fin Tryd.underlying24 rfl (i24 G)) rfl ⟨rfl, ?_⟩
      exact HS.out.res _ _ _ _
end Go.Proofs.YtmjojahkbjlcdaaDoor
end
section
/- Contracts of Go's library that the walks of this seat call, laid at its numbers. -/
namespace Go.Proofs
open Go.Shelf
def Tryd.sren : Go.Shelf.Ren := ⟨fun | 166 => 50 | 167 => 53 | 169 => 41 | 170 => 40 | 240 => 69 | 276 => 88 | n => n, fun | 0 => 0 | 3 => 3 | 4 => 4 | 5 => 5 | 9 => 9 | 20 => 20 | 37 => 56 | 70 => 55 | 72 => 58 | 75 => 79 | 80 => 61 | 127 => 85 | 164 => 108 | n => n, fun | n => n⟩
theorem Tryd.lay_Lays_n167 : Go.Proofs.Lays.n167 Tryd.prog Tryd.sren := {
  mixed := by kernel_rfl
  f167 := Tryd.func53.trans (congrArg some (by kernel_rfl))
  f240 := Tryd.func69.trans (congrArg some (by kernel_rfl))
  f276 := Tryd.func88.trans (congrArg some (by kernel_rfl))
  t0 := Tryd.underlying0
  a0 := Tryd.isAgg0
  z0 := Tryd.sizeOf0
  v0 := Tryd.zeroValue0
  t4 := Tryd.underlying4
  a4 := Tryd.isAgg4
  z4 := Tryd.sizeOf4
  v4 := Tryd.zeroValue4
  t5 := Tryd.underlying5
  a5 := Tryd.isAgg5
  z5 := Tryd.sizeOf5
  v5 := Tryd.zeroValue5
  t9 := Tryd.underlying9
  a9 := Tryd.isAgg9
  z9 := Tryd.sizeOf9
  v9 := Tryd.zeroValue9
  t20 := Tryd.underlying20
  a20 := Tryd.isAgg20
  z20 := Tryd.sizeOf20
  v20 := Tryd.zeroValue20
  t37 := Tryd.underlying56
  a37 := Tryd.isAgg56
  z37 := Tryd.sizeOf56
  v37 := Tryd.zeroValue56
  t70 := Tryd.underlying55
  a70 := Tryd.isAgg55
  z70 := Tryd.sizeOf55
  v70 := Tryd.zeroValue55
  t72 := Tryd.underlying58
  a72 := Tryd.isAgg58
  z72 := Tryd.sizeOf58
  v72 := Tryd.zeroValue58
  t75 := Tryd.underlying79
  a75 := Tryd.isAgg79
  z75 := Tryd.sizeOf79
  v75 := Tryd.zeroValue79
  t164 := Tryd.underlying108
  a164 := Tryd.isAgg108
  z164 := Tryd.sizeOf108
  v164 := Tryd.zeroValue108 }
theorem Tryd.bExtra : Builder.Extra Tryd.prog Tryd.sren := {
  sizeBuilder := by kernel_rfl
  liesBuilder := by kernel_rfl
  t5 := Tryd.underlying5
  a5 := Tryd.isAgg5
  z5 := Tryd.sizeOf5
  v5 := Tryd.zeroValue5
  infoByte := by kernel_rfl
  cellsByte := by kernel_rfl
  sizeByte := by kernel_rfl
  neB5 := by decide }
open Go.RowKit in
theorem Tryd.Builder_WriteByte_k (B b : Nat) (bs : List Value) (c : Int) (w : World) (h : Lib.IsBuilderF 58 5 B b bs w) (hlen : bs.length + 1 ≤ 140737488355328) (hBw : B ≤ w.heap.size) :
    Calls Tryd.prog 53 #[.pointer (some ⟨b, 0, none⟩), .int .u8 c] w fun e w' => e = .returned .nilIface ∧ (Lib.BuilderAtF 58 5 B b (.pointer (some ⟨b, 0, none⟩)) (bs ++ [.int .u8 c]) w' ∧ Below B w w' ∧ Lib.OthersKept 5 (some b) w w') := Any.Builder_WriteByte_k Tryd.lay_Lays_n167 Tryd.bExtra B b bs c w h hlen hBw
theorem Tryd.lay_Lays_n166 : Go.Proofs.Lays.n166 Tryd.prog Tryd.sren := {
  mixed := by kernel_rfl
  f166 := Tryd.func50.trans (congrArg some (by kernel_rfl))
  f240 := Tryd.func69.trans (congrArg some (by kernel_rfl))
  f276 := Tryd.func88.trans (congrArg some (by kernel_rfl))
  t0 := Tryd.underlying0
  a0 := Tryd.isAgg0
  z0 := Tryd.sizeOf0
  v0 := Tryd.zeroValue0
  t3 := Tryd.underlying3
  a3 := Tryd.isAgg3
  z3 := Tryd.sizeOf3
  v3 := Tryd.zeroValue3
  t4 := Tryd.underlying4
  a4 := Tryd.isAgg4
  z4 := Tryd.sizeOf4
  v4 := Tryd.zeroValue4
  t9 := Tryd.underlying9
  a9 := Tryd.isAgg9
  z9 := Tryd.sizeOf9
  v9 := Tryd.zeroValue9
  t20 := Tryd.underlying20
  a20 := Tryd.isAgg20
  z20 := Tryd.sizeOf20
  v20 := Tryd.zeroValue20
  t37 := Tryd.underlying56
  a37 := Tryd.isAgg56
  z37 := Tryd.sizeOf56
  v37 := Tryd.zeroValue56
  t70 := Tryd.underlying55
  a70 := Tryd.isAgg55
  z70 := Tryd.sizeOf55
  v70 := Tryd.zeroValue55
  t72 := Tryd.underlying58
  a72 := Tryd.isAgg58
  z72 := Tryd.sizeOf58
  v72 := Tryd.zeroValue58
  t75 := Tryd.underlying79
  a75 := Tryd.isAgg79
  z75 := Tryd.sizeOf79
  v75 := Tryd.zeroValue79
  t164 := Tryd.underlying108
  a164 := Tryd.isAgg108
  z164 := Tryd.sizeOf108
  v164 := Tryd.zeroValue108 }
open Go.RowKit in
theorem Tryd.Builder_WriteString_k (B b : Nat) (bs : List Value) (s : ByteArray) (w : World) (h : Lib.IsBuilderF 58 5 B b bs w) (hlen : bs.length + s.size ≤ 140737488355328) (hBw : B ≤ w.heap.size) :
    Calls Tryd.prog 50 #[.pointer (some ⟨b, 0, none⟩), .string s] w fun e w' => e = .returned (.tuple #[.int .i64 s.size, .nilIface]) ∧ (Lib.BuilderAtF 58 5 B b (.pointer (some ⟨b, 0, none⟩)) (bs ++ Lib.strCells s) w' ∧ Below B w w' ∧ Lib.OthersKept 5 (some b) w w') := Any.Builder_WriteString_k Tryd.lay_Lays_n166 Tryd.bExtra B b bs s w h hlen hBw
theorem Tryd.lay_Lays_n169 : Go.Proofs.Lays.n169 Tryd.prog Tryd.sren := {
  mixed := by kernel_rfl
  f169 := Tryd.func41.trans (congrArg some (by kernel_rfl))
  t0 := Tryd.underlying0
  a0 := Tryd.isAgg0
  z0 := Tryd.sizeOf0
  v0 := Tryd.zeroValue0
  t3 := Tryd.underlying3
  a3 := Tryd.isAgg3
  z3 := Tryd.sizeOf3
  v3 := Tryd.zeroValue3
  t9 := Tryd.underlying9
  a9 := Tryd.isAgg9
  z9 := Tryd.sizeOf9
  v9 := Tryd.zeroValue9
  t37 := Tryd.underlying56
  a37 := Tryd.isAgg56
  z37 := Tryd.sizeOf56
  v37 := Tryd.zeroValue56
  t70 := Tryd.underlying55
  a70 := Tryd.isAgg55
  z70 := Tryd.sizeOf55
  v70 := Tryd.zeroValue55
  t72 := Tryd.underlying58
  a72 := Tryd.isAgg58
  z72 := Tryd.sizeOf58
  v72 := Tryd.zeroValue58
  t127 := Tryd.underlying85
  a127 := Tryd.isAgg85
  z127 := Tryd.sizeOf85
  v127 := Tryd.zeroValue85 }
open Go.RowKit in
theorem Tryd.Builder_String_any_k (B b : Nat) (l : List UInt8) (w : World) (h : Lib.IsBuilderF 58 5 B b (Lib.byteCells l) w) (hBw : B ≤ w.heap.size) :
    Calls Tryd.prog 41 #[.pointer (some ⟨b, 0, none⟩)] w fun e w' => e = .returned (.string ⟨l.toArray⟩) ∧ (Lib.IsBuilderF 58 5 B b (Lib.byteCells l) w' ∧ Below B w w' ∧ Lib.OthersKept 5 (some b) w w') := Any.Builder_String_any_k Tryd.lay_Lays_n169 Tryd.bExtra B b l w h hBw
end Go.Proofs
end
section
/- What lies in the blocks that a call has made: kept by whatever makes memory, by a store into another block, by a builder's writes. -/
namespace Go.Proofs.YtmjojahkbjlcdaaDoor
set_option linter.unusedSimpArgs false
set_option linter.unusedVariables false
set_option maxRecDepth 100000
open Go.RowKit

def Sb (w0 w : World) (L : List (Nat × Obj)) : Prop := Below w0.heap.size w0 w ∧ ∀ c ∈ L, w0.heap.size ≤ c.1 ∧ w.heap[c.1]? = some c.2
variable {w0 w w' : World} {L M : List (Nat × Obj)}
theorem Sb.start (w : World) : Sb w w [] := ⟨Below.refl _ _, by simp⟩
theorem Sb.up (h : Sb w0 w L) (hb : Below w.heap.size w w') : Sb w0 w' L :=
  ⟨h.1.trans (hb.mono h.1.size), fun c hc => ⟨(h.2 c hc).1, (hb.block _ (Array.getElem?_eq_some_iff.1 (h.2 c hc).2).1).trans (h.2 c hc).2⟩⟩
theorem Sb.drewN (h : Sb w0 w L) (n : Nat) : Sb w0 (w.drewN n) L := ⟨below_drewN h.1 n, h.2⟩
theorem Sb.drew (h : Sb w0 w L) : Sb w0 w.drew L := h.drewN 1
theorem Sb.alloc (h : Sb w0 w L) (o : Obj) : Sb w0 (w.alloc o) ((w.heap.size, o) :: L) := by
  have h1 : Sb w0 (w.alloc o) L := h.up ((Below.refl _ _).alloc (Nat.le_refl _) _)
  refine ⟨h1.1, fun c hc => ?_⟩
  rcases List.mem_cons.1 hc with rfl | hc
  · exact ⟨h.1.size, heap_alloc_last w o⟩
  · exact h1.2 c hc
theorem Sb.sub (h : Sb w0 w L) (hs : ∀ c ∈ M, c ∈ L) : Sb w0 w M := ⟨h.1, fun c hc => h.2 c (hs c hc)⟩
theorem Sb.set {b i : Nat} {cs : Array Value} {t : TypeId} (h : Sb w0 w ((b, .cells cs t (0, 0)) :: L)) (v : Value) (hne : ∀ c ∈ L, c.1 ≠ b) :
    Sb w0 (w.setCell ⟨b, i, none⟩ v) ((b, .cells (cs.setIfInBounds i v) t (0, 0)) :: L) := by
  have hb := h.2 _ (List.mem_cons_self ..)
  refine ⟨h.1.setCell (p := ⟨b, i, none⟩) hb.1 _, fun c hc => ?_⟩
  rcases List.mem_cons.1 hc with rfl | hc
  · exact ⟨hb.1, heap_setCell_same w b i cs t v hb.2⟩
  · exact ⟨(h.2 c (List.mem_cons_of_mem _ hc)).1, (heap_setCell_other w _ c.1 v (hne c hc)).trans (h.2 c (List.mem_cons_of_mem _ hc)).2⟩
theorem Sb.setRow {b : Nat} {cs cs' : Array Value} {t : TypeId} (h : Sb w0 w ((b, .cells cs t (0, 0)) :: L)) (hne : ∀ c ∈ L, c.1 ≠ b) :
    Sb w0 (w.setRow b cs') ((b, .cells cs' t (0, 0)) :: L) := by
  have hb := h.2 _ (List.mem_cons_self ..)
  refine ⟨⟨h.1.os, h.1.tape, h.1.output, by simpa using h.1.size, fun k hk => (setRow_other w b k cs' (by omega)).trans (h.1.block k hk)⟩, fun c hc => ?_⟩
  rcases List.mem_cons.1 hc with rfl | hc
  · exact ⟨hb.1, setRow_heap w b cs cs' t (0, 0) hb.2⟩
  · exact ⟨(h.2 c (List.mem_cons_of_mem _ hc)).1, (setRow_other w b c.1 cs' (hne c hc)).trans (h.2 c (List.mem_cons_of_mem _ hc)).2⟩
/-- A builder's write: rows of other types, in other blocks than its own, are kept. -/
theorem Sb.others {b : Nat} (h : Sb w0 w L) (hb : Below w0.heap.size w w') (ho : Lib.OthersKept 5 (some b) w w') (hne : ∀ c ∈ L, c.1 ≠ b ∧ ∀ cs fz, c.2 ≠ .cells cs 5 fz) : Sb w0 w' L :=
  ⟨h.1.trans hb, fun c hc => ⟨(h.2 c hc).1, ho c.1 c.2 (h.2 c hc).2 (fun e => (hne c hc).1 (Option.some.inj e)) (hne c hc).2⟩⟩
theorem Sb.heap {b : Nat} {o : Obj} (h : Sb w0 w ((b, o) :: L)) : w.heap[b]? = some o := (h.2 _ (List.mem_cons_self ..)).2
theorem Sb.lt {b : Nat} {o : Obj} (h : Sb w0 w ((b, o) :: L)) : b < w.heap.size := (Array.getElem?_eq_some_iff.1 h.heap).1
theorem Sb.tl {c : Nat × Obj} (h : Sb w0 w (c :: L)) : Sb w0 w L := h.sub fun x hx => List.mem_cons_of_mem _ hx
theorem Sb.cell {b : Nat} {cs : Array Value} {t : TypeId} {fr : Nat × Nat} (h : Sb w0 w ((b, .cells cs t fr) :: L)) (j : Nat) : w.cell? ⟨b, j, none⟩ = cs[j]? := cell_of_row w b j cs t fr h.heap
theorem Sb.free {b : Nat} {cs : Array Value} {t : TypeId} (h : Sb w0 w ((b, .cells cs t (0, 0)) :: L)) (j : Nat) : w.frozen? ⟨b, j, none⟩ = false := frozen_of_row w b j cs t h.heap
theorem Sb.flag {b : Nat} {f : Nat → Bool} {t : TypeId} {fr : Nat × Nat} (h : Sb w0 w ((b, .cells (fl f) t fr) :: L)) (j : Nat) (hj : j < 256) : w.cell? ⟨b, j, none⟩ = some (.bool (f j)) := (h.cell j).trans (fl_get f j hj)
theorem Sb.word {b : Nat} {f : Nat → Bool} {t : TypeId} {fr : Nat × Nat} (h : Sb w0 w ((b, .cells (wc f) t fr) :: L)) (j : Nat) (hj : j < 4) : w.cell? ⟨b, j, none⟩ = some (.int .u64 (W f j)) := by
  rw [h.cell j]; rcases (by omega : j = 0 ∨ j = 1 ∨ j = 2 ∨ j = 3) with rfl | rfl | rfl | rfl <;> rfl

theorem info27 : (Tryd.prog.info? 94).map (fun i => (i.zero, i.size)) = some (some (.agg (fl fun _ => false)), 256) := by kernel_rfl
theorem zero27 (w : World) : (zeroValue 94).run Tryd.prog w = .ok (.agg (fl fun _ => false)) w := (zero_of_info info27).1 w
theorem size27 : (Tryd.prog.info? 94).map (·.size) = some 256 := (zero_of_info info27).2
theorem fsize27 (f : Nat → Bool) : (Tryd.prog.info? 94).map (·.size) = some (fl f).size := by rw [fl_size]; exact size27
end Go.Proofs.YtmjojahkbjlcdaaDoor
end
section
/- Classes: how a byte is written, a set's stretches and their text; what a text says. No program, no world. -/
namespace Go.Proofs.YtmjojahkbjlcdaaDoor
set_option linter.unusedSimpArgs false
set_option linter.unusedVariables false
set_option maxRecDepth 100000

/-- One of the five signs. -/
def sp (c : UInt8) : Bool := c == 92 || c == 91 || c == 93 || c == 94 || c == 45
/-- How a byte is written. -/
def wr (c : UInt8) : List UInt8 := if c = 10 then [92, 110] else if c = 9 then [92, 116] else if c = 13 then [92, 114] else if sp c then [92, c] else [c]
theorem wr_len (c : UInt8) : 1 ≤ (wr c).length ∧ (wr c).length ≤ 2 := by
  unfold wr
  by_cases h1 : c = 10
  · rw [if_pos h1]; simp
  · by_cases h2 : c = 9
    · rw [if_neg h1, if_pos h2]; simp
    · by_cases h3 : c = 13
      · rw [if_neg h1, if_neg h2, if_pos h3]; simp
      · by_cases h4 : sp c = true
        · rw [if_neg h1, if_neg h2, if_neg h3, if_pos h4]; simp
        · rw [if_neg h1, if_neg h2, if_neg h3, if_neg h4]; simp
/-- How the number k is written. -/
def wn (k : Nat) : List UInt8 := wr (UInt8.ofNat k)
theorem wn_len (k : Nat) : 1 ≤ (wn k).length ∧ (wn k).length ≤ 2 := wr_len _

/-- The last stretch goes on up to k. -/
def bump : List (Nat × Nat) → Nat → List (Nat × Nat)
  | [], _ => []
  | [(a, _)], k => [(a, k)]
  | x :: y :: r, k => x :: bump (y :: r) k
theorem bump_snoc : ∀ (R : List (Nat × Nat)) (a b k : Nat), bump (R ++ [(a, b)]) k = R ++ [(a, k)]
  | [], a, b, k => rfl
  | [x], a, b, k => rfl
  | x :: y :: r, a, b, k => by
    have := bump_snoc (y :: r) a b k
    simp only [List.cons_append] at this ⊢
    simp only [bump]
    rw [this]
/-- The stretches of the numbers below k that are in f. -/
def runsF (f : Nat → Bool) : Nat → List (Nat × Nat)
  | 0 => []
  | k + 1 => if f k then (if decide (0 < k) && f (k - 1) then bump (runsF f k) k else runsF f k ++ [(k, k)]) else runsF f k
theorem runs_no (f : Nat → Bool) (k : Nat) (h : f k = false) : runsF f (k + 1) = runsF f k := by simp [runsF, h]
theorem runs_new (f : Nat → Bool) (k : Nat) (h : f k = true) (h' : k = 0 ∨ f (k - 1) = false) : runsF f (k + 1) = runsF f k ++ [(k, k)] := by
  rcases h' with rfl | h'
  · simp [runsF, h]
  · simp [runsF, h, h']
theorem runs_last (f : Nat → Bool) : ∀ k, 0 < k → f (k - 1) = true → ∃ R a, runsF f k = R ++ [(a, k - 1)] ∧ a ≤ k - 1
  | 0, h, _ => absurd h (by omega)
  | k + 1, _, h => by
    simp only [Nat.add_sub_cancel] at h ⊢
    by_cases hp : 0 < k ∧ f (k - 1) = true
    · obtain ⟨R, a, hR, ha⟩ := runs_last f k hp.1 hp.2
      refine ⟨R, a, ?_, by omega⟩
      simp only [runsF, h, hp.1, hp.2, decide_true, Bool.and_self, if_true]
      rw [hR, bump_snoc]
    · refine ⟨runsF f k, k, runs_new f k h ?_, Nat.le_refl _⟩
      by_cases hk : k = 0
      · exact .inl hk
      · right
        cases hv : f (k - 1)
        · rfl
        · exact absurd ⟨by omega, hv⟩ hp
theorem runs_on (f : Nat → Bool) (k : Nat) (h0 : 0 < k) (h : f k = true) (h' : f (k - 1) = true) (R : List (Nat × Nat)) (a : Nat) (hR : runsF f k = R ++ [(a, k - 1)]) : runsF f (k + 1) = R ++ [(a, k)] := by
  simp only [runsF, h, h0, h', decide_true, Bool.and_self, if_true]
  rw [hR, bump_snoc]
theorem runs_count (f : Nat → Bool) : ∀ k, (runsF f k).length ≤ k
  | 0 => by simp [runsF]
  | k + 1 => by
    have ih := runs_count f k
    cases h : f k
    · rw [runs_no f k h]; omega
    · by_cases hp : 0 < k ∧ f (k - 1) = true
      · obtain ⟨R, a, hR, ha⟩ := runs_last f k hp.1 hp.2
        rw [runs_on f k hp.1 h hp.2 R a hR]; rw [hR] at ih; simp at ih ⊢; omega
      · rw [runs_new f k h (by by_cases hk : k = 0; exact .inl hk; right; cases hv : f (k - 1); rfl; exact absurd ⟨by omega, hv⟩ hp)]
        simp; omega
/-- Each stretch lies below k; a number is in f just if it lies in one. -/
theorem runs_le (f : Nat → Bool) : ∀ k, ∀ x ∈ runsF f k, x.1 ≤ x.2 ∧ x.2 < k
  | 0 => by simp [runsF]
  | k + 1 => by
    have ih := runs_le f k
    intro x hx
    cases h : f k
    · rw [runs_no f k h] at hx; have := ih x hx; omega
    · by_cases hp : 0 < k ∧ f (k - 1) = true
      · obtain ⟨R, a, hR, ha⟩ := runs_last f k hp.1 hp.2
        rw [runs_on f k hp.1 h hp.2 R a hR] at hx
        rcases List.mem_append.1 hx with hx | hx
        · have := ih x (by rw [hR]; exact List.mem_append_left _ hx); omega
        · simp at hx; subst hx; simp; omega
      · rw [runs_new f k h (by by_cases hk : k = 0; exact .inl hk; right; cases hv : f (k - 1); rfl; exact absurd ⟨by omega, hv⟩ hp)] at hx
        rcases List.mem_append.1 hx with hx | hx
        · have := ih x hx; omega
        · simp at hx; subst hx; simp
def inR (R : List (Nat × Nat)) (n : Nat) : Bool := R.any fun x => decide (x.1 ≤ n) && decide (n ≤ x.2)
theorem inR_app (R S : List (Nat × Nat)) (n : Nat) : inR (R ++ S) n = (inR R n || inR S n) := by simp [inR]
theorem inR_one (a b n : Nat) : inR [(a, b)] n = (decide (a ≤ n) && decide (n ≤ b)) := by simp [inR]
theorem runs_in (f : Nat → Bool) : ∀ k n, inR (runsF f k) n = (decide (n < k) && f n)
  | 0, n => by simp [runsF, inR]
  | k + 1, n => by
    have ih := runs_in f k n
    cases h : f k
    · rw [runs_no f k h, ih]
      by_cases hn : n = k
      · subst hn; simp [h]
      · by_cases hl : n < k
        · simp [hl, show n < k + 1 by omega]
        · simp [hl, show ¬ n < k + 1 by omega]
    · by_cases hp : 0 < k ∧ f (k - 1) = true
      · obtain ⟨R, a, hR, ha⟩ := runs_last f k hp.1 hp.2
        rw [runs_on f k hp.1 h hp.2 R a hR, inR_app, inR_one]
        rw [hR, inR_app, inR_one] at ih
        by_cases hn : n = k
        · subst hn; simp [h]; right; omega
        · by_cases hl : n < k
          · rw [show decide (n < k) = true by simpa using hl] at ih
            rw [show decide (n < k + 1) = true by simp; omega]
            rw [show decide (n ≤ k) = decide (n ≤ k - 1) by rw [decide_eq_decide]; omega]
            exact ih
          · rw [show decide (n < k) = false by simpa using hl] at ih
            rw [show decide (n < k + 1) = false by simp; omega]
            rw [show decide (n ≤ k) = decide (n ≤ k - 1) by rw [decide_eq_decide]; omega]
            simpa using ih
      · rw [runs_new f k h (by by_cases hk : k = 0; exact .inl hk; right; cases hv : f (k - 1); rfl; exact absurd ⟨by omega, hv⟩ hp), inR_app, inR_one, ih]
        by_cases hn : n = k
        · subst hn; simp [h]
        · by_cases hl : n < k
          · simp [hl, show n < k + 1 by omega]
            intro h1 h2; omega
          · simp [hl, show ¬ n < k + 1 by omega]
            omega

/-- The text of a stretch. -/
def rt (x : Nat × Nat) : List UInt8 := if x.1 = x.2 then wn x.1 else if x.2 - x.1 = 1 then wn x.1 ++ wn x.2 else wn x.1 ++ [45] ++ wn x.2
def txt : List (Nat × Nat) → List UInt8
  | [] => []
  | x :: r => rt x ++ txt r
theorem txt_app : ∀ R S, txt (R ++ S) = txt R ++ txt S
  | [], S => rfl
  | x :: r, S => by simp only [List.cons_append, txt, txt_app r S, List.append_assoc]
theorem txt_one (x : Nat × Nat) : txt [x] = rt x := by simp [txt]
theorem txt_len (f : Nat → Bool) : ∀ k, (txt (runsF f k)).length ≤ 2 * cntF f k
  | 0 => by simp [runsF, txt]
  | k + 1 => by
    have ih := txt_len f k
    have hw := wn_len k
    cases h : f k
    · rw [runs_no f k h]; simp [cntF, h]; exact ih
    · by_cases hp : 0 < k ∧ f (k - 1) = true
      · obtain ⟨R, a, hR, ha⟩ := runs_last f k hp.1 hp.2
        have hw' := wn_len (k - 1)
        rw [runs_on f k hp.1 h hp.2 R a hR, txt_app, txt_one]
        rw [hR, txt_app, txt_one] at ih
        simp only [cntF, h, Bool.toNat_true]
        simp only [List.length_append] at ih ⊢
        have key : (rt (a, k)).length ≤ (rt (a, k - 1)).length + 2 := by
          unfold rt
          simp only
          by_cases h1 : a = k - 1
          · subst h1
            rw [if_neg (by omega), if_pos (by omega), if_pos rfl]
            simp; omega
          · by_cases h2 : k - 1 - a = 1
            · rw [if_neg (by omega), if_neg (by omega), if_neg h1, if_pos h2]
              simp; omega
            · rw [if_neg (by omega), if_neg (by omega), if_neg h1, if_neg h2]
              simp; omega
        omega
      · rw [runs_new f k h (by by_cases hk : k = 0; exact .inl hk; right; cases hv : f (k - 1); rfl; exact absurd ⟨by omega, hv⟩ hp), txt_app, txt_one]
        simp only [cntF, h, Bool.toNat_true]
        simp [rt]; omega

/-- A set's class. -/
def pr (f : Nat → Bool) : List UInt8 := if 128 < cntF f 256 then [91, 94] ++ txt (runsF (fun b => !f b) 256) ++ [93] else [91] ++ txt (runsF f 256) ++ [93]
theorem pr_len (f : Nat → Bool) : (pr f).length ≤ 259 := by
  unfold pr
  have h1 := txt_len f 256
  have h2 := txt_len (fun b => !f b) 256
  have h3 := cnt_not f 256
  split
  · simp; omega
  · simp; omega

/-! ## Reading. -/
/-- What a backslash and a byte behind it write. -/
def mt (d : UInt8) : Option UInt8 := if d = 110 then some 10 else if d = 116 then some 9 else if d = 114 then some 13 else if sp d then some d else none
/-- A byte as a class writes it. -/
def one : List UInt8 → Option (UInt8 × List UInt8)
  | [] => none
  | c :: r => if c = 92 then (match r with
      | [] => none
      | d :: q => (mt d).map fun x => (x, q))
    else if sp c then none else some (c, r)
def itm (l : List UInt8) : Option (UInt8 × UInt8 × List UInt8) :=
  match one l with
  | none => none
  | some (a, []) => some (a, a, [])
  | some (a, d :: q) => if d = 45 then (match one q with
      | none => none
      | some (b, t) => if a ≤ b then some (a, b, t) else none)
    else some (a, a, d :: q)
theorem one_len (l : List UInt8) (c : UInt8) (r : List UInt8) (h : one l = some (c, r)) : ∃ n, (n = 1 ∨ n = 2) ∧ n ≤ l.length ∧ r = l.drop n := by
  cases l with
  | nil => simp [one] at h
  | cons x q =>
    simp only [one] at h
    split at h
    · cases q with
      | nil => simp at h
      | cons d q =>
        simp only [Option.map_eq_some_iff] at h
        obtain ⟨y, hy, he⟩ := h
        simp at he
        exact ⟨2, .inr rfl, by simp, by rw [← he.2]; rfl⟩
    · split at h
      · simp at h
      · simp at h
        exact ⟨1, .inl rfl, by simp, by rw [← h.2]; rfl⟩
theorem itm_len (l : List UInt8) (a b : UInt8) (r : List UInt8) (h : itm l = some (a, b, r)) : r.length < l.length := by
  unfold itm at h
  split at h
  · simp at h
  · rename_i a' h1
    obtain ⟨n, hn, hl, hr⟩ := one_len _ _ _ h1
    simp at h
    rw [h.2.2]
    simp; omega
  · rename_i a' d q h1
    obtain ⟨n, hn, hl, hr⟩ := one_len _ _ _ h1
    have hq : (d :: q).length = l.length - n := by rw [hr]; simp
    simp at hq
    split at h
    · split at h
      · simp at h
      · rename_i b' t h2
        obtain ⟨m, hm, hl2, hr2⟩ := one_len _ _ _ h2
        split at h
        · simp at h
          rw [← h.2.2, hr2]
          simp; omega
        · simp at h
    · simp at h
      rw [← h.2.2]
      simp; omega

def orF (f g : Nat → Bool) (n : Nat) : Bool := f n || g n
/-- The items up to the closing sign; what they say, and the rest. -/
def body : Nat → List UInt8 → (Nat → Bool) → Option ((Nat → Bool) × List UInt8)
  | 0, _, _ => none
  | n + 1, l, f => match l with
    | [] => none
    | c :: r => if c = 93 then some (f, r) else match itm (c :: r) with
      | none => none
      | some (a, b, q) => body n q (orF f (rangeG a b))
where rangeG (a b : UInt8) (n : Nat) : Bool := decide (a.toNat ≤ n) && decide (n < a.toNat + (b.toNat + 1 - a.toNat))
theorem body_fuel : ∀ (n m : Nat) (l : List UInt8) (f : Nat → Bool), l.length < n → n ≤ m → body n l f = body m l f
  | 0, _, _, _, h, _ => absurd h (by omega)
  | n + 1, m, l, f, h, hm => by
    obtain ⟨m', rfl⟩ : ∃ m', m = m' + 1 := ⟨m - 1, by omega⟩
    cases l with
    | nil => rfl
    | cons c r =>
      simp only [body]
      split
      · rfl
      · split
        · rfl
        · rename_i a b q hq
          have := itm_len _ _ _ _ hq
          exact body_fuel n m' q _ (by simp at this h; omega) (by omega)
/-- What follows up to the closing sign, of what was said so far. -/
def bd (l : List UInt8) (f : Nat → Bool) : Option ((Nat → Bool) × List UInt8) := body (l.length + 1) l f
theorem bd_nil (f : Nat → Bool) : bd [] f = none := rfl
theorem bd_end (r : List UInt8) (f : Nat → Bool) : bd (93 :: r) f = some (f, r) := by simp [bd, body]
theorem bd_item (c : UInt8) (r : List UInt8) (f : Nat → Bool) (hc : c ≠ 93) (a b : UInt8) (q : List UInt8) (h : itm (c :: r) = some (a, b, q)) : bd (c :: r) f = bd q (orF f (body.rangeG a b)) := by
  have hl := itm_len _ _ _ _ h
  have e : body ((c :: r).length + 1) (c :: r) f = body (c :: r).length q (orF f (body.rangeG a b)) := by
    show body ((c :: r).length + 1) (c :: r) f = _
    simp only [body, hc, if_false, h]
  unfold bd
  rw [e]
  exact (body_fuel _ _ _ _ (by omega) (by omega)).symm
theorem bd_bad (c : UInt8) (r : List UInt8) (f : Nat → Bool) (hc : c ≠ 93) (h : itm (c :: r) = none) : bd (c :: r) f = none := by
  unfold bd; simp only [body, hc, if_false, h]
def noF (f : Nat → Bool) (n : Nat) : Bool := !f n
/-- What a class that begins here says, and what stands behind it. -/
def cls (l : List UInt8) : Option ((Nat → Bool) × List UInt8) :=
  match l with
  | [] => none
  | c :: r => if c = 91 then (match r with
      | [] => none
      | d :: q => if d = 94 then (bd q fun _ => false).map fun x => (noF x.1, x.2) else bd (d :: q) fun _ => false)
    else none
/-- What a text says. -/
def ps (l : List UInt8) : Option (Nat → Bool) := match cls l with
  | some (f, []) => some f
  | _ => none
end Go.Proofs.YtmjojahkbjlcdaaDoor
end
