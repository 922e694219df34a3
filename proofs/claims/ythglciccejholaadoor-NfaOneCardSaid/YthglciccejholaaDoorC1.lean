/- Package nfa. -/
import Derived.Test.YthglciccejholaaDoorProg
import Derived.Test.YthglciccejholaaDoorRg
import Derived.RangeFuncNested
import Derived.RangeFuncBound
import Derived.RangeFuncCalls
import Derived.RangeFuncLeaves
import Derived.RangeFuncBox
import Derived.Shelf.Abstract
import Derived.Shelf.RegionOpen
import Derived.WalkKit
import Derived.OwnWalkIn
import Derived.TacticsInMore
import Derived.LoopNIn
import Derived.LoopIn
import Derived.Below
import Derived.Lib.Hide
import Derived.Lib.Walk
namespace Go.Proofs.YthglciccejholaaDoor
set_option linter.unusedSimpArgs false
set_option linter.unusedVariables false
set_option maxRecDepth 100000
open Go.RowKit Go.Shelf
/- slices.Backward over a slice of patterns. -/
attribute [local go_sem] Oper.semAt_some
/-- What has come when k rounds are over: the last one first. -/
def downto (n k : Nat) : List Nat := (List.range k).map fun j => n - 1 - j
theorem downto_succ (n k : Nat) : downto n (k + 1) = downto n k ++ [n - 1 - k] := by simp [downto, List.range_succ]
theorem downto_len (n k : Nat) : (downto n k).length = k := by simp [downto]
/-- Blocks that a round keeps. -/
def KpL (b1 b2 : Nat) (W W' : World) : Prop := W'.heap[b1]? = W.heap[b1]? ∧ W'.heap[b2]? = W.heap[b2]?
theorem KpL.cell1 {b1 b2 o : Nat} {W W' : World} (h : KpL b1 b2 W W') : W'.cell? ⟨b1, o, none⟩ = W.cell? ⟨b1, o, none⟩ := cell_same h.1 o
theorem KpL.cell2 {b1 b2 o : Nat} {W W' : World} (h : KpL b1 b2 W W') : W'.cell? ⟨b2, o, none⟩ = W.cell? ⟨b2, o, none⟩ := cell_same h.2 o
theorem kpL_t {b1 b2 : Nat} {A B C : World} (h : KpL b1 b2 A B) (k : KpL b1 b2 B C) : KpL b1 b2 A C := ⟨k.1.trans h.1, k.2.trans h.2⟩
theorem kpL_b {b1 b2 : Nat} {w : World} (h1 : b1 < w.heap.size) (h2 : b2 < w.heap.size) (W : World) (l : Nat) (o o' : Obj) (hl : w.heap.size ≤ l) (_ : W.heap[l]? = some o) (_ : o.isCells = false) (_ : o.isWalk = false) : KpL b1 b2 W (W.putObj l o') :=
  ⟨World.putObj_heap_other (by omega), World.putObj_heap_other (by omega)⟩
set_option maxHeartbeats 4000000 in
theorem backward1_in (F : Fence) (n : Nat) (h67 : F.fn 110) (hro : F.round = none) (hn : 1 ≤ n) (l Bs b off len cap : Nat) (hlen : len ≤ 1000000000) (k : Nat → Int) (u : Nat → Nat → Int) (sv : Nat → Option Addr × Nat × Nat) (J Jx : List Nat → World → Prop)
    (hY : ∀ pre (x : Nat) W, J pre W → pre.length < len → YieldAt F (n - 1) Tryd.prog l #[.int .i64 (x : Int), .agg (nodeC (k x) (u x) (.slice (sv x).1 (sv x).2.1 (sv x).2.2))] W fun e W' =>
      (e = .returned (.bool true) ∧ J (pre ++ [x]) W' ∧ KpL Bs b W W') ∨ (e = .returned (.bool false) ∧ Jx (pre ++ [x]) W'))
    (W : World) (hBs : W.cell? ⟨Bs, 0, none⟩ = some (.slice (some ⟨b, off, none⟩) len cap)) (hc : ∀ i, i < len → ∀ j y, (nodeC (k i) (u i) (.slice (sv i).1 (sv i).2.1 (sv i).2.2))[j]? = some y → W.cell? ⟨b, off + i * 6 + j, none⟩ = some y) (h0 : J [] W) :
    CallsIn F n Tryd.prog 110 #[.func (.yield l) #[] #[], .pointer (some ⟨Bs, 0, none⟩)] W fun e W' => (∃ v, e = .returned v) ∧
      ((∃ ys, ys = downto len len ∧ J ys W') ∨ (∃ pre, True ∧ Jx pre W')) := by
  refine callsIn_of_wp Tryd.func110 rfl h67 ?_ hro
  simp only [Tryd.ntmps110, List.size_toArray, List.length_cons, List.length_nil, Nat.reduceAdd, Nat.reduceSub, Array.replicate_succ, Array.replicate_zero, List.push_toArray, List.append_toArray, List.nil_append, List.cons_append]
  gi_wp2
  gi_loopw [3] (fun i wr => ∃ (q : Nat), q ≤ len ∧ i = .int .i64 ((len : Int) - 1 - (q : Nat)) ∧ J (downto len q) wr ∧ KpL Bs b W wr)
    (fun i _ => ((intOf i) + 1).toNat)
  case atStart => exact ⟨0, Nat.zero_le _, by simp, h0, rfl, rfl⟩
  case round =>
    obtain ⟨q, hq, rfl, hJs, hkp⟩ := hrel
    have hBs' : wr.cell? ⟨Bs, 0, none⟩ = some (.slice (some ⟨b, off, none⟩) len cap) := hkp.cell1.trans hBs
    by_cases hlt : q < len
    · have hge : 0 ≤ (len : Int) - 1 - (q : Int) := by omega
      obtain ⟨m, hm⟩ : ∃ m : Nat, (len : Int) - 1 - (q : Int) = (m : Int) := ⟨((len : Int) - 1 - (q : Int)).toNat, by omega⟩
      have hml : m < len := by omega
      have hmq : len - 1 - q = m := by omega
      obtain ⟨fn, tmps, assign, body, hy, hR⟩ := hY _ m wr hJs (by rw [downto_len]; exact hlt)
      have hcx : ∀ j y, (nodeC (k m) (u m) (.slice (sv m).1 (sv m).2.1 (sv m).2.2))[j]? = some y → wr.cell? ⟨b, off + m * 6 + j, none⟩ = some y := fun j y h => hkp.cell2.trans (hc m hml j y h)
      have d0 : wr.cell? ⟨b, off + m * 6, none⟩ = some (.int .i64 (k m)) := hcx 0 _ rfl
      have d1 : wr.cell? ⟨b, off + m * 6 + 1, none⟩ = some (.int .u64 (u m 0)) := hcx 1 _ rfl
      have d2 : wr.cell? ⟨b, off + m * 6 + 2, none⟩ = some (.int .u64 (u m 1)) := hcx 2 _ rfl
      have d3 : wr.cell? ⟨b, off + m * 6 + 3, none⟩ = some (.int .u64 (u m 2)) := hcx 3 _ rfl
      have d4 : wr.cell? ⟨b, off + m * 6 + 4, none⟩ = some (.int .u64 (u m 3)) := hcx 4 _ rfl
      have d5 : wr.cell? ⟨b, off + m * 6 + 5, none⟩ = some (.slice (sv m).1 (sv m).2.1 (sv m).2.2) := hcx 5 _ rfl
      unfold nodeC at hy
      rw [hm]
      have hmI : ¬ (m : Int) < 0 := by omega
      have hmI2 : (m : Int) < (len : Int) := by omega
      have hds : downto len (q + 1) = downto len q ++ [m] := by rw [downto_succ, hmq]
      clear hcx
      gi_wp2
      refine hR.mono ?_
      rintro e W3 (⟨rfl, hJ3, hk3⟩ | ⟨rfl, hJx3⟩)
      · gi_wp2
        go_roundw
        case rel => exact ⟨q + 1, by omega, vint5 (by omega), by rw [hds]; exact hJ3, kpL_t hkp hk3⟩
        case measure => first | (simp [intOf]; done) | (simp [intOf]; omega)
      · gi_wp2
        refine bodyPost_ret (results_none rfl _ _ _) rfl ?_
        exact ⟨⟨_, rfl⟩, .inr (by first | exact ⟨_, trivial, hJx3⟩ | exact ⟨_, hJx3⟩)⟩
    · obtain rfl : q = len := by omega
      have hI : ¬ 0 ≤ (q : Int) - 1 - (q : Int) := by omega
      gi_wp2
      go_end0
      exact ⟨⟨_, rfl⟩, .inl (by first | exact hJs | exact ⟨_, rfl, hJs⟩)⟩
set_option maxHeartbeats 1000000 in
theorem backward_any (a : Option Addr) (len cap : Nat) (w : World) :
    Calls Tryd.prog 77 #[.slice a len cap] w fun e w' => e = .returned (.func (.func 110) #[] #[.pointer (some ⟨w.heap.size, 0, none⟩)]) ∧ w' = w.alloc (.cells #[.slice a len cap] 25) := by
  refine (callsIn_wide (n := 1)).1 ?_
  refine callsIn_of_wp Tryd.func77 rfl trivial ?_ rfl
  simp only [Tryd.ntmps77, List.size_toArray, List.length_cons, List.length_nil, Nat.reduceAdd, Nat.reduceSub, Array.replicate_succ, Array.replicate_zero, List.push_toArray, List.append_toArray, List.nil_append, List.cons_append]
  gi_wp2
  go_ret
  exact ⟨rfl, rfl⟩
theorem backward_stops (F : Fence) (n : Nat) (h67 : F.fn 110) (hro : F.round = none) (hn : 1 ≤ n) (Bs b off len cap : Nat) (hlen : len ≤ 1000000000) (k : Nat → Int) (u : Nat → Nat → Int) (sv : Nat → Option Addr × Nat × Nat) (w : World) (h1 : Bs < w.heap.size) (h2 : b < w.heap.size)
    (hBs : w.cell? ⟨Bs, 0, none⟩ = some (.slice (some ⟨b, off, none⟩) len cap)) (hc : ∀ i, i < len → ∀ j y, (nodeC (k i) (u i) (.slice (sv i).1 (sv i).2.1 (sv i).2.2))[j]? = some y → w.cell? ⟨b, off + i * 6 + j, none⟩ = some y) :
    SeqStopsK F n Tryd.prog 110 #[.pointer (some ⟨Bs, 0, none⟩)] (fun x : Nat => #[Value.int .i64 (x : Int), .agg (nodeC (k x) (u x) (.slice (sv x).1 (sv x).2.1 (sv x).2.2))]) (KpL Bs b) (fun ys => ys = downto len len) (fun _ => True) len w := fun l J Jx W hW _ _ hY h0 =>
  backward1_in F n h67 hro hn l Bs b off len cap hlen k u sv J Jx hY W ((hW.cell (p := ⟨Bs, 0, none⟩) h1).trans hBs) (fun i hi j y hy => (hW.cell (p := ⟨b, off + i * 6 + j, none⟩) h2).trans (hc i hi j y hy)) h0
end Go.Proofs.YthglciccejholaaDoor
