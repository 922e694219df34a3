import Derived.Lib.Slices
import Derived.Lib.Strings
import Derived.Test.YtmjojahkbjlcdaaDoorProg
import Derived.Test.YtmjojahkbjlcdaaDoorY3
import Derived.Test.YtmjojahkbjlcdaaDoorY4
import Derived.WalkKit
import Derived.WalkLawsBesides
import Derived.WalkSpells
import Derived.Outline
import Derived.Lib.Walk
import Derived.Lib.Hide
import Derived.RegionTactic
import Derived.LoopTactic
import Derived.Below
import Derived.IntWalk
import Derived.Deep.QuietTactic
import Derived.BigQuiet
import Derived.Test.YtmjojahkbjlcdaaDoorH2
import Derived.Test.YtmjojahkbjlcdaaDoorY12
import Derived.Test.YtmjojahkbjlcdaaDoorY27
import Derived.Test.YtmjojahkbjlcdaaDoorY15
import Derived.Test.YtmjojahkbjlcdaaDoorG37
namespace Go.Proofs.YtmjojahkbjlcdaaDoor
set_option linter.unusedSimpArgs false
set_option linter.unusedVariables false
set_option maxRecDepth 100000
open Go.RowKit

/- The document's atom: its parts. -/
/-- What the document's reader answers: the pattern, the place, whether it is at fault. -/
def readC (k : Int) (u : Nat → Int) (sl : Value) (a : Int) (b : Bool) : Array Value := #[.int .i64 k, .int .u64 (u 0), .int .u64 (u 1), .int .u64 (u 2), .int .u64 (u 3), sl, .int .i64 a, .bool b]
theorem infoR53 : (Tryd.prog.info? 53).map (fun i => (i.zero, i.size)) = some (some (.agg (readC 0 u0 (.slice none 0 0) 0 false)), 8) := by kernel_rfl
theorem zero53 (w : World) : (zeroValue 53).run Tryd.prog w = .ok (.agg (readC 0 u0 (.slice none 0 0) 0 false)) w := (zero_of_info infoR53).1 w
theorem size53 : (Tryd.prog.info? 53).map (·.size) = some 8 := (zero_of_info infoR53).2
theorem readC_one (k : Int) (u : Nat → Int) (p : Option Addr) (n c : Nat) (a : Int) (b : Bool) : (readC k u (.slice p n c) a b).all (·.oneCell') = true := by
  simp only [Array.all_eq_true]
  intro i hi
  have : i < 8 := hi
  rcases (by omega : i = 0 ∨ i = 1 ∨ i = 2 ∨ i = 3 ∨ i = 4 ∨ i = 5 ∨ i = 6 ∨ i = 7) with rfl | rfl | rfl | rfl | rfl | rfl | rfl | rfl <;> rfl
theorem below_row {B b : Nat} {w w' : World} (h : Below B w w') (hb : B ≤ b) (cs : Array Value) : Below B w (w'.setRow b cs) :=
  ⟨h.os, h.tape, h.output, by simpa using h.size, fun k hk => (setRow_other w' b k cs (by omega)).trans (h.block k hk)⟩
theorem bset (u : Nat → Int) : Tryd.prog.built 27 [(0, .int .i64 2), (1, vv u)] = some (nodeC 2 u (.slice none 0 0)) := by kernel_rfl
theorem bread (k : Int) (u : Nat → Int) (p : Option Addr) (n c : Nat) (a : Int) : Tryd.prog.built 53 [(0, .agg (nodeC k u (.slice p n c))), (1, .int .i64 a)] = some (readC k u (.slice p n c) a false) := by kernel_rfl
theorem wpList_bset {ops : Array Oper} {rest : List Oper} {o : Oper} {a : Act} {w : World} {Q : Exit → Act → World → Prop} {x y : Operand} {u : Nat → Int} (hg : o.guard = none) (ho : o.op = .build 27 #[(0, x), (1, y)]) (hx : a.eval x = .int .i64 2) (hy : a.eval y = vv u)
    (h : wpList Tryd.prog ops Q rest (a.put o.dst (.agg (nodeC 2 u (.slice none 0 0)))) w) : wpList Tryd.prog ops Q (o :: rest) a w := by
  refine wpList_build hg 27 _ ho ?_ ?_
  · simp [hx, hy, bset]
  · simp [hx, hy, bset]; exact h
theorem wpList_bread {ops : Array Oper} {rest : List Oper} {o : Oper} {a : Act} {w : World} {Q : Exit → Act → World → Prop} {x y : Operand} {k : Int} {u : Nat → Int} {p : Option Addr} {n c : Nat} {i : Int} (hg : o.guard = none) (ho : o.op = .build 53 #[(0, x), (1, y)]) (hx : a.eval x = .agg (nodeC k u (.slice p n c))) (hy : a.eval y = .int .i64 i)
    (h : wpList Tryd.prog ops Q rest (a.put o.dst (.agg (readC k u (.slice p n c) i false))) w) : wpList Tryd.prog ops Q (o :: rest) a w := by
  refine wpList_build hg 53 _ ho ?_ ?_
  · simp [hx, hy, bread]
  · simp [hx, hy, bread]; exact h
set_option maxHeartbeats 1000000 in
theorem one87_any (b : UInt8) (w : World) : Calls Tryd.prog 87 #[.int .u8 b.toNat] w fun e w' => e = .returned (.agg (nodeC 2 (wf (rangeF b.toNat 1)) (.slice none 0 0))) ∧ Below w.heap.size w w' := by
  have hz := zero27r
  have hz2 := zero27
  have hbl := b.toNat_lt
  have B1 := Lib.hid ((Sb.start w).alloc (.cells (nodeC 0 u0 (.slice none 0 0)) 27))
  have B2 := Lib.hid (B1.out.alloc (.cells (fl fun _ => false) 94))
  rw [show (w.alloc (.cells (nodeC 0 u0 (.slice none 0 0)) 27)).heap.size = w.heap.size + 1 from by simp] at B2
  have c9 := B2.out.flag b.toNat (by omega)
  have f9 := B2.out.free b.toNat
  have S3 := Lib.hid (B1.out.alloc (.cells ((fl fun _ => false).setIfInBounds b.toNat (.bool true)) 94))
  rw [show (w.alloc (.cells (nodeC 0 u0 (.slice none 0 0)) 27)).heap.size = w.heap.size + 1 from by simp, fl_set (fun _ => false) (rangeF b.toNat 1) b.toNat true (fun j hj => by unfold rangeF; by_cases h : j = b.toNat <;> simp [h] <;> omega)] at S3
  rw [← fl_set (fun _ => false) (rangeF b.toNat 1) b.toNat true (fun j hj => by unfold rangeF; by_cases h : j = b.toNat <;> simp [h] <;> omega)] at S3
  have HFL := Lib.hid (fl_set (fun _ => false) (rangeF b.toNat 1) b.toNat true (fun j hj => by unfold rangeF; by_cases h : j = b.toNat <;> simp [h] <;> omega))
  obtain ⟨f, hf⟩ : ∃ f, rangeF b.toNat 1 = f := ⟨_, rfl⟩
  obtain ⟨u, hu⟩ : ∃ u, wf f = u := ⟨_, rfl⟩
  have HS : Hid (∀ w, Calls Tryd.prog 86 #[.agg (fl f)] w fun e w' => e = .returned (vv u) ∧ Below w.heap.size w w') := Lib.hid fun w => by rw [← hu]; exact rset_any f w
  rw [hf] at HFL ⊢
  rw [hu]
  clear hu hf
  go_enter Tryd.func87, Tryd.ntmps87
  go_upto_region 3 with fail
  refine at_world (fun y => Sb w y [(w.heap.size + 1, .cells (fl f) 94), (w.heap.size, .cells (nodeC 0 u0 (.slice none 0 0)) 27)]) (by have h := S3.out; have e := HFL.out; generalize (fl fun _ => false).setIfInBounds b.toNat (.bool true) = X at *; subst e; exact h) fun y hy => ?_
  have S4 := Lib.hid hy
  clear S3 hy B1 B2 c9 f9
  have h1 := Lib.hid S4.out.heap
  go_wp2_with (refine wpList_load_row rfl 94 (.tmp 3) rfl (w.heap.size + 1) rfl 94 (fl f) (0, 0) _ h1.out Tryd.underlying94 rfl (fsize27 _) ?_)
  refine (HS.out _).mono ?_
  rintro _ w5 ⟨rfl, hb⟩
  have S5 := Lib.hid (S4.out.up hb)
  have HY := Lib.hid S5.out.tl.heap
  clear hb S4 h1 HS
  go_wp2_with (refine wpList_store_row rfl 27 (.tmp 2) (.tmp 8) rfl w.heap.size (nodeC 2 u (.slice none 0 0)) rfl rfl 27 _ HY.out size27r rfl (nodeC_one _ _ _ _ _) ?_)
  exact bodyPost_ret (v := .agg (nodeC 2 u (.slice none 0 0))) (results_cell_row rfl _ _ w.heap.size 27 _ (0, 0) _ rfl (setRow_heap w5 w.heap.size _ _ 27 (0, 0) HY.out) Tryd.underlying27 rfl size27r) rfl ⟨rfl, below_row S5.out.1 (Nat.le_refl _) _⟩
set_option maxHeartbeats 1000000 in
theorem at_sign {s : ByteArray} {p0 : Nat} {w : World} {b : UInt8} (hs : s.size ≤ 140737488355328) (hp : p0 < s.size) (hg : ∀ h, s[p0]'h = b) (h40 : ((b.toNat : Int) == 40) = false) (h91 : ((b.toNat : Int) == 91) = false) (h46 : ((b.toNat : Int) == 46) = false) (h92 : ((b.toNat : Int) == 92) = false) (HS : Hid (∀ w, Calls Tryd.prog 80 #[.int .u8 b.toNat] w fun e w' => e = .returned (.bool true) ∧ w = w')) :
    Calls Tryd.prog 68 #[.string s, .int .i64 (p0 : Nat)] w fun e w' => e = .returned (.agg (readC 0 (u0) (.slice none 0 0) (p0) true)) ∧ Below w.heap.size w w' := by
  have hz := zero53
  have hz2 := zero27r
  have hp' : (p0 : Int) < (s.size : Int) := by omega
  have HA := Lib.hid ((Sb.start w).alloc (.cells (readC 0 u0 (.slice none 0 0) 0 false) 53))
  go_enter Tryd.func68, Tryd.ntmps68
  go_wp2_with fail
  refine (HS.out _).mono ?_
  rintro _ _ ⟨rfl, rfl⟩
  clear HS
  have HY := Lib.hid HA.out.heap
  go_wp2_with (refine wpList_store_row rfl 53 (.tmp 4) (.tmp 123) rfl w.heap.size (readC 0 (u0) (.slice none 0 0) (p0) true) rfl rfl 53 _ HY.out size53 rfl (readC_one _ _ _ _ _ _ _) ?_)
  exact bodyPost_ret (v := .agg (readC 0 (u0) (.slice none 0 0) (p0) true)) (results_cell_row rfl _ _ w.heap.size 53 _ (0, 0) _ rfl (setRow_heap _ w.heap.size _ _ 53 (0, 0) HY.out) Tryd.underlying53 rfl size53) rfl ⟨rfl, below_row HA.out.1 (Nat.le_refl _) _⟩
set_option maxHeartbeats 1000000 in
theorem at_plain {s : ByteArray} {p0 : Nat} {w : World} {b : UInt8} (hs : s.size ≤ 140737488355328) (hp : p0 < s.size) (hg : ∀ h, s[p0]'h = b) (h40 : ((b.toNat : Int) == 40) = false) (h91 : ((b.toNat : Int) == 91) = false) (h46 : ((b.toNat : Int) == 46) = false) (h92 : ((b.toNat : Int) == 92) = false) (HS : Hid (∀ w, Calls Tryd.prog 80 #[.int .u8 b.toNat] w fun e w' => e = .returned (.bool false) ∧ w = w')) (u : Nat → Int) (HO : Hid (∀ w, Calls Tryd.prog 87 #[.int .u8 b.toNat] w fun e w' => e = .returned (.agg (nodeC 2 u (.slice none 0 0))) ∧ Below w.heap.size w w')) :
    Calls Tryd.prog 68 #[.string s, .int .i64 (p0 : Nat)] w fun e w' => e = .returned (.agg (readC 2 (u) (.slice none 0 0) ((p0 : Int) + 1) false)) ∧ Below w.heap.size w w' := by
  have hz := zero53
  have hz2 := zero27r
  have hp' : (p0 : Int) < (s.size : Int) := by omega
  have HA := Lib.hid ((Sb.start w).alloc (.cells (readC 0 u0 (.slice none 0 0) 0 false) 53))
  go_enter Tryd.func68, Tryd.ntmps68
  go_wp2_with fail
  unfold nodeC at HO
  refine (HS.out _).mono ?_
  rintro _ _ ⟨rfl, rfl⟩
  clear HS
  go_wp2_with fail
  refine (HO.out _).mono ?_
  rintro _ w5 ⟨rfl, hb⟩
  have HA2 := Lib.hid (HA.out.up hb)
  clear hb HA
  have HA := HA2
  clear HA2
  have HY := Lib.hid HA.out.heap
  go_wp2_with (refine wpList_store_row rfl 53 (.tmp 4) (.tmp 128) rfl w.heap.size (readC 2 (u) (.slice none 0 0) ((p0 : Int) + 1) false) rfl rfl 53 _ HY.out size53 rfl (readC_one _ _ _ _ _ _ _) ?_)
  exact bodyPost_ret (v := .agg (readC 2 (u) (.slice none 0 0) ((p0 : Int) + 1) false)) (results_cell_row rfl _ _ w.heap.size 53 _ (0, 0) _ rfl (setRow_heap _ w.heap.size _ _ 53 (0, 0) HY.out) Tryd.underlying53 rfl size53) rfl ⟨rfl, below_row HA.out.1 (Nat.le_refl _) _⟩
set_option maxHeartbeats 1000000 in
theorem at_dot {s : ByteArray} {p0 : Nat} {w : World} {b : UInt8} (hs : s.size ≤ 140737488355328) (hp : p0 < s.size) (hg : ∀ h, s[p0]'h = b) (h40 : ((b.toNat : Int) == 40) = false) (h91 : ((b.toNat : Int) == 91) = false) (h46 : ((b.toNat : Int) == 46) = true) (u : Nat → Int) (HD : Hid (∀ w, Calls Tryd.prog 76 #[] w fun e w' => e = .returned (vv u) ∧ Below w.heap.size w w')) :
    Calls Tryd.prog 68 #[.string s, .int .i64 (p0 : Nat)] w fun e w' => e = .returned (.agg (readC 2 (u) (.slice none 0 0) ((p0 : Int) + 1) false)) ∧ Below w.heap.size w w' := by
  have hz := zero53
  have hz2 := zero27r
  have hp' : (p0 : Int) < (s.size : Int) := by omega
  have HA := Lib.hid ((Sb.start w).alloc (.cells (readC 0 u0 (.slice none 0 0) 0 false) 53))
  go_enter Tryd.func68, Tryd.ntmps68
  go_wp2_with fail
  refine (HD.out _).mono ?_
  rintro _ w5 ⟨rfl, hb⟩
  have HA2 := Lib.hid (HA.out.up hb)
  clear hb HA
  have HA := HA2
  clear HA2
  have HY := Lib.hid HA.out.heap
  go_wp2_with (first | (refine wpList_bset (u := u) rfl rfl rfl rfl ?_) | (refine wpList_bread (k := 2) (u := u) (p := none) (n := 0) (c := 0) (i := (p0 : Int) + 1) rfl rfl rfl rfl ?_) | (refine wpList_store_row rfl 53 (.tmp 4) (.tmp 71) rfl w.heap.size (readC 2 u (.slice none 0 0) ((p0 : Int) + 1) false) rfl rfl 53 _ HY.out size53 rfl (readC_one _ _ _ _ _ _ _) ?_))
  exact bodyPost_ret (v := .agg (readC 2 (u) (.slice none 0 0) ((p0 : Int) + 1) false)) (results_cell_row rfl _ _ w.heap.size 53 _ (0, 0) _ rfl (setRow_heap _ w.heap.size _ _ 53 (0, 0) HY.out) Tryd.underlying53 rfl size53) rfl ⟨rfl, below_row HA.out.1 (Nat.le_refl _) _⟩
set_option maxHeartbeats 1000000 in
theorem at_esc_end {s : ByteArray} {p0 : Nat} {w : World} {b : UInt8} (hs : s.size ≤ 140737488355328) (hp : p0 < s.size) (hg : ∀ h, s[p0]'h = b) (h40 : ((b.toNat : Int) == 40) = false) (h91 : ((b.toNat : Int) == 91) = false) (h46 : ((b.toNat : Int) == 46) = false) (h92 : ((b.toNat : Int) == 92) = true) (h1 : s.size ≤ p0 + 1) :
    Calls Tryd.prog 68 #[.string s, .int .i64 (p0 : Nat)] w fun e w' => e = .returned (.agg (readC 0 (u0) (.slice none 0 0) ((p0 : Int) + 1) true)) ∧ Below w.heap.size w w' := by
  have hz := zero53
  have hz2 := zero27r
  have hp' : (p0 : Int) < (s.size : Int) := by omega
  have HA := Lib.hid ((Sb.start w).alloc (.cells (readC 0 u0 (.slice none 0 0) 0 false) 53))
  have hd1 : (s.size : Int) ≤ (p0 : Int) + 1 := by omega
  go_enter Tryd.func68, Tryd.ntmps68
  have HY := Lib.hid HA.out.heap
  go_wp2_with (refine wpList_store_row rfl 53 (.tmp 4) (.tmp 82) rfl w.heap.size (readC 0 (u0) (.slice none 0 0) ((p0 : Int) + 1) true) rfl rfl 53 _ HY.out size53 rfl (readC_one _ _ _ _ _ _ _) ?_)
  exact bodyPost_ret (v := .agg (readC 0 (u0) (.slice none 0 0) ((p0 : Int) + 1) true)) (results_cell_row rfl _ _ w.heap.size 53 _ (0, 0) _ rfl (setRow_heap _ w.heap.size _ _ 53 (0, 0) HY.out) Tryd.underlying53 rfl size53) rfl ⟨rfl, below_row HA.out.1 (Nat.le_refl _) _⟩
set_option maxHeartbeats 1000000 in
theorem at_esc_n {s : ByteArray} {p0 : Nat} {w : World} {b : UInt8} (hs : s.size ≤ 140737488355328) (hp : p0 < s.size) (hg : ∀ h, s[p0]'h = b) (h40 : ((b.toNat : Int) == 40) = false) (h91 : ((b.toNat : Int) == 91) = false) (h46 : ((b.toNat : Int) == 46) = false) (h92 : ((b.toNat : Int) == 92) = true) {d : UInt8} (h1 : p0 + 1 < s.size) (hg1 : ∀ h, s[p0 + 1]'h = d) (d110 : ((d.toNat : Int) == 110) = true) (u : Nat → Int) (HO : Hid (∀ w, Calls Tryd.prog 87 #[.int .u8 (10 : UInt8).toNat] w fun e w' => e = .returned (.agg (nodeC 2 u (.slice none 0 0))) ∧ Below w.heap.size w w')) :
    Calls Tryd.prog 68 #[.string s, .int .i64 (p0 : Nat)] w fun e w' => e = .returned (.agg (readC 2 (u) (.slice none 0 0) ((p0 : Int) + 2) false)) ∧ Below w.heap.size w w' := by
  have hz := zero53
  have hz2 := zero27r
  have hp' : (p0 : Int) < (s.size : Int) := by omega
  have HA := Lib.hid ((Sb.start w).alloc (.cells (readC 0 u0 (.slice none 0 0) 0 false) 53))
  have hd1 : ¬ (s.size : Int) ≤ (p0 : Int) + 1 := by omega
  have hd2 : (p0 : Int) + 1 < (s.size : Int) := by omega
  go_enter Tryd.func68, Tryd.ntmps68
  rw [show (((10 : UInt8).toNat : Nat) : Int) = 10 from rfl] at HO
  unfold nodeC at HO
  go_wp2_with fail
  refine (HO.out _).mono ?_
  rintro _ w5 ⟨rfl, hb⟩
  have HA2 := Lib.hid (HA.out.up hb)
  clear hb HA
  have HA := HA2
  clear HA2
  have HY := Lib.hid HA.out.heap
  go_wp2_with (refine wpList_store_row rfl 53 (.tmp 4) (.tmp 93) rfl w.heap.size (readC 2 (u) (.slice none 0 0) ((p0 : Int) + 2) false) rfl rfl 53 _ HY.out size53 rfl (readC_one _ _ _ _ _ _ _) ?_)
  exact bodyPost_ret (v := .agg (readC 2 (u) (.slice none 0 0) ((p0 : Int) + 2) false)) (results_cell_row rfl _ _ w.heap.size 53 _ (0, 0) _ rfl (setRow_heap _ w.heap.size _ _ 53 (0, 0) HY.out) Tryd.underlying53 rfl size53) rfl ⟨rfl, below_row HA.out.1 (Nat.le_refl _) _⟩
set_option maxHeartbeats 1000000 in
theorem at_esc_t {s : ByteArray} {p0 : Nat} {w : World} {b : UInt8} (hs : s.size ≤ 140737488355328) (hp : p0 < s.size) (hg : ∀ h, s[p0]'h = b) (h40 : ((b.toNat : Int) == 40) = false) (h91 : ((b.toNat : Int) == 91) = false) (h46 : ((b.toNat : Int) == 46) = false) (h92 : ((b.toNat : Int) == 92) = true) {d : UInt8} (h1 : p0 + 1 < s.size) (hg1 : ∀ h, s[p0 + 1]'h = d) (d110 : ((d.toNat : Int) == 110) = false) (d116 : ((d.toNat : Int) == 116) = true) (u : Nat → Int) (HO : Hid (∀ w, Calls Tryd.prog 87 #[.int .u8 (9 : UInt8).toNat] w fun e w' => e = .returned (.agg (nodeC 2 u (.slice none 0 0))) ∧ Below w.heap.size w w')) :
    Calls Tryd.prog 68 #[.string s, .int .i64 (p0 : Nat)] w fun e w' => e = .returned (.agg (readC 2 (u) (.slice none 0 0) ((p0 : Int) + 2) false)) ∧ Below w.heap.size w w' := by
  have hz := zero53
  have hz2 := zero27r
  have hp' : (p0 : Int) < (s.size : Int) := by omega
  have HA := Lib.hid ((Sb.start w).alloc (.cells (readC 0 u0 (.slice none 0 0) 0 false) 53))
  have hd1 : ¬ (s.size : Int) ≤ (p0 : Int) + 1 := by omega
  have hd2 : (p0 : Int) + 1 < (s.size : Int) := by omega
  go_enter Tryd.func68, Tryd.ntmps68
  rw [show (((9 : UInt8).toNat : Nat) : Int) = 9 from rfl] at HO
  unfold nodeC at HO
  go_wp2_with fail
  refine (HO.out _).mono ?_
  rintro _ w5 ⟨rfl, hb⟩
  have HA2 := Lib.hid (HA.out.up hb)
  clear hb HA
  have HA := HA2
  clear HA2
  have HY := Lib.hid HA.out.heap
  go_wp2_with (refine wpList_store_row rfl 53 (.tmp 4) (.tmp 100) rfl w.heap.size (readC 2 (u) (.slice none 0 0) ((p0 : Int) + 2) false) rfl rfl 53 _ HY.out size53 rfl (readC_one _ _ _ _ _ _ _) ?_)
  exact bodyPost_ret (v := .agg (readC 2 (u) (.slice none 0 0) ((p0 : Int) + 2) false)) (results_cell_row rfl _ _ w.heap.size 53 _ (0, 0) _ rfl (setRow_heap _ w.heap.size _ _ 53 (0, 0) HY.out) Tryd.underlying53 rfl size53) rfl ⟨rfl, below_row HA.out.1 (Nat.le_refl _) _⟩
set_option maxHeartbeats 1000000 in
theorem at_esc_r {s : ByteArray} {p0 : Nat} {w : World} {b : UInt8} (hs : s.size ≤ 140737488355328) (hp : p0 < s.size) (hg : ∀ h, s[p0]'h = b) (h40 : ((b.toNat : Int) == 40) = false) (h91 : ((b.toNat : Int) == 91) = false) (h46 : ((b.toNat : Int) == 46) = false) (h92 : ((b.toNat : Int) == 92) = true) {d : UInt8} (h1 : p0 + 1 < s.size) (hg1 : ∀ h, s[p0 + 1]'h = d) (d110 : ((d.toNat : Int) == 110) = false) (d116 : ((d.toNat : Int) == 116) = false) (d114 : ((d.toNat : Int) == 114) = true) (u : Nat → Int) (HO : Hid (∀ w, Calls Tryd.prog 87 #[.int .u8 (13 : UInt8).toNat] w fun e w' => e = .returned (.agg (nodeC 2 u (.slice none 0 0))) ∧ Below w.heap.size w w')) :
    Calls Tryd.prog 68 #[.string s, .int .i64 (p0 : Nat)] w fun e w' => e = .returned (.agg (readC 2 (u) (.slice none 0 0) ((p0 : Int) + 2) false)) ∧ Below w.heap.size w w' := by
  have hz := zero53
  have hz2 := zero27r
  have hp' : (p0 : Int) < (s.size : Int) := by omega
  have HA := Lib.hid ((Sb.start w).alloc (.cells (readC 0 u0 (.slice none 0 0) 0 false) 53))
  have hd1 : ¬ (s.size : Int) ≤ (p0 : Int) + 1 := by omega
  have hd2 : (p0 : Int) + 1 < (s.size : Int) := by omega
  go_enter Tryd.func68, Tryd.ntmps68
  rw [show (((13 : UInt8).toNat : Nat) : Int) = 13 from rfl] at HO
  unfold nodeC at HO
  go_wp2_with fail
  refine (HO.out _).mono ?_
  rintro _ w5 ⟨rfl, hb⟩
  have HA2 := Lib.hid (HA.out.up hb)
  clear hb HA
  have HA := HA2
  clear HA2
  have HY := Lib.hid HA.out.heap
  go_wp2_with (refine wpList_store_row rfl 53 (.tmp 4) (.tmp 107) rfl w.heap.size (readC 2 (u) (.slice none 0 0) ((p0 : Int) + 2) false) rfl rfl 53 _ HY.out size53 rfl (readC_one _ _ _ _ _ _ _) ?_)
  exact bodyPost_ret (v := .agg (readC 2 (u) (.slice none 0 0) ((p0 : Int) + 2) false)) (results_cell_row rfl _ _ w.heap.size 53 _ (0, 0) _ rfl (setRow_heap _ w.heap.size _ _ 53 (0, 0) HY.out) Tryd.underlying53 rfl size53) rfl ⟨rfl, below_row HA.out.1 (Nat.le_refl _) _⟩
set_option maxHeartbeats 1000000 in
theorem at_esc_s {s : ByteArray} {p0 : Nat} {w : World} {b : UInt8} (hs : s.size ≤ 140737488355328) (hp : p0 < s.size) (hg : ∀ h, s[p0]'h = b) (h40 : ((b.toNat : Int) == 40) = false) (h91 : ((b.toNat : Int) == 91) = false) (h46 : ((b.toNat : Int) == 46) = false) (h92 : ((b.toNat : Int) == 92) = true) {d : UInt8} (h1 : p0 + 1 < s.size) (hg1 : ∀ h, s[p0 + 1]'h = d) (d110 : ((d.toNat : Int) == 110) = false) (d116 : ((d.toNat : Int) == 116) = false) (d114 : ((d.toNat : Int) == 114) = false) (HS : Hid (∀ w, Calls Tryd.prog 80 #[.int .u8 d.toNat] w fun e w' => e = .returned (.bool true) ∧ w = w')) (u : Nat → Int) (HO : Hid (∀ w, Calls Tryd.prog 87 #[.int .u8 d.toNat] w fun e w' => e = .returned (.agg (nodeC 2 u (.slice none 0 0))) ∧ Below w.heap.size w w')) :
    Calls Tryd.prog 68 #[.string s, .int .i64 (p0 : Nat)] w fun e w' => e = .returned (.agg (readC 2 (u) (.slice none 0 0) ((p0 : Int) + 2) false)) ∧ Below w.heap.size w w' := by
  have hz := zero53
  have hz2 := zero27r
  have hp' : (p0 : Int) < (s.size : Int) := by omega
  have HA := Lib.hid ((Sb.start w).alloc (.cells (readC 0 u0 (.slice none 0 0) 0 false) 53))
  have hd1 : ¬ (s.size : Int) ≤ (p0 : Int) + 1 := by omega
  have hd2 : (p0 : Int) + 1 < (s.size : Int) := by omega
  go_enter Tryd.func68, Tryd.ntmps68
  go_wp2_with fail
  unfold nodeC at HO
  refine (HS.out _).mono ?_
  rintro _ _ ⟨rfl, rfl⟩
  clear HS
  go_wp2_with fail
  refine (HO.out _).mono ?_
  rintro _ w5 ⟨rfl, hb⟩
  have HA2 := Lib.hid (HA.out.up hb)
  clear hb HA
  have HA := HA2
  clear HA2
  have HY := Lib.hid HA.out.heap
  go_wp2_with (refine wpList_store_row rfl 53 (.tmp 4) (.tmp 115) rfl w.heap.size (readC 2 (u) (.slice none 0 0) ((p0 : Int) + 2) false) rfl rfl 53 _ HY.out size53 rfl (readC_one _ _ _ _ _ _ _) ?_)
  exact bodyPost_ret (v := .agg (readC 2 (u) (.slice none 0 0) ((p0 : Int) + 2) false)) (results_cell_row rfl _ _ w.heap.size 53 _ (0, 0) _ rfl (setRow_heap _ w.heap.size _ _ 53 (0, 0) HY.out) Tryd.underlying53 rfl size53) rfl ⟨rfl, below_row HA.out.1 (Nat.le_refl _) _⟩
set_option maxHeartbeats 1000000 in
theorem at_esc_e {s : ByteArray} {p0 : Nat} {w : World} {b : UInt8} (hs : s.size ≤ 140737488355328) (hp : p0 < s.size) (hg : ∀ h, s[p0]'h = b) (h40 : ((b.toNat : Int) == 40) = false) (h91 : ((b.toNat : Int) == 91) = false) (h46 : ((b.toNat : Int) == 46) = false) (h92 : ((b.toNat : Int) == 92) = true) {d : UInt8} (h1 : p0 + 1 < s.size) (hg1 : ∀ h, s[p0 + 1]'h = d) (d110 : ((d.toNat : Int) == 110) = false) (d116 : ((d.toNat : Int) == 116) = false) (d114 : ((d.toNat : Int) == 114) = false) (HS : Hid (∀ w, Calls Tryd.prog 80 #[.int .u8 d.toNat] w fun e w' => e = .returned (.bool false) ∧ w = w')) :
    Calls Tryd.prog 68 #[.string s, .int .i64 (p0 : Nat)] w fun e w' => e = .returned (.agg (readC 0 (u0) (.slice none 0 0) ((p0 : Int) + 1) true)) ∧ Below w.heap.size w w' := by
  have hz := zero53
  have hz2 := zero27r
  have hp' : (p0 : Int) < (s.size : Int) := by omega
  have HA := Lib.hid ((Sb.start w).alloc (.cells (readC 0 u0 (.slice none 0 0) 0 false) 53))
  have hd1 : ¬ (s.size : Int) ≤ (p0 : Int) + 1 := by omega
  have hd2 : (p0 : Int) + 1 < (s.size : Int) := by omega
  go_enter Tryd.func68, Tryd.ntmps68
  go_wp2_with fail
  refine (HS.out _).mono ?_
  rintro _ _ ⟨rfl, rfl⟩
  clear HS
  have HY := Lib.hid HA.out.heap
  go_wp2_with (refine wpList_store_row rfl 53 (.tmp 4) (.tmp 118) rfl w.heap.size (readC 0 (u0) (.slice none 0 0) ((p0 : Int) + 1) true) rfl rfl 53 _ HY.out size53 rfl (readC_one _ _ _ _ _ _ _) ?_)
  exact bodyPost_ret (v := .agg (readC 0 (u0) (.slice none 0 0) ((p0 : Int) + 1) true)) (results_cell_row rfl _ _ w.heap.size 53 _ (0, 0) _ rfl (setRow_heap _ w.heap.size _ _ 53 (0, 0) HY.out) Tryd.underlying53 rfl size53) rfl ⟨rfl, below_row HA.out.1 (Nat.le_refl _) _⟩
set_option maxHeartbeats 1000000 in
theorem at_cls_e {s : ByteArray} {p0 : Nat} {w : World} {b : UInt8} (hs : s.size ≤ 140737488355328) (hp : p0 < s.size) (hg : ∀ h, s[p0]'h = b) (h40 : ((b.toNat : Int) == 40) = false) (h91 : ((b.toNat : Int) == 91) = true) (f : Nat → Bool) (n : Nat) (HC : Hid (∀ w, Calls Tryd.prog 85 #[.string s, .int .i64 (p0 : Nat)] w fun e w' => e = cls3 f n false ∧ Below w.heap.size w w')) :
    Calls Tryd.prog 68 #[.string s, .int .i64 (p0 : Nat)] w fun e w' => e = .returned (.agg (readC 0 (u0) (.slice none 0 0) (n) true)) ∧ Below w.heap.size w w' := by
  have hz := zero53
  have hz3 := zero27
  unfold cls3 at HC
  have hz2 := zero27r
  have hp' : (p0 : Int) < (s.size : Int) := by omega
  have HA := Lib.hid ((Sb.start w).alloc (.cells (readC 0 u0 (.slice none 0 0) 0 false) 53))
  go_enter Tryd.func68, Tryd.ntmps68
  go_wp2_with fail
  refine (HC.out _).mono ?_
  rintro _ w5 ⟨rfl, hb⟩
  have HA2 := Lib.hid (HA.out.up hb)
  clear hb HA
  have HA := HA2
  clear HA2
  have HF0 := Lib.hid (HA.out.alloc (.cells (fl fun _ => false) 94))
  have h7 := Lib.hid HF0.out.heap
  have HF1 := Lib.hid (HF0.out.setRow (cs' := fl f) (by intro c hc; have z := HA.out.lt; simp at hc; subst hc; simp at z ⊢; omega))
  have HT := Lib.hid HF1.out.tl
  have HY := Lib.hid HT.out.heap
  go_wp2_with (first | (refine wpList_store_row rfl 94 (.tmp 7) (.tmp 52) rfl w5.heap.size (fl f) rfl rfl 94 _ h7.out (fsize27 _) (by rw [fl_size, fl_size]) (fl_one _) ?_) | (refine wpList_store_row rfl 53 (.tmp 4) (.tmp 58) rfl w.heap.size (readC 0 u0 (.slice none 0 0) n true) rfl rfl 53 _ HY.out size53 rfl (readC_one _ _ _ _ _ _ _) ?_))
  (try simp only [Exit.inBlock, Exit.then])
  exact bodyPost_ret (v := .agg (readC 0 (u0) (.slice none 0 0) (n) true)) (results_cell_row rfl _ _ w.heap.size 53 _ (0, 0) _ rfl (setRow_heap _ w.heap.size _ _ 53 (0, 0) HY.out) Tryd.underlying53 rfl size53) rfl ⟨rfl, below_row HT.out.1 (Nat.le_refl _) _⟩
set_option maxHeartbeats 1000000 in
theorem at_cls_o {s : ByteArray} {p0 : Nat} {w : World} {b : UInt8} (hs : s.size ≤ 140737488355328) (hp : p0 < s.size) (hg : ∀ h, s[p0]'h = b) (h40 : ((b.toNat : Int) == 40) = false) (h91 : ((b.toNat : Int) == 91) = true) (f : Nat → Bool) (u : Nat → Int) (n : Nat) (HSet : Hid (∀ w, Calls Tryd.prog 86 #[.agg (fl f)] w fun e w' => e = .returned (vv u) ∧ Below w.heap.size w w')) (HC : Hid (∀ w, Calls Tryd.prog 85 #[.string s, .int .i64 (p0 : Nat)] w fun e w' => e = cls3 f n true ∧ Below w.heap.size w w')) :
    Calls Tryd.prog 68 #[.string s, .int .i64 (p0 : Nat)] w fun e w' => e = .returned (.agg (readC 2 (u) (.slice none 0 0) (n) false)) ∧ Below w.heap.size w w' := by
  have hz := zero53
  have hz3 := zero27
  unfold cls3 at HC
  have hz2 := zero27r
  have hp' : (p0 : Int) < (s.size : Int) := by omega
  have HA := Lib.hid ((Sb.start w).alloc (.cells (readC 0 u0 (.slice none 0 0) 0 false) 53))
  go_enter Tryd.func68, Tryd.ntmps68
  go_wp2_with fail
  refine (HC.out _).mono ?_
  rintro _ w5 ⟨rfl, hb⟩
  have HA2 := Lib.hid (HA.out.up hb)
  clear hb HA
  have HA := HA2
  clear HA2
  have HF0 := Lib.hid (HA.out.alloc (.cells (fl fun _ => false) 94))
  have h7 := Lib.hid HF0.out.heap
  have HF1 := Lib.hid (HF0.out.setRow (cs' := fl f) (by intro c hc; have z := HA.out.lt; simp at hc; subst hc; simp at z ⊢; omega))
  have h8 := Lib.hid HF1.out.heap
  go_wp2_with (first | (refine wpList_store_row rfl 94 (.tmp 7) (.tmp 52) rfl w5.heap.size (fl f) rfl rfl 94 _ h7.out (fsize27 _) (by rw [fl_size, fl_size]) (fl_one _) ?_) | (refine wpList_load_row rfl 94 (.tmp 7) rfl w5.heap.size rfl 94 (fl f) (0, 0) _ h8.out Tryd.underlying94 rfl (fsize27 _) ?_))
  refine (HSet.out _).mono ?_
  rintro _ w6 ⟨rfl, hb⟩
  have HT := Lib.hid (HF1.out.tl.up hb)
  clear hb
  have HY := Lib.hid HT.out.heap
  go_wp2_with (first | (refine wpList_bset (u := u) rfl rfl rfl rfl ?_) | (refine wpList_bread (k := 2) (u := u) (p := none) (n := 0) (c := 0) (i := (n : Int)) rfl rfl rfl rfl ?_) | (refine wpList_store_row rfl 53 (.tmp 4) (.tmp 63) rfl w.heap.size (readC 2 u (.slice none 0 0) n false) rfl rfl 53 _ HY.out size53 rfl (readC_one _ _ _ _ _ _ _) ?_))
  (try simp only [Exit.inBlock, Exit.then])
  exact bodyPost_ret (v := .agg (readC 2 (u) (.slice none 0 0) (n) false)) (results_cell_row rfl _ _ w.heap.size 53 _ (0, 0) _ rfl (setRow_heap _ w.heap.size _ _ 53 (0, 0) HY.out) Tryd.underlying53 rfl size53) rfl ⟨rfl, below_row HT.out.1 (Nat.le_refl _) _⟩
end Go.Proofs.YtmjojahkbjlcdaaDoor
