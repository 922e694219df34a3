import Derived.Lib.Slices
import Derived.Lib.Strings
import Derived.Test.YtmjojahkbjlcdaaDoorProg
import Derived.Test.YtmjojahkbjlcdaaDoorY3
import Derived.Test.YtmjojahkbjlcdaaDoorY4
import Derived.WalkKit
import Derived.WalkLawsBesides
import Derived.WalkSpells
import Derived.Outline
import Derived.Lib.Walk
import Derived.Lib.Hide
import Derived.RegionTactic
import Derived.LoopTactic
import Derived.Below
import Derived.IntWalk
import Derived.Deep.QuietTactic
import Derived.BigQuiet
import Derived.Test.YtmjojahkbjlcdaaDoorH3
import Derived.Test.YtmjojahkbjlcdaaDoorG37
import Derived.Test.YtmjojahkbjlcdaaDoorY20
import Derived.Test.YtmjojahkbjlcdaaDoorG76
namespace Go.Proofs.YtmjojahkbjlcdaaDoor
set_option linter.unusedSimpArgs false
set_option linter.unusedVariables false
set_option maxRecDepth 100000
open Go.RowKit

/- The document's Parse. -/
def zT : RT := .mk 0 u0 []
/-- What Parse answers. -/
def prsR (l : List UInt8) : RT × Int × Int := if 256 < l.length then (zT, 0, 3) else match wholeF l with
  | .error q => (zT, (l.length - q.length : Nat), 50)
  | .ok t => if 16 < dep t then (zT, 0, 51) else (t, 0, 0)
def PP (t : RT) (m E : Int) (w : World) (e : Ending) (w' : World) : Prop := (∃ v, e = ret3 v m E ∧ RV (fun b => w.heap.size ≤ b ∧ b < w'.heap.size) w' t v) ∧ Below w.heap.size w w'
theorem PP.err {m E : Int} {w w' : World} {e : Ending} (h : e = ret3 zeroR m E ∧ Below w.heap.size w w') : PP zT m E w e w' :=
  ⟨⟨_, h.1, .leaf 0 u0 none 0⟩, h.2⟩
theorem prs_any (s : ByteArray) (hs : s.size ≤ 9223372036854775807) (w : World) : Calls Tryd.prog 21 #[.string s] w (PP (prsR s.data.toList).1 (prsR s.data.toList).2.1 (prsR s.data.toList).2.2 w) := by
  refine (parse_any5 s hs w).mono fun e w' k => ?_
  have hl : s.data.toList.length = s.size := by simp
  unfold ParseP at k
  unfold prsR
  rw [hl]
  by_cases h : 256 < s.size
  · rw [if_pos h] at k ⊢; exact PP.err k
  · rw [if_neg h] at k ⊢
    cases hc : wholeF s.data.toList with
    | error q => rw [hc] at k; exact PP.err k
    | ok t =>
      rw [hc] at k
      simp only at k ⊢
      by_cases hd : 16 < dep t
      · rw [if_pos hd] at k ⊢; exact PP.err k
      · rw [if_neg hd] at k ⊢; exact k
theorem results_parse22 {tmps : Array Value} {w : World} {b1 : Nat} {k : Int} {u : Nat → Int} {p : Option Addr} {n c : Nat} {x y : Int} (h1 : tmps.getD 2 undef = .pointer (some ⟨b1, 0, none⟩)) (h2 : tmps.getD 3 undef = .int .i64 x) (h3 : tmps.getD 4 undef = .int .i64 y)
    (o1 : w.heap[b1]? = some (.cells (nodeC k u (.slice p n c)) 27)) :
    (results Tryd.f22 tmps).run Tryd.prog w = .ok (.tuple #[.agg (nodeC k u (.slice p n c)), .int .i64 x, .int .i64 y]) w := by
  have g1 : tmps[2]?.getD undef = .pointer (some ⟨b1, 0, none⟩) := by simpa using h1
  have g2 : tmps[3]?.getD undef = .int .i64 x := by simpa using h2
  have g3 : tmps[4]?.getD undef = .int .i64 y := by simpa using h3
  have d0 : w.cell? ⟨b1, 0, none⟩ = some (.int .i64 k) := cell_of_row w b1 0 _ 27 (0, 0) o1
  have d1 : w.cell? ⟨b1, 1, none⟩ = some (.int .u64 (u 0)) := cell_of_row w b1 1 _ 27 (0, 0) o1
  have d2 : w.cell? ⟨b1, 2, none⟩ = some (.int .u64 (u 1)) := cell_of_row w b1 2 _ 27 (0, 0) o1
  have d3 : w.cell? ⟨b1, 3, none⟩ = some (.int .u64 (u 2)) := cell_of_row w b1 3 _ 27 (0, 0) o1
  have d4 : w.cell? ⟨b1, 4, none⟩ = some (.int .u64 (u 3)) := cell_of_row w b1 4 _ 27 (0, 0) o1
  have d5 : w.cell? ⟨b1, 5, none⟩ = some (.slice p n c) := cell_of_row w b1 5 _ 27 (0, 0) o1
  unfold nodeC
  simp [results, Tryd.results22, asAddr, g1, g2, g3, go_sem, d0, d1, d2, d3, d4, d5]
theorem bzero : Tryd.prog.built 27 [] = some (nodeC 0 u0 (.slice none 0 0)) := by kernel_rfl
theorem wpList_bzero {ops : Array Oper} {rest : List Oper} {o : Oper} {a : Act} {w : World} {Q : Exit → Act → World → Prop} (hg : o.guard = none) (ho : o.op = .build 27 #[])
    (h : wpList Tryd.prog ops Q rest (a.put o.dst (.agg (nodeC 0 u0 (.slice none 0 0)))) w) : wpList Tryd.prog ops Q (o :: rest) a w := by
  refine wpList_build hg 27 _ ho ?_ ?_
  · simp [bzero]
  · simp [bzero]; exact h
theorem six_set {w y : World} {b : Nat} (h : Sb w y [(b, (.cells (nodeC 0 u0 (.slice none 0 0)) 27))]) : Below w.heap.size w (((((((y.setCell ⟨b, 0, none⟩ (.int .i64 0)).setCell ⟨b, 1, none⟩ (.int .u64 0)).setCell ⟨b, 2, none⟩ (.int .u64 0)).setCell ⟨b, 3, none⟩ (.int .u64 0)).setCell ⟨b, 4, none⟩ (.int .u64 0)).setCell ⟨b, 5, none⟩ (.slice none 0 0)).drew) ∧
    (((((((y.setCell ⟨b, 0, none⟩ (.int .i64 0)).setCell ⟨b, 1, none⟩ (.int .u64 0)).setCell ⟨b, 2, none⟩ (.int .u64 0)).setCell ⟨b, 3, none⟩ (.int .u64 0)).setCell ⟨b, 4, none⟩ (.int .u64 0)).setCell ⟨b, 5, none⟩ (.slice none 0 0)).drew).heap[b]? = some (.cells (nodeC 0 u0 (.slice none 0 0)) 27) := by
  have h1 := ((((((h.set (i := 0) (.int .i64 0) (by simp)).set (i := 1) (.int .u64 0) (by simp)).set (i := 2) (.int .u64 0) (by simp)).set (i := 3) (.int .u64 0) (by simp)).set (i := 4) (.int .u64 0) (by simp)).set (i := 5) (.slice none 0 0) (by simp)).drew
  exact ⟨h1.1, h1.heap⟩
set_option maxHeartbeats 4000000 in
theorem pd_long {s : ByteArray} (hs : 256 < s.size) (hs2 : s.size ≤ 9223372036854775807) (w : World) :
    Calls Tryd.prog 22 #[.string s] w fun e w' => e = ret3 zeroR 0 3 ∧ Below w.heap.size w w' := by
  have hz := zero27r
  have hs3 : (256 : Int) < (s.size : Int) := by omega
  have HA := Lib.hid ((Sb.start w).alloc (.cells (nodeC 0 u0 (.slice none 0 0)) 27))
  have h9 := Lib.hid HA.out.heap
  go_enter Tryd.func22, Tryd.ntmps22
  go_wp2_with (first | (refine wpList_bzero rfl rfl ?_) | (refine wpList_store_row rfl 27 (.tmp 2) (.tmp 9) rfl w.heap.size (nodeC 0 u0 (.slice none 0 0)) rfl rfl 27 _ h9.out size27r rfl (nodeC_one _ _ _ _ _) ?_))
  exact bodyPost_ret (v := .tuple #[zeroR, .int .i64 0, .int .i64 3]) (results_parse22 rfl rfl rfl (setRow_heap _ w.heap.size _ _ 27 (0, 0) h9.out)) rfl ⟨rfl, below_row HA.out.1 (Nat.le_refl _) _⟩
set_option maxHeartbeats 8000000 in
theorem pd_bad {s : ByteArray} {m : Nat} (hs : s.size ≤ 256) (w : World) (hC : Hid (∀ w, Calls Tryd.prog 38 #[.string s, .int .i64 0] w fun e w' => e = .returned (.agg (readC 0 u0 (.slice none 0 0) (m : Nat) true)) ∧ Below w.heap.size w w')) :
    Calls Tryd.prog 22 #[.string s] w fun e w' => e = ret3 zeroR (m : Nat) 50 ∧ Below w.heap.size w w' := by
  have hz := zero27l
  have hz5 := zero53
  have hs3 : ¬ (256 : Int) < (s.size : Int) := by omega
  have HA := Lib.hid ((Sb.start w).alloc (.cells (nodeC 0 u0 (.slice none 0 0)) 27))
  go_enter Tryd.func22, Tryd.ntmps22
  go_wp2_with fail
  refine (hC.out _).mono ?_
  rintro _ w5 ⟨rfl, hb⟩
  have HA5 := Lib.hid (HA.out.up hb)
  have HF0 := Lib.hid (HA5.out.alloc (.cells (readC 0 u0 (.slice none 0 0) 0 false) 53))
  have h7 := Lib.hid HF0.out.heap
  have HF1 := Lib.hid (HF0.out.setRow (cs' := (readC 0 u0 (.slice none 0 0) (m : Nat) true)) (by intro c hc; have z := HA5.out.lt; simp at hc; subst hc; simp at z ⊢; omega))
  clear hb HA hC
  go_upto_region 4 with (refine wpList_store_row rfl 53 (.tmp 5) (.tmp 11) rfl w5.heap.size (readC 0 u0 (.slice none 0 0) (m : Nat) true) rfl rfl 53 _ h7.out size53 rfl (readC_one _ _ _ _ _ _ _) ?_)
  have hbw : w.heap.size < w5.heap.size := HA5.out.lt
  refine at_world (fun y => Sb w y [(w5.heap.size, .cells (readC 0 u0 (.slice none 0 0) (m : Nat) true) 53), (w.heap.size, (.cells (nodeC 0 u0 (.slice none 0 0)) 27))]) HF1.out fun y hy => ?_
  have HS := Lib.hid hy
  clear hy HF0 HF1 h7 HA5
  generalize w5.heap.size = b5 at *
  have e0 : y.cell? ⟨b5, 0, none⟩ = some (.int .i64 0) := HS.out.cell 0
  have e1 : y.cell? ⟨b5, 1, none⟩ = some (.int .u64 (u0 0)) := HS.out.cell 1
  have e2 : y.cell? ⟨b5, 2, none⟩ = some (.int .u64 (u0 1)) := HS.out.cell 2
  have e3 : y.cell? ⟨b5, 3, none⟩ = some (.int .u64 (u0 2)) := HS.out.cell 3
  have e4 : y.cell? ⟨b5, 4, none⟩ = some (.int .u64 (u0 3)) := HS.out.cell 4
  have e5 : y.cell? ⟨b5, 5, none⟩ = some (.slice none 0 0) := HS.out.cell 5
  have e6 : y.cell? ⟨b5, 6, none⟩ = some (.int .i64 ((m : Nat))) := HS.out.cell 6
  have e7 : y.cell? ⟨b5, 7, none⟩ = some (.bool true) := HS.out.cell 7
  have HS2 := Lib.hid HS.out.tl
  have g0 : y.cell? ⟨w.heap.size, 0, none⟩ = some (.int .i64 0) := HS2.out.cell 0
  have g1 : y.cell? ⟨w.heap.size, 1, none⟩ = some (.int .u64 (u0 0)) := HS2.out.cell 1
  have g2 : y.cell? ⟨w.heap.size, 2, none⟩ = some (.int .u64 (u0 1)) := HS2.out.cell 2
  have g3 : y.cell? ⟨w.heap.size, 3, none⟩ = some (.int .u64 (u0 2)) := HS2.out.cell 3
  have g4 : y.cell? ⟨w.heap.size, 4, none⟩ = some (.int .u64 (u0 3)) := HS2.out.cell 4
  have g5 : y.cell? ⟨w.heap.size, 5, none⟩ = some (.slice none 0 0) := HS2.out.cell 5
  have r0 : y.frozen? ⟨w.heap.size, 0, none⟩ = false := HS2.out.free 0
  have r1 : y.frozen? ⟨w.heap.size, 1, none⟩ = false := HS2.out.free 1
  have r2 : y.frozen? ⟨w.heap.size, 2, none⟩ = false := HS2.out.free 2
  have r3 : y.frozen? ⟨w.heap.size, 3, none⟩ = false := HS2.out.free 3
  have r4 : y.frozen? ⟨w.heap.size, 4, none⟩ = false := HS2.out.free 4
  have r5 : y.frozen? ⟨w.heap.size, 5, none⟩ = false := HS2.out.free 5
  go_upto_region 5 with fail
  go_region
  refine at_worldQ (fun z => Below w.heap.size w z ∧ z.heap[w.heap.size]? = some (.cells (nodeC 0 u0 (.slice none 0 0)) 27)) (six_set HS2.out) fun z hz => ?_
  have HZ := Lib.hid hz
  clear hz
  go_wp2_with fail
  (try simp only [Exit.inBlock, Exit.then])
  exact bodyPost_ret (v := .tuple #[zeroR, .int .i64 (m : Nat), .int .i64 50]) (results_parse22 rfl rfl rfl HZ.out.2) rfl ⟨rfl, HZ.out.1⟩
set_option maxHeartbeats 8000000 in
theorem pd_more {s : ByteArray} {m : Nat} (hs : s.size ≤ 256) (hm : m < s.size) (w : World) (hC : Hid (∀ w, Calls Tryd.prog 38 #[.string s, .int .i64 0] w fun e w' => (∃ (k1 : Int) (u1 : Nat → Int) (p1 : Option Addr) (n1 c1 : Nat), e = .returned (.agg (readC k1 u1 (.slice p1 n1 c1) (m : Nat) false))) ∧ Below w.heap.size w w')) :
    Calls Tryd.prog 22 #[.string s] w fun e w' => e = ret3 zeroR (m : Nat) 50 ∧ Below w.heap.size w w' := by
  have hz := zero27l
  have hz5 := zero53
  have hs3 : ¬ (256 : Int) < (s.size : Int) := by omega
  have HA := Lib.hid ((Sb.start w).alloc (.cells (nodeC 0 u0 (.slice none 0 0)) 27))
  go_enter Tryd.func22, Tryd.ntmps22
  go_wp2_with fail
  refine (hC.out _).mono ?_
  rintro _ w5 ⟨⟨k1, u1, p1, n1, c1, rfl⟩, hb⟩
  have hm' : (m : Int) < (s.size : Int) := by omega
  have HA5 := Lib.hid (HA.out.up hb)
  have HF0 := Lib.hid (HA5.out.alloc (.cells (readC 0 u0 (.slice none 0 0) 0 false) 53))
  have h7 := Lib.hid HF0.out.heap
  have HF1 := Lib.hid (HF0.out.setRow (cs' := (readC k1 u1 (.slice p1 n1 c1) (m : Nat) false)) (by intro c hc; have z := HA5.out.lt; simp at hc; subst hc; simp at z ⊢; omega))
  clear hb HA hC
  go_upto_region 4 with (refine wpList_store_row rfl 53 (.tmp 5) (.tmp 11) rfl w5.heap.size (readC k1 u1 (.slice p1 n1 c1) (m : Nat) false) rfl rfl 53 _ h7.out size53 rfl (readC_one _ _ _ _ _ _ _) ?_)
  have hbw : w.heap.size < w5.heap.size := HA5.out.lt
  refine at_world (fun y => Sb w y [(w5.heap.size, .cells (readC k1 u1 (.slice p1 n1 c1) (m : Nat) false) 53), (w.heap.size, (.cells (nodeC 0 u0 (.slice none 0 0)) 27))]) HF1.out fun y hy => ?_
  have HS := Lib.hid hy
  clear hy HF0 HF1 h7 HA5
  generalize w5.heap.size = b5 at *
  have e0 : y.cell? ⟨b5, 0, none⟩ = some (.int .i64 k1) := HS.out.cell 0
  have e1 : y.cell? ⟨b5, 1, none⟩ = some (.int .u64 (u1 0)) := HS.out.cell 1
  have e2 : y.cell? ⟨b5, 2, none⟩ = some (.int .u64 (u1 1)) := HS.out.cell 2
  have e3 : y.cell? ⟨b5, 3, none⟩ = some (.int .u64 (u1 2)) := HS.out.cell 3
  have e4 : y.cell? ⟨b5, 4, none⟩ = some (.int .u64 (u1 3)) := HS.out.cell 4
  have e5 : y.cell? ⟨b5, 5, none⟩ = some (.slice p1 n1 c1) := HS.out.cell 5
  have e6 : y.cell? ⟨b5, 6, none⟩ = some (.int .i64 ((m : Nat))) := HS.out.cell 6
  have e7 : y.cell? ⟨b5, 7, none⟩ = some (.bool false) := HS.out.cell 7
  have HS2 := Lib.hid HS.out.tl
  have g0 : y.cell? ⟨w.heap.size, 0, none⟩ = some (.int .i64 0) := HS2.out.cell 0
  have g1 : y.cell? ⟨w.heap.size, 1, none⟩ = some (.int .u64 (u0 0)) := HS2.out.cell 1
  have g2 : y.cell? ⟨w.heap.size, 2, none⟩ = some (.int .u64 (u0 1)) := HS2.out.cell 2
  have g3 : y.cell? ⟨w.heap.size, 3, none⟩ = some (.int .u64 (u0 2)) := HS2.out.cell 3
  have g4 : y.cell? ⟨w.heap.size, 4, none⟩ = some (.int .u64 (u0 3)) := HS2.out.cell 4
  have g5 : y.cell? ⟨w.heap.size, 5, none⟩ = some (.slice none 0 0) := HS2.out.cell 5
  have r0 : y.frozen? ⟨w.heap.size, 0, none⟩ = false := HS2.out.free 0
  have r1 : y.frozen? ⟨w.heap.size, 1, none⟩ = false := HS2.out.free 1
  have r2 : y.frozen? ⟨w.heap.size, 2, none⟩ = false := HS2.out.free 2
  have r3 : y.frozen? ⟨w.heap.size, 3, none⟩ = false := HS2.out.free 3
  have r4 : y.frozen? ⟨w.heap.size, 4, none⟩ = false := HS2.out.free 4
  have r5 : y.frozen? ⟨w.heap.size, 5, none⟩ = false := HS2.out.free 5
  go_upto_region 5 with fail
  go_region
  refine at_worldQ (fun z => Below w.heap.size w z ∧ z.heap[w.heap.size]? = some (.cells (nodeC 0 u0 (.slice none 0 0)) 27)) (six_set HS2.out) fun z hz => ?_
  have HZ := Lib.hid hz
  clear hz
  go_wp2_with fail
  (try simp only [Exit.inBlock, Exit.then])
  exact bodyPost_ret (v := .tuple #[zeroR, .int .i64 (m : Nat), .int .i64 50]) (results_parse22 rfl rfl rfl HZ.out.2) rfl ⟨rfl, HZ.out.1⟩
set_option maxHeartbeats 8000000 in
theorem pd_deep {s : ByteArray} {t : RT} (hs : s.size ≤ 256) (w : World) (hd : 16 < dep t) (hdp : dep t ≤ 1000) (hwd : wid t ≤ 1000) (hC : Hid (∀ w, Calls Tryd.prog 38 #[.string s, .int .i64 0] w fun e w' => (∃ (k1 : Int) (u1 : Nat → Int) (p1 : Option Addr) (n1 c1 : Nat), e = .returned (.agg (readC k1 u1 (.slice p1 n1 c1) (s.size : Nat) false)) ∧ RV (fun b => w.heap.size ≤ b ∧ b < w'.heap.size) w' t (.agg (nodeC k1 u1 (.slice p1 n1 c1)))) ∧ Below w.heap.size w w')) :
    Calls Tryd.prog 22 #[.string s] w (fun e w' => e = ret3 zeroR 0 51 ∧ Below w.heap.size w w') := by
  have hz := zero27l
  have hz5 := zero53
  have hs3 : ¬ (256 : Int) < (s.size : Int) := by omega
  have HA := Lib.hid ((Sb.start w).alloc (.cells (nodeC 0 u0 (.slice none 0 0)) 27))
  go_enter Tryd.func22, Tryd.ntmps22
  go_wp2_with fail
  refine (hC.out _).mono ?_
  rintro _ w5 ⟨⟨k1, u1, p1, n1, c1, rfl, hv⟩, hb⟩
  have hm' : ¬ (s.size : Int) < (s.size : Int) := by omega
  have hsz : (w.alloc (.cells #[.int .i64 0, .int .u64 0, .int .u64 0, .int .u64 0, .int .u64 0, .slice none 0 0] 27)).heap.size = w.heap.size + 1 := by simp
  have HA5 := Lib.hid (HA.out.up hb)
  have HF0 := Lib.hid (HA5.out.alloc (.cells (readC 0 u0 (.slice none 0 0) 0 false) 53))
  have h7 := Lib.hid HF0.out.heap
  have HF1 := Lib.hid (HF0.out.setRow (cs' := (readC k1 u1 (.slice p1 n1 c1) (s.size : Nat) false)) (by intro c hc; have z := HA5.out.lt; simp at hc; subst hc; simp at z ⊢; omega))
  have hV6 : RV (fun b => w.heap.size + 1 ≤ b ∧ b < w5.heap.size) ((w5.alloc (.cells (readC 0 u0 (.slice none 0 0) 0 false) 53)).setRow w5.heap.size (readC k1 u1 (.slice p1 n1 c1) (s.size : Nat) false)) t (.agg (nodeC k1 u1 (.slice p1 n1 c1))) := RV.mono (fun b h => ⟨by have := h.1; omega, h.2⟩) (fun b h _ => (setRow_other _ w5.heap.size b _ (by have := h.2; omega)).trans (((Below.refl w5.heap.size w5).alloc (Nat.le_refl _) _).block b h.2)) hv
  have HV6 := Lib.hid hV6
  have hsz6 : ((w5.alloc (.cells (readC 0 u0 (.slice none 0 0) 0 false) 53)).setRow w5.heap.size (readC k1 u1 (.slice p1 n1 c1) (s.size : Nat) false)).heap.size = w5.heap.size + 1 := by simp
  clear hb HA hC hv hV6 hsz
  go_upto_region 4 with (refine wpList_store_row rfl 53 (.tmp 5) (.tmp 11) rfl w5.heap.size (readC k1 u1 (.slice p1 n1 c1) (s.size : Nat) false) rfl rfl 53 _ h7.out size53 rfl (readC_one _ _ _ _ _ _ _) ?_)
  have hbw : w.heap.size < w5.heap.size := HA5.out.lt
  refine at_world (fun y => Sb w y [(w5.heap.size, .cells (readC k1 u1 (.slice p1 n1 c1) (s.size : Nat) false) 53), (w.heap.size, (.cells (nodeC 0 u0 (.slice none 0 0)) 27))] ∧ RV (fun b => w.heap.size + 1 ≤ b ∧ b < w5.heap.size) y t (.agg (nodeC k1 u1 (.slice p1 n1 c1))) ∧ y.heap.size = w5.heap.size + 1) ⟨HF1.out, HV6.out, hsz6⟩ fun y hy => ?_
  have HS := Lib.hid hy.1
  have HV := Lib.hid hy.2.1
  have HZ := Lib.hid hy.2.2
  clear hy HF0 HF1 h7 HA5 HV6 hsz6
  generalize w5.heap.size = b5 at *
  have e0 : y.cell? ⟨b5, 0, none⟩ = some (.int .i64 k1) := HS.out.cell 0
  have e1 : y.cell? ⟨b5, 1, none⟩ = some (.int .u64 (u1 0)) := HS.out.cell 1
  have e2 : y.cell? ⟨b5, 2, none⟩ = some (.int .u64 (u1 1)) := HS.out.cell 2
  have e3 : y.cell? ⟨b5, 3, none⟩ = some (.int .u64 (u1 2)) := HS.out.cell 3
  have e4 : y.cell? ⟨b5, 4, none⟩ = some (.int .u64 (u1 3)) := HS.out.cell 4
  have e5 : y.cell? ⟨b5, 5, none⟩ = some (.slice p1 n1 c1) := HS.out.cell 5
  have e6 : y.cell? ⟨b5, 6, none⟩ = some (.int .i64 ((s.size : Nat))) := HS.out.cell 6
  have e7 : y.cell? ⟨b5, 7, none⟩ = some (.bool false) := HS.out.cell 7
  have HDp := Lib.hid (deep_any (D := fun b => w.heap.size + 1 ≤ b ∧ b < b5) 1000 t hdp (Nat.le_refl _) (fun b h => by have := h.2; have := HZ.out; omega) hwd HV.out)
  unfold nodeC at HDp
  generalize hdt : dep t = dt at *
  have hd' : (16 : Int) < (dt : Int) := by omega
  clear hd hdp hwd hdt
  go_wp2_with fail
  refine HDp.out.mono ?_
  rintro _ y2 ⟨rfl, hb⟩
  have HS2 := Lib.hid (HS.out.up hb)
  have HV2 : Hid (RV (fun b => w.heap.size + 1 ≤ b ∧ b < b5) y2 t (.agg (nodeC k1 u1 (.slice p1 n1 c1)))) := Lib.hid (HV.out.mono (fun b h => h) (fun b h hlt => hb.block b hlt))
  have hzz := hb.size
  have HZ2 := Lib.hid (show b5 + 1 ≤ y2.heap.size by have := HZ.out; omega)
  clear hb hzz HS HV HZ HDp e0 e1 e2 e3 e4 e5 e6 e7
  have e0 : y2.cell? ⟨b5, 0, none⟩ = some (.int .i64 k1) := HS2.out.cell 0
  have e1 : y2.cell? ⟨b5, 1, none⟩ = some (.int .u64 (u1 0)) := HS2.out.cell 1
  have e2 : y2.cell? ⟨b5, 2, none⟩ = some (.int .u64 (u1 1)) := HS2.out.cell 2
  have e3 : y2.cell? ⟨b5, 3, none⟩ = some (.int .u64 (u1 2)) := HS2.out.cell 3
  have e4 : y2.cell? ⟨b5, 4, none⟩ = some (.int .u64 (u1 3)) := HS2.out.cell 4
  have e5 : y2.cell? ⟨b5, 5, none⟩ = some (.slice p1 n1 c1) := HS2.out.cell 5
  have e6 : y2.cell? ⟨b5, 6, none⟩ = some (.int .i64 ((s.size : Nat))) := HS2.out.cell 6
  have e7 : y2.cell? ⟨b5, 7, none⟩ = some (.bool false) := HS2.out.cell 7
  have h9 := Lib.hid HS2.out.tl.heap
  go_wp2_with (first | (refine wpList_bzero rfl rfl ?_) | (refine wpList_store_row rfl 27 (.tmp 2) (.tmp 28) rfl w.heap.size (nodeC 0 u0 (.slice none 0 0)) rfl rfl 27 _ h9.out size27r rfl (nodeC_one _ _ _ _ _) ?_))
  exact bodyPost_ret (v := .tuple #[zeroR, .int .i64 0, .int .i64 51]) (results_parse22 rfl rfl rfl (setRow_heap _ w.heap.size _ _ 27 (0, 0) h9.out)) rfl ⟨rfl, below_row HS2.out.1 (Nat.le_refl _) _⟩
set_option maxHeartbeats 8000000 in
theorem pd_ok {s : ByteArray} {t : RT} (hs : s.size ≤ 256) (w : World) (hd : ¬ 16 < dep t) (hdp : dep t ≤ 1000) (hwd : wid t ≤ 1000) (hC : Hid (∀ w, Calls Tryd.prog 38 #[.string s, .int .i64 0] w fun e w' => (∃ (k1 : Int) (u1 : Nat → Int) (p1 : Option Addr) (n1 c1 : Nat), e = .returned (.agg (readC k1 u1 (.slice p1 n1 c1) (s.size : Nat) false)) ∧ RV (fun b => w.heap.size ≤ b ∧ b < w'.heap.size) w' t (.agg (nodeC k1 u1 (.slice p1 n1 c1)))) ∧ Below w.heap.size w w')) :
    Calls Tryd.prog 22 #[.string s] w (PP t 0 0 w) := by
  have hz := zero27l
  have hz5 := zero53
  have hs3 : ¬ (256 : Int) < (s.size : Int) := by omega
  have HA := Lib.hid ((Sb.start w).alloc (.cells (nodeC 0 u0 (.slice none 0 0)) 27))
  go_enter Tryd.func22, Tryd.ntmps22
  go_wp2_with fail
  refine (hC.out _).mono ?_
  rintro _ w5 ⟨⟨k1, u1, p1, n1, c1, rfl, hv⟩, hb⟩
  have hm' : ¬ (s.size : Int) < (s.size : Int) := by omega
  have hsz : (w.alloc (.cells #[.int .i64 0, .int .u64 0, .int .u64 0, .int .u64 0, .int .u64 0, .slice none 0 0] 27)).heap.size = w.heap.size + 1 := by simp
  have HA5 := Lib.hid (HA.out.up hb)
  have HF0 := Lib.hid (HA5.out.alloc (.cells (readC 0 u0 (.slice none 0 0) 0 false) 53))
  have h7 := Lib.hid HF0.out.heap
  have HF1 := Lib.hid (HF0.out.setRow (cs' := (readC k1 u1 (.slice p1 n1 c1) (s.size : Nat) false)) (by intro c hc; have z := HA5.out.lt; simp at hc; subst hc; simp at z ⊢; omega))
  have hV6 : RV (fun b => w.heap.size + 1 ≤ b ∧ b < w5.heap.size) ((w5.alloc (.cells (readC 0 u0 (.slice none 0 0) 0 false) 53)).setRow w5.heap.size (readC k1 u1 (.slice p1 n1 c1) (s.size : Nat) false)) t (.agg (nodeC k1 u1 (.slice p1 n1 c1))) := RV.mono (fun b h => ⟨by have := h.1; omega, h.2⟩) (fun b h _ => (setRow_other _ w5.heap.size b _ (by have := h.2; omega)).trans (((Below.refl w5.heap.size w5).alloc (Nat.le_refl _) _).block b h.2)) hv
  have HV6 := Lib.hid hV6
  have hsz6 : ((w5.alloc (.cells (readC 0 u0 (.slice none 0 0) 0 false) 53)).setRow w5.heap.size (readC k1 u1 (.slice p1 n1 c1) (s.size : Nat) false)).heap.size = w5.heap.size + 1 := by simp
  clear hb HA hC hv hV6 hsz
  go_upto_region 4 with (refine wpList_store_row rfl 53 (.tmp 5) (.tmp 11) rfl w5.heap.size (readC k1 u1 (.slice p1 n1 c1) (s.size : Nat) false) rfl rfl 53 _ h7.out size53 rfl (readC_one _ _ _ _ _ _ _) ?_)
  have hbw : w.heap.size < w5.heap.size := HA5.out.lt
  refine at_world (fun y => Sb w y [(w5.heap.size, .cells (readC k1 u1 (.slice p1 n1 c1) (s.size : Nat) false) 53), (w.heap.size, (.cells (nodeC 0 u0 (.slice none 0 0)) 27))] ∧ RV (fun b => w.heap.size + 1 ≤ b ∧ b < w5.heap.size) y t (.agg (nodeC k1 u1 (.slice p1 n1 c1))) ∧ y.heap.size = w5.heap.size + 1) ⟨HF1.out, HV6.out, hsz6⟩ fun y hy => ?_
  have HS := Lib.hid hy.1
  have HV := Lib.hid hy.2.1
  have HZ := Lib.hid hy.2.2
  clear hy HF0 HF1 h7 HA5 HV6 hsz6
  generalize w5.heap.size = b5 at *
  have e0 : y.cell? ⟨b5, 0, none⟩ = some (.int .i64 k1) := HS.out.cell 0
  have e1 : y.cell? ⟨b5, 1, none⟩ = some (.int .u64 (u1 0)) := HS.out.cell 1
  have e2 : y.cell? ⟨b5, 2, none⟩ = some (.int .u64 (u1 1)) := HS.out.cell 2
  have e3 : y.cell? ⟨b5, 3, none⟩ = some (.int .u64 (u1 2)) := HS.out.cell 3
  have e4 : y.cell? ⟨b5, 4, none⟩ = some (.int .u64 (u1 3)) := HS.out.cell 4
  have e5 : y.cell? ⟨b5, 5, none⟩ = some (.slice p1 n1 c1) := HS.out.cell 5
  have e6 : y.cell? ⟨b5, 6, none⟩ = some (.int .i64 ((s.size : Nat))) := HS.out.cell 6
  have e7 : y.cell? ⟨b5, 7, none⟩ = some (.bool false) := HS.out.cell 7
  have HDp := Lib.hid (deep_any (D := fun b => w.heap.size + 1 ≤ b ∧ b < b5) 1000 t hdp (Nat.le_refl _) (fun b h => by have := h.2; have := HZ.out; omega) hwd HV.out)
  unfold nodeC at HDp
  generalize hdt : dep t = dt at *
  have hd' : ¬ (16 : Int) < (dt : Int) := by omega
  clear hd hdp hwd hdt
  go_wp2_with fail
  refine HDp.out.mono ?_
  rintro _ y2 ⟨rfl, hb⟩
  have HS2 := Lib.hid (HS.out.up hb)
  have HV2 : Hid (RV (fun b => w.heap.size + 1 ≤ b ∧ b < b5) y2 t (.agg (nodeC k1 u1 (.slice p1 n1 c1)))) := Lib.hid (HV.out.mono (fun b h => h) (fun b h hlt => hb.block b hlt))
  have hzz := hb.size
  have HZ2 := Lib.hid (show b5 + 1 ≤ y2.heap.size by have := HZ.out; omega)
  clear hb hzz HS HV HZ HDp e0 e1 e2 e3 e4 e5 e6 e7
  have e0 : y2.cell? ⟨b5, 0, none⟩ = some (.int .i64 k1) := HS2.out.cell 0
  have e1 : y2.cell? ⟨b5, 1, none⟩ = some (.int .u64 (u1 0)) := HS2.out.cell 1
  have e2 : y2.cell? ⟨b5, 2, none⟩ = some (.int .u64 (u1 1)) := HS2.out.cell 2
  have e3 : y2.cell? ⟨b5, 3, none⟩ = some (.int .u64 (u1 2)) := HS2.out.cell 3
  have e4 : y2.cell? ⟨b5, 4, none⟩ = some (.int .u64 (u1 3)) := HS2.out.cell 4
  have e5 : y2.cell? ⟨b5, 5, none⟩ = some (.slice p1 n1 c1) := HS2.out.cell 5
  have e6 : y2.cell? ⟨b5, 6, none⟩ = some (.int .i64 ((s.size : Nat))) := HS2.out.cell 6
  have e7 : y2.cell? ⟨b5, 7, none⟩ = some (.bool false) := HS2.out.cell 7
  have h9 := Lib.hid HS2.out.tl.heap
  go_wp2_with (refine wpList_store_row rfl 27 (.tmp 2) (.tmp 30) rfl w.heap.size (nodeC k1 u1 (.slice p1 n1 c1)) rfl rfl 27 _ h9.out size27r rfl (nodeC_one _ _ _ _ _) ?_)
  exact bodyPost_ret (v := .tuple #[.agg (nodeC k1 u1 (.slice p1 n1 c1)), .int .i64 0, .int .i64 0]) (results_parse22 rfl rfl rfl (setRow_heap _ w.heap.size _ _ 27 (0, 0) h9.out)) rfl ⟨⟨_, rfl, HV2.out.mono (fun b h => ⟨by have := h.1; omega, by have := HZ2.out; simp; have := h.2; omega⟩) (fun b h _ => setRow_other _ w.heap.size b _ (by have := h.1; omega))⟩, below_row HS2.out.1 (Nat.le_refl _) _⟩
end Go.Proofs.YtmjojahkbjlcdaaDoor
