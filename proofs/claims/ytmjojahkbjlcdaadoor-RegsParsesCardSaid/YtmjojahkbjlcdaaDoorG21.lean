/- Package regs: the reader's small steps: what comes next. -/
import Derived.Test.YtmjojahkbjlcdaaDoorProg
import Derived.Test.YtmjojahkbjlcdaaDoorY3
import Derived.Test.YtmjojahkbjlcdaaDoorY4
import Derived.WalkKit
import Derived.WalkLawsBesides
import Derived.WalkSpells
import Derived.Outline
import Derived.Lib.Walk
import Derived.Lib.Hide
import Derived.RegionTactic
import Derived.LoopTactic
import Derived.Below
import Derived.IntWalk
import Derived.Deep.QuietTactic
import Derived.BigQuiet
import Derived.Defers
import Derived.Recover
import Derived.Test.YtmjojahkbjlcdaaDoorY18
namespace Go.Proofs.YtmjojahkbjlcdaaDoor
set_option linter.unusedSimpArgs false
set_option linter.unusedVariables false
set_option maxRecDepth 100000
open Go.RowKit

set_option maxHeartbeats 4000000 in
theorem parse_long {s : ByteArray} (hs : 256 < s.size) (hs2 : s.size ≤ 9223372036854775807) (w : World) :
    Calls Tryd.prog 21 #[.string s] w fun e w' => e = ret3 zeroR 0 3 ∧ Below w.heap.size w w' := by
  have hz := zero27l
  have hs3 : (256 : Int) < (s.size : Int) := by omega
  have S0 := Lib.hid ((((Sb.start w).alloc (.cells lit0 27)).alloc (.cells #[.int .i64 0] 3)).alloc (.cells #[.int .i64 3] 30))
  have z1 : (w.alloc (.cells lit0 27)).heap.size = w.heap.size + 1 := by simp
  have z2 : ((w.alloc (.cells lit0 27)).alloc (.cells #[.int .i64 0] 3)).heap.size = w.heap.size + 1 + 1 := by simp
  rw [z1, z2] at S0
  clear z1 z2
  go_enter_defers Tryd.func21, Tryd.ntmps21
  go_wp2
  exact ⟨_, results_parse (k := 0) (u := u0) (p := none) (n := 0) (c := 0) rfl rfl rfl S0.out.tl.tl.heap (S0.out.tl.cell 0) (S0.out.cell 0), rfl, S0.out.1⟩
set_option maxHeartbeats 4000000 in
theorem parse_deep {s : ByteArray} {t : RT} (hs : s.size ≤ 256) (w : World) (hd : 16 < dep t) (hdp : dep t ≤ 1000) (hwd : wid t ≤ 1000) (hW : Hid (∀ rb w, GA rb s s.data.toList w → Calls Tryd.prog 37 #[.pointer (some ⟨rb, 0, none⟩)] w (WholeP rb s w (.ok t)))) :
    Calls Tryd.prog 21 #[.string s] w fun e w' => e = ret3 zeroR 0 51 ∧ Below w.heap.size w w' := by
  have hmf : ∀ (fn : Fn) (first cap : Array Value) (w : World), (Instr.makeFunc fn first cap).run Tryd.prog w = .ok (.func fn first cap) w := fun _ _ _ _ => rfl
  have hz := zero27l
  have hs2 : ¬ 256 < (s.size : Int) := by omega
  have S0 := Lib.hid (((((Sb.start w).alloc (.cells lit0 27)).alloc (.cells #[.int .i64 0] 3)).alloc (.cells #[.int .i64 0] 30)).alloc (.cells #[.string s, .int .i64 0] 50))
  have z1 : (w.alloc (.cells lit0 27)).heap.size = w.heap.size + 1 := by simp
  have z2 : ((w.alloc (.cells lit0 27)).alloc (.cells #[.int .i64 0] 3)).heap.size = w.heap.size + 1 + 1 := by simp
  have z3 : (((w.alloc (.cells lit0 27)).alloc (.cells #[.int .i64 0] 3)).alloc (.cells #[.int .i64 0] 30)).heap.size = w.heap.size + 1 + 1 + 1 := by simp
  have z4 : ((((w.alloc (.cells lit0 27)).alloc (.cells #[.int .i64 0] 3)).alloc (.cells #[.int .i64 0] 30)).alloc (.cells #[.string s, .int .i64 0] 50)).heap.size = w.heap.size + 1 + 1 + 1 + 1 := by simp
  rw [z1, z2, z3] at S0
  clear z1 z2 z3
  have hA0 : Hid (GA (w.heap.size + 1 + 1 + 1) s s.data.toList ((((w.alloc (.cells lit0 27)).alloc (.cells #[.int .i64 0] 3)).alloc (.cells #[.int .i64 0] 30)).alloc (.cells #[.string s, .int .i64 0] 50))) := Lib.hid ⟨Suf.whole s, by
    have h : s.size - s.data.toList.length = 0 := by simp
    unfold Gat; rw [h]; exact S0.out.heap⟩
  go_enter_defers Tryd.func21, Tryd.ntmps21
  go_wp2_with fail
  have hWA := Lib.hid (hW.out _ _ hA0.out)
  have SB := Lib.hid S0.out.2
  have S1 := Lib.hid S0.out.1
  clear S0 hA0
  unfold lit0 at hWA S1 SB z4
  generalize ((((w.alloc (.cells #[.int .i64 0, .int .u64 0, .int .u64 0, .int .u64 0, .int .u64 0, .slice none 0 0] 27)).alloc (.cells #[.int .i64 0] 3)).alloc (.cells #[.int .i64 0] 30)).alloc (.cells #[.string s, .int .i64 0] 50)) = wA at *
  refine hWA.out.mono ?_
  rintro _ w1 ⟨⟨v, rfl, hv⟩, hk⟩
  obtain ⟨k5, u5, p5, n5, c5, rfl⟩ := hv.form
  have HK := Lib.hid hk
  have hk9 := hk.1.size
  have e1 := (SB.out (w.heap.size, .cells #[.int .i64 0, .int .u64 0, .int .u64 0, .int .u64 0, .int .u64 0, .slice none 0 0] 27) (by simp)).2
  have e2 := (SB.out (w.heap.size + 1, .cells #[.int .i64 0] 3) (by simp)).2
  have e3 := (SB.out (w.heap.size + 1 + 1, .cells #[.int .i64 0] 30) (by simp)).2
  have h1 := Lib.hid ((HK.out.gk.old (Array.getElem?_eq_some_iff.1 e1).1 (by omega)).trans e1)
  have h2 := Lib.hid ((HK.out.gk.old (Array.getElem?_eq_some_iff.1 e2).1 (by omega)).trans e2)
  have h3 := Lib.hid ((HK.out.gk.old (Array.getElem?_eq_some_iff.1 e3).1 (by omega)).trans e3)
  clear e1 e2 e3 hk
  have hB1 : Hid (Below w.heap.size w (w1.setRow w.heap.size (nodeC k5 u5 (.slice p5 n5 c5)))) := Lib.hid (by
    have h9 := HK.out.1
    refine ⟨h9.os.trans S1.out.os, h9.tape.trans S1.out.tape, h9.output.trans S1.out.output, by have h8 := h9.size; have h7 := S1.out.size; simpa using Nat.le_trans h7 h8, fun j hj => ?_⟩
    rw [setRow_other w1 w.heap.size j _ (by omega), h9.block j (Nat.lt_of_lt_of_le hj S1.out.size) (fun e => by cases e; omega), S1.out.block j hj])
  have q1 := Lib.hid (setRow_heap w1 w.heap.size _ (nodeC k5 u5 (.slice p5 n5 c5)) 27 (0, 0) h1.out)
  have q2 := Lib.hid ((setRow_other w1 w.heap.size (w.heap.size + 1) (nodeC k5 u5 (.slice p5 n5 c5)) (by omega)).trans h2.out)
  have q3 := Lib.hid ((setRow_other w1 w.heap.size (w.heap.size + 1 + 1) (nodeC k5 u5 (.slice p5 n5 c5)) (by omega)).trans h3.out)
  have hszq : (w1.setRow w.heap.size (nodeC k5 u5 (.slice p5 n5 c5))).heap.size = w1.heap.size := by simp
  have HV : Hid (RV (fun b => wA.heap.size ≤ b ∧ b < w1.heap.size) (w1.setRow w.heap.size (nodeC k5 u5 (.slice p5 n5 c5))) t (.agg (nodeC k5 u5 (.slice p5 n5 c5)))) := Lib.hid (hv.mono (fun b h => h) (fun b hb _ => setRow_other w1 w.heap.size b _ (by omega)))
  go_wp2_with (first | (refine wpList_store_row rfl 27 (.tmp 2) (.tmp 13) rfl w.heap.size (nodeC k5 u5 (.slice p5 n5 c5)) rfl rfl 27 _ h1.out size27r rfl (nodeC_one _ _ _ _ _) ?_) | (refine wpList_load_row rfl 27 (.tmp 2) rfl w.heap.size rfl 27 _ (0, 0) _ q1.out Tryd.underlying27 rfl size27r ?_))
  clear hv h1 h2 h3 HK S1 SB hWA
  have hdd := Lib.hid (depth_any (D := fun b => wA.heap.size ≤ b ∧ b < w1.heap.size) (dep t) t (w := w1.setRow w.heap.size (nodeC k5 u5 (.slice p5 n5 c5))) (Nat.le_refl _) hdp (fun b hb => by rw [hszq]; exact hb.2) hwd HV.out)
  generalize w1.setRow w.heap.size (nodeC k5 u5 (.slice p5 n5 c5)) = w2 at *
  refine hdd.out.mono ?_
  rintro _ w6 ⟨rfl, hb⟩
  have h1 := Lib.hid ((hb.block w.heap.size (Array.getElem?_eq_some_iff.1 q1.out).1).trans q1.out)
  have h2 := Lib.hid ((hb.block (w.heap.size + 1) (Array.getElem?_eq_some_iff.1 q2.out).1).trans q2.out)
  have h3 := Lib.hid ((hb.block (w.heap.size + 1 + 1) (Array.getElem?_eq_some_iff.1 q3.out).1).trans q3.out)
  have hB6 : Below w.heap.size w w6 := hB1.out.trans (hb.mono hB1.out.size)
  have HV6 := Lib.hid (RV.mono (fun b h => h) (fun b hb' hlt => hb.block b hlt) HV.out)
  have hsz6 := hb.size
  clear hb q1 q2 q3 hdd HV
  generalize dep t = d at *
  have hd' : (16 : Int) < (d : Int) := by omega
  have q1 := setRow_heap w6 w.heap.size _ (nodeC 0 u0 (.slice none 0 0)) 27 (0, 0) h1.out
  have q2 := (setRow_other w6 w.heap.size (w.heap.size + 1) (nodeC 0 u0 (.slice none 0 0)) (by omega)).trans h2.out
  have q3 := (setRow_other w6 w.heap.size (w.heap.size + 1 + 1) (nodeC 0 u0 (.slice none 0 0)) (by omega)).trans h3.out
  have g2 := cell_of_row _ (w.heap.size + 1) 0 _ 3 (0, 0) q2
  have f2 := frozen_of_row _ (w.heap.size + 1) 0 _ 3 q2
  have p1 := (heap_setCell_other _ ⟨w.heap.size + 1, 0, none⟩ w.heap.size (.int .i64 0) (show w.heap.size ≠ w.heap.size + 1 by omega)).trans q1
  have p2 := heap_setCell_same _ (w.heap.size + 1) 0 _ 3 (.int .i64 0) q2
  have p3 := (heap_setCell_other _ ⟨w.heap.size + 1, 0, none⟩ (w.heap.size + 1 + 1) (.int .i64 0) (show w.heap.size + 1 + 1 ≠ w.heap.size + 1 by omega)).trans q3
  have g3 := cell_of_row _ (w.heap.size + 1 + 1) 0 _ 30 (0, 0) p3
  have f3 := frozen_of_row _ (w.heap.size + 1 + 1) 0 _ 30 p3
  have o1 := (heap_setCell_other _ ⟨w.heap.size + 1 + 1, 0, none⟩ w.heap.size (.int .i64 51) (show w.heap.size ≠ w.heap.size + 1 + 1 by omega)).trans p1
  have o2 := (heap_setCell_other _ ⟨w.heap.size + 1 + 1, 0, none⟩ (w.heap.size + 1) (.int .i64 51) (show w.heap.size + 1 ≠ w.heap.size + 1 + 1 by omega)).trans p2
  have o3 := heap_setCell_same _ (w.heap.size + 1 + 1) 0 _ 30 (.int .i64 51) p3
  simp only [List.getElem?_toArray, List.getElem?_cons_zero] at g2 g3
  have hBz : Below w.heap.size w (w6.setRow w.heap.size (nodeC 0 u0 (.slice none 0 0))) := ⟨hB6.os, hB6.tape, hB6.output, by simpa using hB6.size, fun j hj => (setRow_other w6 w.heap.size j _ (by omega)).trans (hB6.block j hj)⟩
  have HO1 := Lib.hid o1
  have HO2 := Lib.hid o2
  have HO3 := Lib.hid o3
  have HBZ := Lib.hid ((hBz.setCell (p := ⟨w.heap.size + 1, 0, none⟩) (by simp) (.int .i64 0)).setCell (p := ⟨w.heap.size + 1 + 1, 0, none⟩) (by simp; omega) (.int .i64 51))
  clear q1 q2 q3 p1 p2 p3 o1 o2 o3 hBz
  go_wp2_with (refine wpList_store_row rfl 27 (.tmp 2) (.tmp 17) rfl w.heap.size (nodeC 0 u0 (.slice none 0 0)) rfl rfl 27 _ h1.out size27r rfl (nodeC_one _ _ _ _ _) ?_)
  refine leaves_cons (f := 36) (args := #[.pointer (some ⟨w.heap.size + 1 + 1 + 1, 0, none⟩), .pointer (some ⟨w.heap.size, 0, none⟩), .pointer (some ⟨w.heap.size + 1, 0, none⟩), .pointer (some ⟨w.heap.size + 1 + 1, 0, none⟩)]) (by simp) (by simp [go_sem]) ?_
  refine (close_ret _ _ _ _ _).mono ?_
  rintro e u' w'' ⟨rfl, rfl, rfl⟩
  exact ⟨.tuple #[zeroR, .int .i64 0, .int .i64 51], results_parse rfl rfl rfl HO1.out (cell_of_row _ (w.heap.size + 1) 0 _ 3 (0, 0) HO2.out) (cell_of_row _ (w.heap.size + 1 + 1) 0 _ 30 (0, 0) HO3.out), rfl, HBZ.out⟩
/-- What Parse answers of a pattern. -/
def ParsedP (t : RT) (w : World) (e : Ending) (w' : World) : Prop := (∃ v, e = ret3 v 0 0 ∧ RV (fun b => w.heap.size ≤ b ∧ b < w'.heap.size) w' t v) ∧ Below w.heap.size w w'
set_option maxHeartbeats 4000000 in
theorem parse_ok {s : ByteArray} {t : RT} (hs : s.size ≤ 256) (w : World) (hd : ¬ 16 < dep t) (hdp : dep t ≤ 1000) (hwd : wid t ≤ 1000) (hW : Hid (∀ rb w, GA rb s s.data.toList w → Calls Tryd.prog 37 #[.pointer (some ⟨rb, 0, none⟩)] w (WholeP rb s w (.ok t)))) :
    Calls Tryd.prog 21 #[.string s] w (ParsedP t w) := by
  have hmf : ∀ (fn : Fn) (first cap : Array Value) (w : World), (Instr.makeFunc fn first cap).run Tryd.prog w = .ok (.func fn first cap) w := fun _ _ _ _ => rfl
  have hz := zero27l
  have hs2 : ¬ 256 < (s.size : Int) := by omega
  have S0 := Lib.hid (((((Sb.start w).alloc (.cells lit0 27)).alloc (.cells #[.int .i64 0] 3)).alloc (.cells #[.int .i64 0] 30)).alloc (.cells #[.string s, .int .i64 0] 50))
  have z1 : (w.alloc (.cells lit0 27)).heap.size = w.heap.size + 1 := by simp
  have z2 : ((w.alloc (.cells lit0 27)).alloc (.cells #[.int .i64 0] 3)).heap.size = w.heap.size + 1 + 1 := by simp
  have z3 : (((w.alloc (.cells lit0 27)).alloc (.cells #[.int .i64 0] 3)).alloc (.cells #[.int .i64 0] 30)).heap.size = w.heap.size + 1 + 1 + 1 := by simp
  have z4 : ((((w.alloc (.cells lit0 27)).alloc (.cells #[.int .i64 0] 3)).alloc (.cells #[.int .i64 0] 30)).alloc (.cells #[.string s, .int .i64 0] 50)).heap.size = w.heap.size + 1 + 1 + 1 + 1 := by simp
  rw [z1, z2, z3] at S0
  clear z1 z2 z3
  have hA0 : Hid (GA (w.heap.size + 1 + 1 + 1) s s.data.toList ((((w.alloc (.cells lit0 27)).alloc (.cells #[.int .i64 0] 3)).alloc (.cells #[.int .i64 0] 30)).alloc (.cells #[.string s, .int .i64 0] 50))) := Lib.hid ⟨Suf.whole s, by
    have h : s.size - s.data.toList.length = 0 := by simp
    unfold Gat; rw [h]; exact S0.out.heap⟩
  go_enter_defers Tryd.func21, Tryd.ntmps21
  go_wp2_with fail
  have hWA := Lib.hid (hW.out _ _ hA0.out)
  have SB := Lib.hid S0.out.2
  have S1 := Lib.hid S0.out.1
  clear S0 hA0
  unfold lit0 at hWA S1 SB z4
  generalize ((((w.alloc (.cells #[.int .i64 0, .int .u64 0, .int .u64 0, .int .u64 0, .int .u64 0, .slice none 0 0] 27)).alloc (.cells #[.int .i64 0] 3)).alloc (.cells #[.int .i64 0] 30)).alloc (.cells #[.string s, .int .i64 0] 50)) = wA at *
  refine hWA.out.mono ?_
  rintro _ w1 ⟨⟨v, rfl, hv⟩, hk⟩
  obtain ⟨k5, u5, p5, n5, c5, rfl⟩ := hv.form
  have HK := Lib.hid hk
  have hk9 := hk.1.size
  have e1 := (SB.out (w.heap.size, .cells #[.int .i64 0, .int .u64 0, .int .u64 0, .int .u64 0, .int .u64 0, .slice none 0 0] 27) (by simp)).2
  have e2 := (SB.out (w.heap.size + 1, .cells #[.int .i64 0] 3) (by simp)).2
  have e3 := (SB.out (w.heap.size + 1 + 1, .cells #[.int .i64 0] 30) (by simp)).2
  have h1 := Lib.hid ((HK.out.gk.old (Array.getElem?_eq_some_iff.1 e1).1 (by omega)).trans e1)
  have h2 := Lib.hid ((HK.out.gk.old (Array.getElem?_eq_some_iff.1 e2).1 (by omega)).trans e2)
  have h3 := Lib.hid ((HK.out.gk.old (Array.getElem?_eq_some_iff.1 e3).1 (by omega)).trans e3)
  clear e1 e2 e3 hk
  have hB1 : Hid (Below w.heap.size w (w1.setRow w.heap.size (nodeC k5 u5 (.slice p5 n5 c5)))) := Lib.hid (by
    have h9 := HK.out.1
    refine ⟨h9.os.trans S1.out.os, h9.tape.trans S1.out.tape, h9.output.trans S1.out.output, by have h8 := h9.size; have h7 := S1.out.size; simpa using Nat.le_trans h7 h8, fun j hj => ?_⟩
    rw [setRow_other w1 w.heap.size j _ (by omega), h9.block j (Nat.lt_of_lt_of_le hj S1.out.size) (fun e => by cases e; omega), S1.out.block j hj])
  have q1 := Lib.hid (setRow_heap w1 w.heap.size _ (nodeC k5 u5 (.slice p5 n5 c5)) 27 (0, 0) h1.out)
  have q2 := Lib.hid ((setRow_other w1 w.heap.size (w.heap.size + 1) (nodeC k5 u5 (.slice p5 n5 c5)) (by omega)).trans h2.out)
  have q3 := Lib.hid ((setRow_other w1 w.heap.size (w.heap.size + 1 + 1) (nodeC k5 u5 (.slice p5 n5 c5)) (by omega)).trans h3.out)
  have hszq : (w1.setRow w.heap.size (nodeC k5 u5 (.slice p5 n5 c5))).heap.size = w1.heap.size := by simp
  have HV : Hid (RV (fun b => wA.heap.size ≤ b ∧ b < w1.heap.size) (w1.setRow w.heap.size (nodeC k5 u5 (.slice p5 n5 c5))) t (.agg (nodeC k5 u5 (.slice p5 n5 c5)))) := Lib.hid (hv.mono (fun b h => h) (fun b hb _ => setRow_other w1 w.heap.size b _ (by omega)))
  go_wp2_with (first | (refine wpList_store_row rfl 27 (.tmp 2) (.tmp 13) rfl w.heap.size (nodeC k5 u5 (.slice p5 n5 c5)) rfl rfl 27 _ h1.out size27r rfl (nodeC_one _ _ _ _ _) ?_) | (refine wpList_load_row rfl 27 (.tmp 2) rfl w.heap.size rfl 27 _ (0, 0) _ q1.out Tryd.underlying27 rfl size27r ?_))
  clear hv h1 h2 h3 HK S1 SB hWA
  have hdd := Lib.hid (depth_any (D := fun b => wA.heap.size ≤ b ∧ b < w1.heap.size) (dep t) t (w := w1.setRow w.heap.size (nodeC k5 u5 (.slice p5 n5 c5))) (Nat.le_refl _) hdp (fun b hb => by rw [hszq]; exact hb.2) hwd HV.out)
  generalize w1.setRow w.heap.size (nodeC k5 u5 (.slice p5 n5 c5)) = w2 at *
  refine hdd.out.mono ?_
  rintro _ w6 ⟨rfl, hb⟩
  have h1 := Lib.hid ((hb.block w.heap.size (Array.getElem?_eq_some_iff.1 q1.out).1).trans q1.out)
  have h2 := Lib.hid ((hb.block (w.heap.size + 1) (Array.getElem?_eq_some_iff.1 q2.out).1).trans q2.out)
  have h3 := Lib.hid ((hb.block (w.heap.size + 1 + 1) (Array.getElem?_eq_some_iff.1 q3.out).1).trans q3.out)
  have hB6 : Below w.heap.size w w6 := hB1.out.trans (hb.mono hB1.out.size)
  have HV6 := Lib.hid (RV.mono (fun b h => h) (fun b hb' hlt => hb.block b hlt) HV.out)
  have hsz6 := hb.size
  clear hb q1 q2 q3 hdd HV
  generalize dep t = d at *
  have hd' : ¬ (16 : Int) < (d : Int) := by omega
  have q1 := setRow_heap w6 w.heap.size _ (nodeC k5 u5 (.slice p5 n5 c5)) 27 (0, 0) h1.out
  have q2 := (setRow_other w6 w.heap.size (w.heap.size + 1) (nodeC k5 u5 (.slice p5 n5 c5)) (by omega)).trans h2.out
  have q3 := (setRow_other w6 w.heap.size (w.heap.size + 1 + 1) (nodeC k5 u5 (.slice p5 n5 c5)) (by omega)).trans h3.out
  have g2 := cell_of_row _ (w.heap.size + 1) 0 _ 3 (0, 0) q2
  have f2 := frozen_of_row _ (w.heap.size + 1) 0 _ 3 q2
  have p1 := (heap_setCell_other _ ⟨w.heap.size + 1, 0, none⟩ w.heap.size (.int .i64 0) (show w.heap.size ≠ w.heap.size + 1 by omega)).trans q1
  have p2 := heap_setCell_same _ (w.heap.size + 1) 0 _ 3 (.int .i64 0) q2
  have p3 := (heap_setCell_other _ ⟨w.heap.size + 1, 0, none⟩ (w.heap.size + 1 + 1) (.int .i64 0) (show w.heap.size + 1 + 1 ≠ w.heap.size + 1 by omega)).trans q3
  have g3 := cell_of_row _ (w.heap.size + 1 + 1) 0 _ 30 (0, 0) p3
  have f3 := frozen_of_row _ (w.heap.size + 1 + 1) 0 _ 30 p3
  have o1 := (heap_setCell_other _ ⟨w.heap.size + 1 + 1, 0, none⟩ w.heap.size (.int .i64 0) (show w.heap.size ≠ w.heap.size + 1 + 1 by omega)).trans p1
  have o2 := (heap_setCell_other _ ⟨w.heap.size + 1 + 1, 0, none⟩ (w.heap.size + 1) (.int .i64 0) (show w.heap.size + 1 ≠ w.heap.size + 1 + 1 by omega)).trans p2
  have o3 := heap_setCell_same _ (w.heap.size + 1 + 1) 0 _ 30 (.int .i64 0) p3
  simp only [List.getElem?_toArray, List.getElem?_cons_zero] at g2 g3
  have hBz : Below w.heap.size w (w6.setRow w.heap.size (nodeC k5 u5 (.slice p5 n5 c5))) := ⟨hB6.os, hB6.tape, hB6.output, by simpa using hB6.size, fun j hj => (setRow_other w6 w.heap.size j _ (by omega)).trans (hB6.block j hj)⟩
  have HO1 := Lib.hid o1
  have HO2 := Lib.hid o2
  have HO3 := Lib.hid o3
  have HBZ := Lib.hid ((hBz.setCell (p := ⟨w.heap.size + 1, 0, none⟩) (by simp) (.int .i64 0)).setCell (p := ⟨w.heap.size + 1 + 1, 0, none⟩) (by simp; omega) (.int .i64 0))
  have HVZ : Hid (RV (fun b => w.heap.size ≤ b ∧ b < ((((w6.setRow w.heap.size (nodeC k5 u5 (.slice p5 n5 c5))).setCell ⟨w.heap.size + 1, 0, none⟩ (.int .i64 0)).setCell ⟨w.heap.size + 1 + 1, 0, none⟩ (.int .i64 0)).heap.size)) (((w6.setRow w.heap.size (nodeC k5 u5 (.slice p5 n5 c5))).setCell ⟨w.heap.size + 1, 0, none⟩ (.int .i64 0)).setCell ⟨w.heap.size + 1 + 1, 0, none⟩ (.int .i64 0)) t (.agg (nodeC k5 u5 (.slice p5 n5 c5)))) := Lib.hid (HV6.out.mono (fun b hb => ⟨by omega, by simp; omega⟩) (fun b hb _ => by
    rw [heap_setCell_other _ ⟨w.heap.size + 1 + 1, 0, none⟩ b _ (show b ≠ w.heap.size + 1 + 1 by omega), heap_setCell_other _ ⟨w.heap.size + 1, 0, none⟩ b _ (show b ≠ w.heap.size + 1 by omega), setRow_other w6 w.heap.size b _ (by omega)]))
  clear q1 q2 q3 p1 p2 p3 o1 o2 o3 hBz
  go_wp2_with (first | (refine wpList_store_row rfl 27 (.tmp 2) (.tmp 18) rfl w.heap.size (nodeC k5 u5 (.slice p5 n5 c5)) rfl rfl 27 _ h1.out size27r rfl (nodeC_one _ _ _ _ _) ?_) | (refine wpList_load_row rfl 27 (.tmp 2) rfl w.heap.size rfl 27 _ (0, 0) _ h1.out Tryd.underlying27 rfl size27r ?_))
  refine leaves_cons (f := 36) (args := #[.pointer (some ⟨w.heap.size + 1 + 1 + 1, 0, none⟩), .pointer (some ⟨w.heap.size, 0, none⟩), .pointer (some ⟨w.heap.size + 1, 0, none⟩), .pointer (some ⟨w.heap.size + 1 + 1, 0, none⟩)]) (by simp) (by simp [go_sem]) ?_
  refine (close_ret _ _ _ _ _).mono ?_
  rintro e u' w'' ⟨rfl, rfl, rfl⟩
  exact ⟨.tuple #[.agg (nodeC k5 u5 (.slice p5 n5 c5)), .int .i64 0, .int .i64 0], results_parse rfl rfl rfl HO1.out (cell_of_row _ (w.heap.size + 1) 0 _ 3 (0, 0) HO2.out) (cell_of_row _ (w.heap.size + 1 + 1) 0 _ 30 (0, 0) HO3.out), ⟨_, rfl, HVZ.out⟩, HBZ.out⟩
end Go.Proofs.YtmjojahkbjlcdaaDoor
