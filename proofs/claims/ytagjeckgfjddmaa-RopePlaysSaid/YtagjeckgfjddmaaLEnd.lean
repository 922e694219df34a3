/- Package lines: where a text ends, how many lines, the place of an offset. -/
import Derived.Test.YtagjeckgfjddmaaLShelf
import Derived.Test.YtagjeckgfjddmaaText
import Derived.Test.YtagjeckgfjddmaaBig
namespace Go.Proofs.Ytagjeckgfjddmaa
set_option linter.unusedSimpArgs false
set_option linter.unusedVariables false
open Go.RowKit


abbrev pl (a b : Int) : Value := .agg #[.int .i64 a, .int .i64 b]
theorem field0 (a b : Int) (w : World) : (Instr.field 34 (pl a b) 0).run Try.prog w = .ok (.int .i64 a) w := by kernel_rfl
theorem field1 (a b : Int) (w : World) : (Instr.field 34 (pl a b) 1).run Try.prog w = .ok (.int .i64 b) w := by kernel_rfl
/-- A place in a block of its own. -/
def PlAt (b : Nat) (x y : Int) (w : World) : Prop :=
  w.cell? ⟨b, 0, none⟩ = some (.int .i64 x) ∧ w.cell? ⟨b, 1, none⟩ = some (.int .i64 y) ∧ w.frozen? ⟨b, 0, none⟩ = false ∧ w.frozen? ⟨b, 1, none⟩ = false ∧ b < w.heap.size
theorem PlAt.new (w : World) (x y : Int) : PlAt w.heap.size x y (w.alloc (.cells #[.int .i64 x, .int .i64 y] 34)) :=
  ⟨by simp, by simp, by simp, by simp, by simp⟩
theorem PlAt.below {b : Nat} {x y : Int} {w w' : World} (h : PlAt b x y w) (hb : Below w.heap.size w w') : PlAt b x y w' :=
  ⟨(hb.cell (p := ⟨b, 0, none⟩) h.2.2.2.2).trans h.1, (hb.cell (p := ⟨b, 1, none⟩) h.2.2.2.2).trans h.2.1, (hb.frozen (p := ⟨b, 0, none⟩) h.2.2.2.2).trans h.2.2.1, (hb.frozen (p := ⟨b, 1, none⟩) h.2.2.2.2).trans h.2.2.2.1, Nat.lt_of_lt_of_le h.2.2.2.2 hb.size⟩
theorem PlAt.alloc {b : Nat} {x y : Int} {w : World} (h : PlAt b x y w) (o : Obj) : PlAt b x y (w.alloc o) :=
  h.below ((Below.refl _ _).alloc (Nat.le_refl _) o)
theorem fl_int (a : Int) (ha : a.natAbs < 9007199254740992) : floatToIntVal .f64 (floatOfInt .f64 a) .i64 = some a := by
  unfold floatToIntVal
  rw [fl_toInt a ha]
  have h1 : IntKind.i64.min = -9223372036854775808 := by decide
  have h2 : IntKind.i64.max = 9223372036854775807 := by decide
  simp only [h1, h2]
  rw [if_pos (by omega)]
theorem conv_int (a : Int) (ha : a.natAbs < 9007199254740992) (w : World) : (convert 98 3 (.float .f64 (floatOfInt .f64 a))).run Try.prog w = .ok (.int .i64 a) w :=
  run_convert_float_int w 98 3 .f64 .i64 _ a (by rw [Try.underlying98]; rfl) Try.underlying3 (fl_int a ha)
theorem toPlace_any (a c : Int) (ha : a.natAbs < 9007199254740992) (hc : c.natAbs < 9007199254740992) (w : World) :
    Calls Try.prog 63 #[.complex .f64 (floatOfInt .f64 a) (floatOfInt .f64 c)] w fun r w' => r = .returned (pl a c) ∧ Below w.heap.size w w' := by
  have h1 := conv_int a ha
  have h2 := conv_int c hc
  clear ha hc
  go_enter Try.func63, Try.ntmps63
  go_wp2_with (simp only [h1, h2])
  refine bodyPost_ret (v := pl a c) (by simp [results, Try.results63, go_sem]) rfl ⟨rfl, ?_⟩
  exact (Below.refl _ _).alloc (Nat.le_refl _) _
theorem count_is (s : ByteArray) (w : World) :
    Calls Try.prog 78 #[.string s, .string ⟨#[10]⟩] w fun e w' => e = .returned (.int .i64 (cntN s.data.toList)) ∧ w = w' := count_any s 10 w
theorem end_any (s : ByteArray) (hs : s.size ≤ 140737488355328) (w : World) :
    Calls Try.prog 64 #[.string s] w fun r w' => r = .returned (.complex .f64 (floatOfInt .f64 (cntN s.data.toList)) (floatOfInt .f64 (colN s.data.toList))) ∧ w = w' := by
  have hb : colN s.data.toList ≤ s.size := by have := col_le s.data.toList; simpa using this
  obtain ⟨q, hq⟩ : ∃ q, colN s.data.toList = q := ⟨_, rfl⟩
  rw [hq] at hb ⊢
  have hqq := Lib.hid hq
  clear hq
  go_enter Try.func64, Try.ntmps64
  go_wp2_with (first | (go_at_call 78; refine (count_is _ _).mono ?_; rintro e w' ⟨rfl, rfl⟩) | (go_at_call 79; refine (last_is _ _ hqq.out hs _).mono ?_; rintro e w' ⟨rfl, rfl⟩))
  go_ret
  exact ⟨by rw [show ((s.size : Int) - ((s.size : Int) - 1 - (q : Int) + 1)) = q by omega]; rfl, rfl⟩
theorem lastColumn_any (s : ByteArray) (w : World) (hs : s.size ≤ 140737488355328) :
    Calls Try.prog 66 #[.string s] w fun r w' => r = .returned (.int .i64 (lastCol s.data.toList)) ∧ w = w' := by
  by_cases h : 0 ≤ Lib.indexByte s.data.toList 10
  · have e : lastCol s.data.toList = Lib.indexByte s.data.toList 10 := by unfold lastCol; rw [if_pos h]
    rw [e]; clear e
    go_enter Try.func66, Try.ntmps66
    go_wp2_with (go_at_call 65; refine (index10_any _ _).mono ?_; rintro e w' ⟨rfl, rfl⟩)
    go_ret
    exact ⟨rfl, rfl⟩
  · have e : lastCol s.data.toList = (s.size : Int) := by unfold lastCol; rw [if_neg h]; simp
    rw [e]; clear e
    go_enter Try.func66, Try.ntmps66
    go_wp2_with (go_at_call 65; refine (index10_any _ _).mono ?_; rintro e w' ⟨rfl, rfl⟩)
    go_ret
    exact ⟨rfl, rfl⟩
theorem sz_take (s : ByteArray) (k : Nat) (h : k ≤ s.size) : (s.extract 0 k).data.toList = s.data.toList.take k := by
  rw [ByteArray.data_extract]; simp
theorem count_lines (s : ByteArray) (hs : s.size ≤ 140737488355328) (w : World) :
    Calls Try.prog 38 #[.string s] w fun r w' => r = .returned (.int .i64 ((cntN s.data.toList : Int) + 1)) ∧ Below w.heap.size w w' := by
  have h1 : cntN s.data.toList ≤ s.size := by have := cnt_le s.data.toList; simpa using this
  have h2 : colN s.data.toList ≤ s.size := by have := col_le s.data.toList; simpa using this
  go_enter Try.func38, Try.ntmps38
  go_wp2_with fail
  refine (end_any s hs _).mono ?_
  rintro _ _ ⟨rfl, rfl⟩
  go_wp2_with fail
  refine (toPlace_any _ _ (by omega) (by omega) _).mono ?_
  rintro _ w1 ⟨rfl, hb1⟩
  go_wp2_with (simp only [field0])
  go_ret
  exact ⟨rfl, hb1⟩
theorem of_none (s : ByteArray) (at' : Int) (w : World) (hs : s.size ≤ 140737488355328) (h : at' < 0 ∨ (s.size : Int) < at') :
    Calls Try.prog 36 #[.string s, .int .i64 at'] w fun r w' => r = .returned (.tuple #[pl 0 0, .int .i64 4]) ∧ Below w.heap.size w w' := by
  rcases h with h | h
  · go_enter Try.func36, Try.ntmps36
    go_wp2
    exact bodyPost_ret (v := .tuple #[pl 0 0, .int .i64 4]) (by simp [results, Try.results36, go_sem]) rfl ⟨rfl, (Below.refl _ _).alloc (Nat.le_refl _) _⟩
  · by_cases h0 : at' < 0
    · omega
    · go_enter Try.func36, Try.ntmps36
      go_wp2
      exact bodyPost_ret (v := .tuple #[pl 0 0, .int .i64 4]) (by simp [results, Try.results36, go_sem]) rfl ⟨rfl, (Below.refl _ _).alloc (Nat.le_refl _) _⟩
theorem of_some (s : ByteArray) (k : Nat) (w : World) (hs : s.size ≤ 140737488355328) (h : k ≤ s.size) :
    Calls Try.prog 36 #[.string s, .int .i64 k] w fun r w' => r = .returned (.tuple #[pl (cntN (s.data.toList.take k)) (colN (s.data.toList.take k)), .int .i64 0]) ∧ Below w.heap.size w w' := by
  obtain ⟨u, hu⟩ : ∃ u, s.extract 0 k = u := ⟨_, rfl⟩
  have hl := sz_take s k h
  rw [hu] at hl
  have hz : u.size ≤ 140737488355328 := by
    have : u.data.toList.length = (s.data.toList.take k).length := by rw [hl]
    simp at this; omega
  have h1 : cntN u.data.toList ≤ u.size := by have := cnt_le u.data.toList; simpa using this
  have h2 : colN u.data.toList ≤ u.size := by have := col_le u.data.toList; simpa using this
  rw [← hl]
  have hu' := Lib.hid hu; clear hu hl
  go_enter Try.func36, Try.ntmps36
  go_wp2_with fail
  rw [hu'.out]
  refine (end_any u hz _).mono ?_
  rintro _ _ ⟨rfl, rfl⟩
  go_wp2_with fail
  refine (toPlace_any _ _ (by omega) (by omega) _).mono ?_
  rintro _ w1 ⟨rfl, hb1⟩
  obtain ⟨c0, c1, f0, f1, hz1⟩ := (PlAt.new w 0 0).below hb1
  go_wp2
  refine bodyPost_ret (v := .tuple #[pl (cntN u.data.toList) (colN u.data.toList), .int .i64 0]) (by simp [results, Try.results36, go_sem, c0, c1, f0, f1, hz1]) rfl ⟨rfl, ?_⟩
  exact ((((Below.refl _ _).alloc (Nat.le_refl _) _).trans (hb1.mono (by simp))).setCell (Nat.le_refl _) _).setCell (Nat.le_refl _) _
end Go.Proofs.Ytagjeckgfjddmaa
