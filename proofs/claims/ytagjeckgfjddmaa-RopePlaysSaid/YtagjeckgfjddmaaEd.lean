/- Package edits: what Check, Apply and Undo answer, and the document's Check and Apply. -/
import Derived.Test.YtagjeckgfjddmaaRows
import Derived.Test.YtagjeckgfjddmaaProg
import Derived.Test.YtagjeckgfjddmaaShelf
import Derived.WalkKit
import Derived.WalkLawsBesides
import Derived.WalkSpells
import Derived.Below
import Derived.Lib.Hide
import Derived.Outline
import Derived.Lib.IndexBytes
import Derived.WalkSmall
import Derived.Deep.QuietTactic
import Derived.BigQuiet
import Derived.StillTailTactics
namespace Go.Proofs.Ytagjeckgfjddmaa.Ed
set_option linter.unusedSimpArgs false
set_option linter.unusedVariables false
open Go.RowKit


/-- An edit as a value. -/
abbrev ed (s e : Int) (t : ByteArray) : Value := .agg #[.int .i64 s, .int .i64 e, .string t]
def withinB (a b c : Int) : Bool := decide (0 ≤ a ∧ a ≤ b ∧ b ≤ c)
def checkZ (n s e : Int) (t : ByteArray) : Int :=
  if n < 0 ∨ 65536 < n then 2 else if withinB s e n = false then 10 else if 65536 - (n - (e - s)) < (t.size : Int) then 3 else 0
theorem within_any (a b c : Int) (w : World) : Calls Try.prog 72 #[.int .i64 a, .int .i64 b, .int .i64 c] w fun x w' => x = .returned (.bool (withinB a b c)) ∧ w = w' := by
  by_cases h1 : 0 ≤ a
  · by_cases h2 : a ≤ b
    · by_cases h3 : b ≤ c
      · have hw : withinB a b c = true := by simp [withinB, h1, h2, h3]
        rw [hw]
        go_enter Try.func72, Try.ntmps72
        go_wp2
        go_ret
        exact ⟨rfl, rfl⟩
      · have hw : withinB a b c = false := by simp [withinB, h3]
        rw [hw]
        go_enter Try.func72, Try.ntmps72
        go_wp2
        go_ret
        exact ⟨rfl, rfl⟩
    · have hw : withinB a b c = false := by simp [withinB, h2]
      rw [hw]
      go_enter Try.func72, Try.ntmps72
      go_wp2
      go_ret
      exact ⟨rfl, rfl⟩
  · have hw : withinB a b c = false := by simp [withinB, h1]
    rw [hw]
    go_enter Try.func72, Try.ntmps72
    go_wp2
    go_ret
    exact ⟨rfl, rfl⟩
theorem within_yes (a b c : Int) (w : World) (h : withinB a b c = true) : Calls Try.prog 72 #[.int .i64 a, .int .i64 b, .int .i64 c] w fun x w' => x = .returned (.bool true) ∧ w = w' := by
  rw [← h]; exact within_any a b c w
theorem within_no (a b c : Int) (w : World) (h : withinB a b c = false) : Calls Try.prog 72 #[.int .i64 a, .int .i64 b, .int .i64 c] w fun x w' => x = .returned (.bool false) ∧ w = w' := by
  rw [← h]; exact within_any a b c w
theorem check_any (n s e : Int) (t : ByteArray) (w : World) (ht : t.size ≤ 9223372036854775807) :
    Calls Try.prog 54 #[.int .i64 n, ed s e t] w fun x w' => x = .returned (.int .i64 (checkZ n s e t)) ∧ Below w.heap.size w w' := by
  by_cases h1 : n < 0
  · have hz : checkZ n s e t = 2 := by simp [checkZ, h1]
    rw [hz]
    go_enter Try.func54, Try.ntmps54
    go_wp2
    go_ret
    exact ⟨rfl, (Below.refl _ _).alloc (Nat.le_refl _) _⟩
  · by_cases h2 : 65536 < n
    · have hz : checkZ n s e t = 2 := by simp [checkZ, h2]
      rw [hz]
      go_enter Try.func54, Try.ntmps54
      go_wp2
      go_ret
      exact ⟨rfl, (Below.refl _ _).alloc (Nat.le_refl _) _⟩
    · cases h3 : withinB s e n
      · have hz : checkZ n s e t = 10 := by simp [checkZ, h1, h2, h3]
        rw [hz]
        have h3' := Lib.hid h3; clear h3
        go_enter Try.func54, Try.ntmps54
        go_wp2_with (go_at_call 72; refine (within_no _ _ _ _ h3'.out).mono ?_; rintro e w' ⟨rfl, rfl⟩)
        go_ret
        exact ⟨rfl, (Below.refl _ _).alloc (Nat.le_refl _) _⟩
      · have hb : 0 ≤ s ∧ s ≤ e ∧ e ≤ n := by simpa [withinB] using h3
        obtain ⟨b1, b2, b3⟩ := hb
        by_cases h4 : 65536 - (n - (e - s)) < (t.size : Int)
        · have hz : checkZ n s e t = 3 := by unfold checkZ; rw [if_neg (by omega), if_neg (by simp [h3]), if_pos h4]
          rw [hz]
          have h3' := Lib.hid h3; clear h3
          go_enter Try.func54, Try.ntmps54
          go_wp2_with (go_at_call 72; refine (within_yes _ _ _ _ h3'.out).mono ?_; rintro e w' ⟨rfl, rfl⟩)
          go_ret
          exact ⟨rfl, (Below.refl _ _).alloc (Nat.le_refl _) _⟩
        · have hz : checkZ n s e t = 0 := by unfold checkZ; rw [if_neg (by omega), if_neg (by simp [h3]), if_neg h4]
          rw [hz]
          have h3' := Lib.hid h3; clear h3
          go_enter Try.func54, Try.ntmps54
          go_wp2_with (go_at_call 72; refine (within_yes _ _ _ _ h3'.out).mono ?_; rintro e w' ⟨rfl, rfl⟩)
          go_ret
          exact ⟨rfl, (Below.refl _ _).alloc (Nat.le_refl _) _⟩

theorem long_any (t : ByteArray) (w : World) : Calls Try.prog 58 #[.string t] w fun x w' => x = .returned (.bool (decide (65536 < (t.size : Int)))) ∧ w = w' := by
  go_enter Try.func58, Try.ntmps58
  go_wp2
  go_ret
  exact ⟨rfl, rfl⟩
theorem long_is (t : ByteArray) (w : World) (b : Bool) (h : decide (65536 < (t.size : Int)) = b) : Calls Try.prog 58 #[.string t] w fun x w' => x = .returned (.bool b) ∧ w = w' := by rw [← h]; exact long_any t w
theorem rcheck_any (n s e : Int) (t : ByteArray) (w : World) (ht : t.size ≤ 9223372036854775807) :
    Calls Try.prog 59 #[.int .i64 n, ed s e t] w fun x w' => x = .returned (.int .i64 (checkZ n s e t)) ∧ Below w.heap.size w w' := by
  by_cases h1 : n < 0
  · have hz : checkZ n s e t = 2 := by simp [checkZ, h1]
    rw [hz]
    go_enter Try.func59, Try.ntmps59
    go_wp2
    go_ret
    exact ⟨rfl, (Below.refl _ _).alloc (Nat.le_refl _) _⟩
  by_cases h2 : 65536 < n
  · have hz : checkZ n s e t = 2 := by simp [checkZ, h2]
    rw [hz]
    go_enter Try.func59, Try.ntmps59
    go_wp2
    go_ret
    exact ⟨rfl, (Below.refl _ _).alloc (Nat.le_refl _) _⟩
  by_cases b1 : s < 0
  · have hz : checkZ n s e t = 10 := by unfold checkZ; rw [if_neg (by omega), if_pos (by simp [withinB]; omega)]
    rw [hz]
    go_enter Try.func59, Try.ntmps59
    go_wp2
    go_ret
    exact ⟨rfl, (Below.refl _ _).alloc (Nat.le_refl _) _⟩
  by_cases b2 : e < s
  · have hz : checkZ n s e t = 10 := by unfold checkZ; rw [if_neg (by omega), if_pos (by simp [withinB]; omega)]
    rw [hz]
    go_enter Try.func59, Try.ntmps59
    go_wp2
    go_ret
    exact ⟨rfl, (Below.refl _ _).alloc (Nat.le_refl _) _⟩
  by_cases b3 : n < e
  · have hz : checkZ n s e t = 10 := by unfold checkZ; rw [if_neg (by omega), if_pos (by simp [withinB]; omega)]
    rw [hz]
    go_enter Try.func59, Try.ntmps59
    go_wp2
    go_ret
    exact ⟨rfl, (Below.refl _ _).alloc (Nat.le_refl _) _⟩
  have h3 : withinB s e n = true := by simp [withinB]; omega
  cases hl : decide (65536 < (t.size : Int))
  · have hl2 : (t.size : Int) ≤ 65536 := by simp at hl; omega
    have hl' := Lib.hid hl; clear hl
    by_cases h4 : 65536 - (n - (e - s)) < (t.size : Int)
    · have hz : checkZ n s e t = 3 := by unfold checkZ; rw [if_neg (by omega), if_neg (by simp [h3]), if_pos h4]
      rw [hz]
      clear h3
      go_enter Try.func59, Try.ntmps59
      go_wp2_with (go_at_call 58; refine (long_is _ _ _ hl'.out).mono ?_; rintro e w' ⟨rfl, rfl⟩)
      go_ret
      exact ⟨rfl, (Below.refl _ _).alloc (Nat.le_refl _) _⟩
    · have hz : checkZ n s e t = 0 := by unfold checkZ; rw [if_neg (by omega), if_neg (by simp [h3]), if_neg h4]
      rw [hz]
      clear h3
      go_enter Try.func59, Try.ntmps59
      go_wp2_with (go_at_call 58; refine (long_is _ _ _ hl'.out).mono ?_; rintro e w' ⟨rfl, rfl⟩)
      go_ret
      exact ⟨rfl, (Below.refl _ _).alloc (Nat.le_refl _) _⟩
  · have hl2 : 65536 < (t.size : Int) := by simp at hl; omega
    have hl' := Lib.hid hl; clear hl
    have hz : checkZ n s e t = 3 := by unfold checkZ; rw [if_neg (by omega), if_neg (by simp [h3]), if_pos (by omega)]
    rw [hz]
    clear h3
    go_enter Try.func59, Try.ntmps59
    go_wp2_with (go_at_call 58; refine (long_is _ _ _ hl'.out).mono ?_; rintro e w' ⟨rfl, rfl⟩)
    go_ret
    exact ⟨rfl, (Below.refl _ _).alloc (Nat.le_refl _) _⟩

theorem bcell {W w1 : World} (hb : Below W.heap.size W w1) : (∀ b o, b < W.heap.size → w1.cell? ⟨b, o, none⟩ = W.cell? ⟨b, o, none⟩) ∧ (∀ b o, b < W.heap.size → w1.frozen? ⟨b, o, none⟩ = W.frozen? ⟨b, o, none⟩) :=
  ⟨fun b o h => hb.cell (p := ⟨b, o, none⟩) h, fun b o h => hb.frozen (p := ⟨b, o, none⟩) h⟩
/-- The text behind an edit. -/
def splice (x : ByteArray) (s e : Nat) (t : ByteArray) : ByteArray := ⟨(x.data.toList.take s ++ t.data.toList ++ x.data.toList.drop e).toArray⟩
theorem check_err (n s e : Int) (t : ByteArray) (w : World) (ht : t.size ≤ 9223372036854775807) (k : Int) (h : checkZ n s e t = k) :
    Calls Try.prog 54 #[.int .i64 n, ed s e t] w fun x w' => x = .returned (.int .i64 k) ∧ Below w.heap.size w w' := by
  rw [← h]; exact check_any n s e t w ht
theorem apply_err (x : ByteArray) (s e : Int) (t : ByteArray) (w : World) (ht : t.size ≤ 9223372036854775807) (hx : x.size ≤ 9223372036854775807) (h : checkZ x.size s e t ≠ 0) :
    Calls Try.prog 62 #[.string x, ed s e t] w fun r w' => r = .returned (.tuple #[.string .empty, .int .i64 (checkZ x.size s e t)]) ∧ Below w.heap.size w w' := by
  obtain ⟨k, hk⟩ : ∃ k, checkZ x.size s e t = k := ⟨_, rfl⟩
  rw [hk] at h ⊢
  have hk' := Lib.hid hk; clear hk
  have h' : (k != 0) = true := by simpa using h
  go_enter Try.func62, Try.ntmps62
  go_wp2_with (go_at_call 54; refine (check_err _ _ _ _ _ ht _ hk'.out).mono ?_; rintro e w' ⟨rfl, hb⟩)
  go_ret2
  exact ⟨rfl, ((Below.refl _ _).alloc (Nat.le_refl _) _).trans (hb.mono (by simp))⟩
/-- A boxed edit still lies there. -/
def EdAt (b : Nat) (s e : Int) (t : ByteArray) (w : World) : Prop :=
  w.cell? ⟨b, 0, none⟩ = some (.int .i64 s) ∧ w.cell? ⟨b, 1, none⟩ = some (.int .i64 e) ∧ w.cell? ⟨b, 2, none⟩ = some (.string t) ∧ b < w.heap.size
theorem EdAt.new (w : World) (s e : Int) (t : ByteArray) : EdAt w.heap.size s e t (w.alloc (.cells #[.int .i64 s, .int .i64 e, .string t] 55)) :=
  ⟨World.cell?_alloc_new _ _ _ _, World.cell?_alloc_new _ _ _ _, World.cell?_alloc_new _ _ _ _, by simp⟩
theorem EdAt.below {b B : Nat} {s e : Int} {t : ByteArray} {w w' : World} (h : EdAt b s e t w) (hb : Below B w w') (hB : b < B) : EdAt b s e t w' :=
  ⟨(hb.cell (p := ⟨b, 0, none⟩) hB).trans h.1, (hb.cell (p := ⟨b, 1, none⟩) hB).trans h.2.1, (hb.cell (p := ⟨b, 2, none⟩) hB).trans h.2.2.1, Nat.lt_of_lt_of_le h.2.2.2 hb.size⟩
theorem EdAt.alloc {b : Nat} {s e : Int} {t : ByteArray} {w : World} (h : EdAt b s e t w) (o : Obj) : EdAt b s e t (w.alloc o) :=
  h.below ((Below.refl w.heap.size w).alloc (Nat.le_refl _) o) h.2.2.2
theorem grow_int (B b : Nat) (z : Int) (w : World) (hB : B ≤ b) (hbk : w.heap[b]? = some (.cells #[.pointer none, .slice none 0 0] 103 (0, 0))) (hBw : B ≤ w.heap.size) (h0 : 0 ≤ z) (hn : z ≤ 281474976710656) :
    Calls Try.prog 69 #[.pointer (some ⟨b, 0, none⟩), .int .i64 z] w fun e w' => e = .returned (.tuple #[]) ∧ (Lib.BuilderAt 103 5 B b (.pointer (some ⟨b, 0, none⟩)) [] w' ∧ Below B w w') := by
  obtain ⟨n, rfl⟩ : ∃ n : Nat, z = n := ⟨z.toNat, by omega⟩
  exact Try.Builder_Grow_fresh B b n w hB hbk hBw (by omega)
theorem write_any (B b : Nat) (bs : List Value) (s : ByteArray) (w : World) (h : Lib.BuilderAt 103 5 B b (.pointer (some ⟨b, 0, none⟩)) bs w) (hlen : bs.length + s.size ≤ 140737488355328) (hBw : B ≤ w.heap.size) :
    Calls Try.prog 77 #[.pointer (some ⟨b, 0, none⟩), .string s] w fun e w' => e = .returned (.tuple #[.int .i64 s.size, .nilIface]) ∧ (Lib.BuilderAt 103 5 B b (.pointer (some ⟨b, 0, none⟩)) (bs ++ Lib.strCells s) w' ∧ Below B w w') :=
  Try.Builder_WriteString B b bs s w (.inr h) hlen hBw
theorem splice_cells (x : ByteArray) (a c : Nat) (t : ByteArray) :
    [] ++ Lib.strCells (x.extract 0 a) ++ Lib.strCells t ++ Lib.strCells (x.extract c x.size) = Lib.strCells (splice x a c t) := by
  rw [List.nil_append, Lib.strCells_eq, Lib.strCells_eq, Lib.strCells_eq, Lib.strCells_eq, Lib.extract_data, Lib.extract_to_end]
  simp [splice, Lib.byteCells_append]
theorem string_any (B b : Nat) (y : ByteArray) (w : World) (h : Lib.BuilderAt 103 5 B b (.pointer (some ⟨b, 0, none⟩)) (Lib.strCells y) w) (hBw : B ≤ w.heap.size) :
    Calls Try.prog 71 #[.pointer (some ⟨b, 0, none⟩)] w fun e w' => e = .returned (.string y) ∧ Below B w w' :=
  Try.Builder_String_any B b y.data.toList w (.inr h) hBw
theorem apply_ok (x : ByteArray) (s e : Int) (t : ByteArray) (w : World) (ht : t.size ≤ 9223372036854775807) (hx : x.size ≤ 9223372036854775807) (h : checkZ x.size s e t = 0) :
    Calls Try.prog 62 #[.string x, ed s e t] w fun r w' => r = .returned (.tuple #[.string (splice x s.toNat e.toNat t), .int .i64 0]) ∧ Below w.heap.size w w' := by
  have hn : 0 ≤ s ∧ s ≤ e ∧ e ≤ x.size ∧ (x.size : Int) ≤ 65536 ∧ (t.size : Int) ≤ 65536 - (x.size - (e - s)) := by
    unfold checkZ at h
    split at h
    · omega
    split at h
    · omega
    split at h
    · omega
    rename_i h1 h2 h3
    have : withinB s e x.size = true := by simpa using h2
    simp [withinB] at this
    omega
  obtain ⟨a, rfl⟩ : ∃ a : Nat, s = a := ⟨s.toNat, by omega⟩
  obtain ⟨c, rfl⟩ : ∃ c : Nat, e = c := ⟨e.toNat, by omega⟩
  obtain ⟨n1, n2, n3, n4, n5⟩ := hn
  have h' := Lib.hid h; clear h
  go_enter Try.func62, Try.ntmps62
  go_wp2_with fail
  refine (check_err _ _ _ _ _ ht _ h'.out).mono ?_
  rintro _ w1 ⟨rfl, hb1⟩
  have E1 := Lib.hid ((EdAt.new w a c t).below hb1 (by simp))
  have hc0 := E1.out.1
  have hc1 := E1.out.2.1
  have hc2 := E1.out.2.2.1
  have hz := E1.out.2.2.2
  go_wp2_with fail
  refine (grow_int w1.heap.size w1.heap.size _ _ (Nat.le_refl _) (heap_alloc_new _ _) (by simp) (by omega) (by omega)).mono ?_
  rintro _ w2 ⟨rfl, hat2, hb2⟩
  have L2 : Below w1.heap.size w1 w2 := ((Below.refl _ _).alloc (Nat.le_refl _) _).trans hb2
  have E2 := Lib.hid (E1.out.below L2 hz)
  have s2 := L2.size
  clear hc0 hc1 hc2
  have hc0 := E2.out.1
  have hc1 := E2.out.2.1
  have hc2 := E2.out.2.2.1
  go_wp2_with fail
  refine (write_any w1.heap.size w1.heap.size _ _ _ hat2 (by simp; omega) s2).mono ?_
  rintro _ w3 ⟨rfl, hat3, hb3⟩
  have E3 := Lib.hid (E2.out.below hb3 hz)
  have s3 := hb3.size
  clear hc0 hc1 hc2
  have hc0 := E3.out.1
  have hc1 := E3.out.2.1
  have hc2 := E3.out.2.2.1
  go_wp2_with fail
  refine (write_any w1.heap.size w1.heap.size _ _ _ hat3 (by simp [Lib.strCells_length]; omega) (by omega)).mono ?_
  rintro _ w4 ⟨rfl, hat4, hb4⟩
  have E4 := Lib.hid (E3.out.below hb4 hz)
  have s4 := hb4.size
  clear hc0 hc1 hc2
  have hc0 := E4.out.1
  have hc1 := E4.out.2.1
  have hc2 := E4.out.2.2.1
  go_wp2_with fail
  refine (write_any w1.heap.size w1.heap.size _ _ _ hat4 (by simp [Lib.strCells_length]; omega) (by omega)).mono ?_
  rintro _ w5 ⟨rfl, hat5, hb5⟩
  rw [splice_cells x a c t] at hat5
  have s5 := hb5.size
  go_wp2_with fail
  refine (string_any w1.heap.size w1.heap.size _ _ hat5 (by omega)).mono ?_
  rintro _ w6 ⟨rfl, hb6⟩
  go_wp2_with fail
  go_ret2
  refine ⟨rfl, ?_⟩
  have L : Below w1.heap.size w1 w6 := (((L2.trans hb3).trans hb4).trans hb5).trans hb6
  exact (((Below.refl _ _).alloc (Nat.le_refl _) _).trans (hb1.mono (by simp))).trans (L.mono (by omega))

theorem rcheck_is (n s e : Int) (t : ByteArray) (w : World) (ht : t.size ≤ 9223372036854775807) (k : Int) (h : checkZ n s e t = k) :
    Calls Try.prog 59 #[.int .i64 n, ed s e t] w fun x w' => x = .returned (.int .i64 k) ∧ Below w.heap.size w w' := by
  rw [← h]; exact rcheck_any n s e t w ht
theorem splice_eq (x : ByteArray) (a c : Nat) (t : ByteArray) : x.extract 0 a ++ t ++ x.extract c x.size = splice x a c t := by
  apply ByteArray.ext
  apply Array.toList_inj.mp
  rw [ByteArray.data_append, Array.toList_append, ByteArray.data_append, Array.toList_append, Lib.extract_data, Lib.extract_to_end]
  simp [splice]
theorem ret_str {x y : ByteArray} {k : Int} (h : x = y) : Ending.returned (.tuple #[.string x, .int .i64 k]) = .returned (.tuple #[.string y, .int .i64 k]) := by rw [h]
theorem rapply_err (x : ByteArray) (s e : Int) (t : ByteArray) (w : World) (ht : t.size ≤ 9223372036854775807) (hx : x.size ≤ 9223372036854775807) (h : checkZ x.size s e t ≠ 0) :
    Calls Try.prog 27 #[.string x, ed s e t] w fun r w' => r = .returned (.tuple #[.string .empty, .int .i64 (checkZ x.size s e t)]) ∧ Below w.heap.size w w' := by
  cases hl : decide (65536 < (x.size : Int))
  · obtain ⟨k, hk⟩ : ∃ k, checkZ x.size s e t = k := ⟨_, rfl⟩
    rw [hk] at h ⊢
    have hk' := Lib.hid hk; clear hk
    have h' : (k != 0) = true := by simpa using h
    have hl' := Lib.hid hl; clear hl
    go_enter Try.func27, Try.ntmps27
    go_wp2_with (first | (go_at_call 58; refine (long_is _ _ _ hl'.out).mono ?_; rintro e w' ⟨rfl, rfl⟩) | (go_at_call 59; refine (rcheck_is _ _ _ _ _ ht _ hk'.out).mono ?_; rintro e w' ⟨rfl, hb⟩))
    go_ret2
    exact ⟨rfl, ((Below.refl _ _).alloc (Nat.le_refl _) _).trans (hb.mono (by simp))⟩
  · have hz : checkZ x.size s e t = 2 := by unfold checkZ; rw [if_pos (by simp at hl; omega)]
    rw [hz]
    have hl' := Lib.hid hl; clear hl
    go_enter Try.func27, Try.ntmps27
    go_wp2_with (first | (go_at_call 58; refine (long_is _ _ _ hl'.out).mono ?_; rintro e w' ⟨rfl, rfl⟩))
    go_ret2
    exact ⟨rfl, (Below.refl _ _).alloc (Nat.le_refl _) _⟩
/-- What an edit that fits is like. -/
theorem fits {n : Nat} {s e : Int} {t : ByteArray} (h : checkZ n s e t = 0) : 0 ≤ s ∧ s ≤ e ∧ e ≤ n ∧ (n : Int) ≤ 65536 ∧ (t.size : Int) ≤ 65536 - (n - (e - s)) := by
  unfold checkZ at h
  split at h
  · omega
  split at h
  · omega
  split at h
  · omega
  rename_i h1 h2 h3
  have : withinB s e n = true := by simpa using h2
  simp [withinB] at this
  omega
theorem rapply_ok (x : ByteArray) (s e : Int) (t : ByteArray) (w : World) (ht : t.size ≤ 9223372036854775807) (hx : x.size ≤ 9223372036854775807) (h : checkZ x.size s e t = 0) :
    Calls Try.prog 27 #[.string x, ed s e t] w fun r w' => r = .returned (.tuple #[.string (splice x s.toNat e.toNat t), .int .i64 0]) ∧ Below w.heap.size w w' := by
  obtain ⟨n1, n2, n3, n4, n5⟩ := fits h
  obtain ⟨a, rfl⟩ : ∃ a : Nat, s = a := ⟨s.toNat, by omega⟩
  obtain ⟨c, rfl⟩ : ∃ c : Nat, e = c := ⟨e.toNat, by omega⟩
  have hl : decide (65536 < (x.size : Int)) = false := by simp; omega
  have hl' := Lib.hid hl; clear hl
  have h' := Lib.hid h; clear h
  go_enter Try.func27, Try.ntmps27
  go_wp2_with (first | (go_at_call 58; refine (long_is _ _ _ hl'.out).mono ?_; rintro e w' ⟨rfl, rfl⟩))
  refine (rcheck_is _ _ _ _ _ ht _ h'.out).mono ?_
  rintro _ w1 ⟨rfl, hb1⟩
  have E1 := Lib.hid ((EdAt.new w a c t).below hb1 (by simp))
  have hc0 := E1.out.1
  have hc1 := E1.out.2.1
  have hc2 := E1.out.2.2.1
  go_wp2_with fail
  go_quiet (fail)
  go_wp2
  go_ret2
  exact ⟨ret_str (splice_eq x a c t), below_drewN (((Below.refl _ _).alloc (Nat.le_refl _) _).trans (hb1.mono (by simp))) _⟩

theorem Bcall {w0 w w' : World} (h : Below w0.heap.size w0 w) (h' : Below w.heap.size w w') : Below w0.heap.size w0 w' := h.trans (h'.mono h.size)
theorem Bnew {w0 w : World} (h : Below w0.heap.size w0 w) (o : Obj) : Below w0.heap.size w0 (w.alloc o) := h.alloc h.size o
def apS (x : ByteArray) (s e : Int) (t : ByteArray) : ByteArray := if checkZ x.size s e t = 0 then splice x s.toNat e.toNat t else .empty
theorem apply_any (x : ByteArray) (s e : Int) (t : ByteArray) (w : World) (ht : t.size ≤ 9223372036854775807) (hx : x.size ≤ 9223372036854775807) :
    Calls Try.prog 62 #[.string x, ed s e t] w fun r w' => r = .returned (.tuple #[.string (apS x s e t), .int .i64 (checkZ x.size s e t)]) ∧ Below w.heap.size w w' := by
  by_cases h : checkZ x.size s e t = 0
  · rw [apS, if_pos h, h]; exact apply_ok x s e t w ht hx h
  · rw [apS, if_neg h]; exact apply_err x s e t w ht hx h
theorem rapply_any (x : ByteArray) (s e : Int) (t : ByteArray) (w : World) (ht : t.size ≤ 9223372036854775807) (hx : x.size ≤ 9223372036854775807) :
    Calls Try.prog 27 #[.string x, ed s e t] w fun r w' => r = .returned (.tuple #[.string (apS x s e t), .int .i64 (checkZ x.size s e t)]) ∧ Below w.heap.size w w' := by
  by_cases h : checkZ x.size s e t = 0
  · rw [apS, if_pos h, h]; exact rapply_ok x s e t w ht hx h
  · rw [apS, if_neg h]; exact rapply_err x s e t w ht hx h
def unS (x : ByteArray) (s e : Int) (t : ByteArray) : Int := if checkZ x.size s e t = 0 then s else 0
def unE (x : ByteArray) (s e : Int) (t : ByteArray) : Int := if checkZ x.size s e t = 0 then s + t.size else 0
def unT (x : ByteArray) (s e : Int) (t : ByteArray) : ByteArray := if checkZ x.size s e t = 0 then x.extract s.toNat e.toNat else .empty

/-- What takes an edit back. -/
def undoV (x : ByteArray) (a c : Nat) (t : ByteArray) : Value := ed a (a + t.size) (x.extract a c)
/-- A result's memory still lies there, blank, and can be written. -/
def ResAt (b : Nat) (w : World) : Prop :=
  EdAt b 0 0 .empty w ∧ w.frozen? ⟨b, 0, none⟩ = false ∧ w.frozen? ⟨b, 1, none⟩ = false ∧ w.frozen? ⟨b, 2, none⟩ = false
theorem ResAt.below {b B : Nat} {w w' : World} (h : ResAt b w) (hb : Below B w w') (hB : b < B) : ResAt b w' :=
  ⟨h.1.below hb hB, (hb.frozen (p := ⟨b, 0, none⟩) hB).trans h.2.1, (hb.frozen (p := ⟨b, 1, none⟩) hB).trans h.2.2.1, (hb.frozen (p := ⟨b, 2, none⟩) hB).trans h.2.2.2⟩
theorem ResAt.new (w : World) : ResAt w.heap.size (w.alloc (.cells #[.int .i64 0, .int .i64 0, .string .empty] 55)) :=
  ⟨EdAt.new w 0 0 .empty, by simp, by simp, by simp⟩
theorem ResAt.new2 (w : World) (o : Obj) : ResAt (w.heap.size + 1) ((w.alloc o).alloc (.cells #[.int .i64 0, .int .i64 0, .string .empty] 55)) := by
  have h := ResAt.new (w.alloc o)
  rwa [World.size_alloc] at h
theorem clone_any (s : ByteArray) (w : World) (hlim : s.size ≤ 281474976710656) :
    Calls Try.prog 61 #[.string s] w fun e w' => e = .returned (.string s) ∧ Below w.heap.size w w' := by
  go_enter Try.func61, Try.ntmps61
  go_wp2_with (go_at_call 76; refine (Try.stringslite_Clone _ _ hlim).mono ?_; rintro e w' ⟨rfl, hb⟩)
  go_ret
  exact ⟨rfl, hb⟩
theorem undo_err (x : ByteArray) (s e : Int) (t : ByteArray) (w : World) (ht : t.size ≤ 9223372036854775807) (hx : x.size ≤ 9223372036854775807) (h : checkZ x.size s e t ≠ 0) :
    Calls Try.prog 35 #[.string x, ed s e t] w fun r w' => r = .returned (.tuple #[ed 0 0 .empty, .int .i64 (checkZ x.size s e t)]) ∧ Below w.heap.size w w' := by
  obtain ⟨k, hk⟩ : ∃ k, checkZ x.size s e t = k := ⟨_, rfl⟩
  rw [hk] at h ⊢
  have hk' := Lib.hid hk; clear hk
  have h' : (k != 0) = true := by simpa using h
  go_enter Try.func35, Try.ntmps35
  go_wp2_with fail
  refine (check_err _ _ _ _ _ ht _ hk'.out).mono ?_
  rintro _ w1 ⟨rfl, hb1⟩
  have R1 := Lib.hid ((ResAt.new2 w (.cells #[.int .i64 s, .int .i64 e, .string t] 55)).below hb1 (by simp))
  have q0 := R1.out.1.1
  have q1 := R1.out.1.2.1
  have q2 := R1.out.1.2.2.1
  have f0 := R1.out.2.1
  have f1 := R1.out.2.2.1
  have f2 := R1.out.2.2.2
  go_wp2
  refine bodyPost_ret (v := .tuple #[ed 0 0 .empty, .int .i64 k]) (by simp [results, Try.results35, go_sem, q0, q1, q2]; rfl) rfl ⟨rfl, ?_⟩
  have L1 : Below w.heap.size w w1 := (((Below.refl _ _).alloc (Nat.le_refl _) _).alloc (by simp) _).trans (hb1.mono (by simp; omega))
  exact ((L1.setCell (by simp) _).setCell (by simp) _).setCell (by simp) _
theorem undo_ok (x : ByteArray) (a c : Nat) (t : ByteArray) (w : World) (ht : t.size ≤ 9223372036854775807) (hx : x.size ≤ 9223372036854775807) (h : checkZ x.size a c t = 0) :
    Calls Try.prog 35 #[.string x, ed a c t] w fun r w' => r = .returned (.tuple #[undoV x a c t, .int .i64 0]) ∧ Below w.heap.size w w' := by
  obtain ⟨n1, n2, n3, n4, n5⟩ := fits h
  have h' := Lib.hid h; clear h
  go_enter Try.func35, Try.ntmps35
  go_wp2_with fail
  refine (check_err _ _ _ _ _ ht _ h'.out).mono ?_
  rintro _ w1 ⟨rfl, hb1⟩
  have R1 := Lib.hid ((ResAt.new2 w (.cells #[.int .i64 a, .int .i64 c, .string t] 55)).below hb1 (by simp))
  have E1 := Lib.hid (((EdAt.new w a c t).alloc _).below hb1 (by simp; omega))
  have hc0 := E1.out.1
  have hc1 := E1.out.2.1
  have hc2 := E1.out.2.2.1
  have hz := R1.out.1.2.2.2
  go_wp2_with fail
  refine (clone_any _ _ (by simp; omega)).mono ?_
  rintro _ w2 ⟨rfl, hb2⟩
  have R2 := Lib.hid (R1.out.below hb2 hz)
  have E2 := Lib.hid (E1.out.below hb2 (by omega))
  have q0 := R2.out.1.1
  have q1 := R2.out.1.2.1
  have q2 := R2.out.1.2.2.1
  have f0 := R2.out.2.1
  have f1 := R2.out.2.2.1
  have f2 := R2.out.2.2.2
  clear hc0 hc1 hc2
  have hc0 := E2.out.1
  have hc1 := E2.out.2.1
  have hc2 := E2.out.2.2.1
  go_wp2
  refine bodyPost_ret (v := .tuple #[undoV x a c t, .int .i64 0]) (by simp [results, Try.results35, go_sem, q0, q1, q2, undoV]) rfl ⟨rfl, ?_⟩
  have L1 : Below w.heap.size w w1 := (((Below.refl _ _).alloc (Nat.le_refl _) _).alloc (by simp) _).trans (hb1.mono (by simp; omega))
  have L2 := L1.trans (hb2.mono (by omega))
  exact ((L2.setCell (by simp) _).setCell (by simp) _).setCell (by simp) _
theorem undo_any (x : ByteArray) (s e : Int) (t : ByteArray) (w : World) (ht : t.size ≤ 9223372036854775807) (hx : x.size ≤ 9223372036854775807) :
    Calls Try.prog 35 #[.string x, ed s e t] w fun r w' => r = .returned (.tuple #[ed (unS x s e t) (unE x s e t) (unT x s e t), .int .i64 (checkZ x.size s e t)]) ∧ Below w.heap.size w w' := by
  by_cases h : checkZ x.size s e t = 0
  · rw [unS, if_pos h, unE, if_pos h, unT, if_pos h, h]
    obtain ⟨n1, n2, n3, n4, n5⟩ := fits h
    obtain ⟨a, rfl⟩ : ∃ a : Nat, s = a := ⟨s.toNat, by omega⟩
    obtain ⟨c, rfl⟩ : ∃ c : Nat, e = c := ⟨e.toNat, by omega⟩
    exact undo_ok x a c t w ht hx h
  · rw [unS, if_neg h, unE, if_neg h, unT, if_neg h]; exact undo_err x s e t w ht hx h
end Go.Proofs.Ytagjeckgfjddmaa.Ed
