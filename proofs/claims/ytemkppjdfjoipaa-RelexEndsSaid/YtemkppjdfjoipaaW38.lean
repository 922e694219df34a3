/- Texts of package regs, one behind the other. -/
import Derived.Shelf.Strings.Builder1
import Derived.Shelf.Strings.Builder2
import Derived.Shelf.Lays
import Derived.Shelf.LaysM
import Derived.Test.YtemkppjdfjoipaaProg
import Derived.WalkKit
import Derived.WalkLawsBesides
import Derived.WalkSpells
import Derived.Below
import Derived.Lib.Hide
import Derived.Outline
import Derived.Lib.IndexBytes
import Derived.WalkSmall
import Derived.Deep.QuietTactic
import Derived.BigQuiet
import Derived.StillTailTactics
section
/- Contracts of Go's library that the walks of this seat call, laid at its numbers. -/
namespace Go.Proofs
open Go.Shelf
def Try.sren : Go.Shelf.Ren := ⟨fun | 165 => 60 | 166 => 61 | 169 => 62 | 240 => 84 | 241 => 85 | 276 => 92 | 277 => 93 | n => n, fun | 0 => 0 | 3 => 3 | 4 => 4 | 5 => 5 | 9 => 9 | 20 => 20 | 37 => 105 | 70 => 104 | 72 => 107 | 75 => 110 | 80 => 54 | 127 => 142 | 164 => 152 | n => n, fun | n => n⟩
theorem Try.lay_Lays_n165 : Go.Proofs.Lays.n165 Try.prog Try.sren := {
  mixed := by kernel_rfl
  f165 := Try.func60.trans (congrArg some (by kernel_rfl))
  f240 := Try.func84.trans (congrArg some (by kernel_rfl))
  f241 := Try.func85.trans (congrArg some (by kernel_rfl))
  f276 := Try.func92.trans (congrArg some (by kernel_rfl))
  f277 := Try.func93.trans (congrArg some (by kernel_rfl))
  t0 := Try.underlying0
  a0 := Try.isAgg0
  z0 := Try.sizeOf0
  v0 := Try.zeroValue0
  t3 := Try.underlying3
  a3 := Try.isAgg3
  z3 := Try.sizeOf3
  v3 := Try.zeroValue3
  t4 := Try.underlying4
  a4 := Try.isAgg4
  z4 := Try.sizeOf4
  v4 := Try.zeroValue4
  t9 := Try.underlying9
  a9 := Try.isAgg9
  z9 := Try.sizeOf9
  v9 := Try.zeroValue9
  t20 := Try.underlying20
  a20 := Try.isAgg20
  z20 := Try.sizeOf20
  v20 := Try.zeroValue20
  t37 := Try.underlying105
  a37 := Try.isAgg105
  z37 := Try.sizeOf105
  v37 := Try.zeroValue105
  t70 := Try.underlying104
  a70 := Try.isAgg104
  z70 := Try.sizeOf104
  v70 := Try.zeroValue104
  t72 := Try.underlying107
  a72 := Try.isAgg107
  z72 := Try.sizeOf107
  v72 := Try.zeroValue107
  t164 := Try.underlying152
  a164 := Try.isAgg152
  z164 := Try.sizeOf152
  v164 := Try.zeroValue152 }
theorem Try.bExtra : Builder.Extra Try.prog Try.sren := {
  sizeBuilder := by kernel_rfl
  liesBuilder := by kernel_rfl
  t5 := Try.underlying5
  a5 := Try.isAgg5
  z5 := Try.sizeOf5
  v5 := Try.zeroValue5
  infoByte := by kernel_rfl
  cellsByte := by kernel_rfl
  sizeByte := by kernel_rfl
  neB5 := by decide }
open Go.RowKit in
theorem Try.Builder_Grow_fresh (B b n : Nat) (w : World) (hB : B ≤ b) (hbk : w.heap[b]? = some (.cells #[.pointer none, .slice none 0 0] 107 (0, 0))) (hBw : B ≤ w.heap.size) (hn : n ≤ 281474976710656) :
    Calls Try.prog 60 #[.pointer (some ⟨b, 0, none⟩), .int .i64 n] w fun e w' => e = .returned (.tuple #[]) ∧ (Lib.BuilderAt 107 5 B b (.pointer (some ⟨b, 0, none⟩)) [] w' ∧ Below B w w') := Any.Builder_Grow_fresh Try.lay_Lays_n165 Try.bExtra B b n w hB hbk hBw hn
theorem Try.lay_Lays_n166 : Go.Proofs.Lays.n166 Try.prog Try.sren := {
  mixed := by kernel_rfl
  f166 := Try.func61.trans (congrArg some (by kernel_rfl))
  f240 := Try.func84.trans (congrArg some (by kernel_rfl))
  f276 := Try.func92.trans (congrArg some (by kernel_rfl))
  t0 := Try.underlying0
  a0 := Try.isAgg0
  z0 := Try.sizeOf0
  v0 := Try.zeroValue0
  t3 := Try.underlying3
  a3 := Try.isAgg3
  z3 := Try.sizeOf3
  v3 := Try.zeroValue3
  t4 := Try.underlying4
  a4 := Try.isAgg4
  z4 := Try.sizeOf4
  v4 := Try.zeroValue4
  t9 := Try.underlying9
  a9 := Try.isAgg9
  z9 := Try.sizeOf9
  v9 := Try.zeroValue9
  t20 := Try.underlying20
  a20 := Try.isAgg20
  z20 := Try.sizeOf20
  v20 := Try.zeroValue20
  t37 := Try.underlying105
  a37 := Try.isAgg105
  z37 := Try.sizeOf105
  v37 := Try.zeroValue105
  t70 := Try.underlying104
  a70 := Try.isAgg104
  z70 := Try.sizeOf104
  v70 := Try.zeroValue104
  t72 := Try.underlying107
  a72 := Try.isAgg107
  z72 := Try.sizeOf107
  v72 := Try.zeroValue107
  t75 := Try.underlying110
  a75 := Try.isAgg110
  z75 := Try.sizeOf110
  v75 := Try.zeroValue110
  t164 := Try.underlying152
  a164 := Try.isAgg152
  z164 := Try.sizeOf152
  v164 := Try.zeroValue152 }
open Go.RowKit in
theorem Try.Builder_WriteString (B b : Nat) (bs : List Value) (s : ByteArray) (w : World) (h : Lib.IsBuilder 107 5 B b bs w) (hlen : bs.length + s.size ≤ 140737488355328) (hBw : B ≤ w.heap.size) :
    Calls Try.prog 61 #[.pointer (some ⟨b, 0, none⟩), .string s] w fun e w' => e = .returned (.tuple #[.int .i64 s.size, .nilIface]) ∧ (Lib.BuilderAt 107 5 B b (.pointer (some ⟨b, 0, none⟩)) (bs ++ Lib.strCells s) w' ∧ Below B w w') := Any.Builder_WriteString Try.lay_Lays_n166 Try.bExtra B b bs s w h hlen hBw
theorem Try.lay_Lays_n169 : Go.Proofs.Lays.n169 Try.prog Try.sren := {
  mixed := by kernel_rfl
  f169 := Try.func62.trans (congrArg some (by kernel_rfl))
  t0 := Try.underlying0
  a0 := Try.isAgg0
  z0 := Try.sizeOf0
  v0 := Try.zeroValue0
  t3 := Try.underlying3
  a3 := Try.isAgg3
  z3 := Try.sizeOf3
  v3 := Try.zeroValue3
  t9 := Try.underlying9
  a9 := Try.isAgg9
  z9 := Try.sizeOf9
  v9 := Try.zeroValue9
  t37 := Try.underlying105
  a37 := Try.isAgg105
  z37 := Try.sizeOf105
  v37 := Try.zeroValue105
  t70 := Try.underlying104
  a70 := Try.isAgg104
  z70 := Try.sizeOf104
  v70 := Try.zeroValue104
  t72 := Try.underlying107
  a72 := Try.isAgg107
  z72 := Try.sizeOf107
  v72 := Try.zeroValue107
  t127 := Try.underlying142
  a127 := Try.isAgg142
  z127 := Try.sizeOf142
  v127 := Try.zeroValue142 }
open Go.RowKit in
theorem Try.Builder_String_any (B b : Nat) (l : List UInt8) (w : World) (h : Lib.IsBuilder 107 5 B b (Lib.byteCells l) w) (hBw : B ≤ w.heap.size) :
    Calls Try.prog 62 #[.pointer (some ⟨b, 0, none⟩)] w fun e w' => e = .returned (.string ⟨l.toArray⟩) ∧ Below B w w' := Any.Builder_String_any Try.lay_Lays_n169 Try.bExtra B b l w h hBw
end Go.Proofs
end
section
/- Package edits: as in layer 3. -/
namespace Go.Proofs.Ytemkppjdfjoipaa.Ed
set_option linter.unusedSimpArgs false
set_option linter.unusedVariables false
open Go.RowKit


/-- An edit as a value. -/
abbrev ed (s e : Int) (t : ByteArray) : Value := .agg #[.int .i64 s, .int .i64 e, .string t]
def withinB (a b c : Int) : Bool := decide (0 ≤ a ∧ a ≤ b ∧ b ≤ c)
def checkZ (n s e : Int) (t : ByteArray) : Int :=
  if n < 0 ∨ 65536 < n then 2 else if withinB s e n = false then 10 else if 65536 - (n - (e - s)) < (t.size : Int) then 3 else 0
theorem within_any (a b c : Int) (w : World) : Calls Try.prog 80 #[.int .i64 a, .int .i64 b, .int .i64 c] w fun x w' => x = .returned (.bool (withinB a b c)) ∧ w = w' := by
  by_cases h1 : 0 ≤ a
  · by_cases h2 : a ≤ b
    · by_cases h3 : b ≤ c
      · have hw : withinB a b c = true := by simp [withinB, h1, h2, h3]
        rw [hw]
        go_enter Try.func80, Try.ntmps80
        go_wp2
        go_ret
        exact ⟨rfl, rfl⟩
      · have hw : withinB a b c = false := by simp [withinB, h3]
        rw [hw]
        go_enter Try.func80, Try.ntmps80
        go_wp2
        go_ret
        exact ⟨rfl, rfl⟩
    · have hw : withinB a b c = false := by simp [withinB, h2]
      rw [hw]
      go_enter Try.func80, Try.ntmps80
      go_wp2
      go_ret
      exact ⟨rfl, rfl⟩
  · have hw : withinB a b c = false := by simp [withinB, h1]
    rw [hw]
    go_enter Try.func80, Try.ntmps80
    go_wp2
    go_ret
    exact ⟨rfl, rfl⟩
theorem within_yes (a b c : Int) (w : World) (h : withinB a b c = true) : Calls Try.prog 80 #[.int .i64 a, .int .i64 b, .int .i64 c] w fun x w' => x = .returned (.bool true) ∧ w = w' := by
  rw [← h]; exact within_any a b c w
theorem within_no (a b c : Int) (w : World) (h : withinB a b c = false) : Calls Try.prog 80 #[.int .i64 a, .int .i64 b, .int .i64 c] w fun x w' => x = .returned (.bool false) ∧ w = w' := by
  rw [← h]; exact within_any a b c w
theorem check_any (n s e : Int) (t : ByteArray) (w : World) (ht : t.size ≤ 9223372036854775807) :
    Calls Try.prog 50 #[.int .i64 n, ed s e t] w fun x w' => x = .returned (.int .i64 (checkZ n s e t)) ∧ Below w.heap.size w w' := by
  by_cases h1 : n < 0
  · have hz : checkZ n s e t = 2 := by simp [checkZ, h1]
    rw [hz]
    go_enter Try.func50, Try.ntmps50
    go_wp2
    go_ret
    exact ⟨rfl, (Below.refl _ _).alloc (Nat.le_refl _) _⟩
  · by_cases h2 : 65536 < n
    · have hz : checkZ n s e t = 2 := by simp [checkZ, h2]
      rw [hz]
      go_enter Try.func50, Try.ntmps50
      go_wp2
      go_ret
      exact ⟨rfl, (Below.refl _ _).alloc (Nat.le_refl _) _⟩
    · cases h3 : withinB s e n
      · have hz : checkZ n s e t = 10 := by simp [checkZ, h1, h2, h3]
        rw [hz]
        have h3' := Lib.hid h3; clear h3
        go_enter Try.func50, Try.ntmps50
        go_wp2_with (go_at_call 80; refine (within_no _ _ _ _ h3'.out).mono ?_; rintro e w' ⟨rfl, rfl⟩)
        go_ret
        exact ⟨rfl, (Below.refl _ _).alloc (Nat.le_refl _) _⟩
      · have hb : 0 ≤ s ∧ s ≤ e ∧ e ≤ n := by simpa [withinB] using h3
        obtain ⟨b1, b2, b3⟩ := hb
        by_cases h4 : 65536 - (n - (e - s)) < (t.size : Int)
        · have hz : checkZ n s e t = 3 := by unfold checkZ; rw [if_neg (by omega), if_neg (by simp [h3]), if_pos h4]
          rw [hz]
          have h3' := Lib.hid h3; clear h3
          go_enter Try.func50, Try.ntmps50
          go_wp2_with (go_at_call 80; refine (within_yes _ _ _ _ h3'.out).mono ?_; rintro e w' ⟨rfl, rfl⟩)
          go_ret
          exact ⟨rfl, (Below.refl _ _).alloc (Nat.le_refl _) _⟩
        · have hz : checkZ n s e t = 0 := by unfold checkZ; rw [if_neg (by omega), if_neg (by simp [h3]), if_neg h4]
          rw [hz]
          have h3' := Lib.hid h3; clear h3
          go_enter Try.func50, Try.ntmps50
          go_wp2_with (go_at_call 80; refine (within_yes _ _ _ _ h3'.out).mono ?_; rintro e w' ⟨rfl, rfl⟩)
          go_ret
          exact ⟨rfl, (Below.refl _ _).alloc (Nat.le_refl _) _⟩

/-- The text behind an edit. -/
def splice (x : ByteArray) (s e : Nat) (t : ByteArray) : ByteArray := ⟨(x.data.toList.take s ++ t.data.toList ++ x.data.toList.drop e).toArray⟩
theorem check_err (n s e : Int) (t : ByteArray) (w : World) (ht : t.size ≤ 9223372036854775807) (k : Int) (h : checkZ n s e t = k) :
    Calls Try.prog 50 #[.int .i64 n, ed s e t] w fun x w' => x = .returned (.int .i64 k) ∧ Below w.heap.size w w' := by
  rw [← h]; exact check_any n s e t w ht
theorem apply_err (x : ByteArray) (s e : Int) (t : ByteArray) (w : World) (ht : t.size ≤ 9223372036854775807) (hx : x.size ≤ 9223372036854775807) (h : checkZ x.size s e t ≠ 0) :
    Calls Try.prog 38 #[.string x, ed s e t] w fun r w' => r = .returned (.tuple #[.string .empty, .int .i64 (checkZ x.size s e t)]) ∧ Below w.heap.size w w' := by
  obtain ⟨k, hk⟩ : ∃ k, checkZ x.size s e t = k := ⟨_, rfl⟩
  rw [hk] at h ⊢
  have hk' := Lib.hid hk; clear hk
  have h' : (k != 0) = true := by simpa using h
  go_enter Try.func38, Try.ntmps38
  go_wp2_with (go_at_call 50; refine (check_err _ _ _ _ _ ht _ hk'.out).mono ?_; rintro e w' ⟨rfl, hb⟩)
  go_ret2
  exact ⟨rfl, ((Below.refl _ _).alloc (Nat.le_refl _) _).trans (hb.mono (by simp))⟩
/-- A boxed edit still lies there. -/
def EdAt (b : Nat) (s e : Int) (t : ByteArray) (w : World) : Prop :=
  w.cell? ⟨b, 0, none⟩ = some (.int .i64 s) ∧ w.cell? ⟨b, 1, none⟩ = some (.int .i64 e) ∧ w.cell? ⟨b, 2, none⟩ = some (.string t) ∧ b < w.heap.size
theorem EdAt.new (w : World) (s e : Int) (t : ByteArray) : EdAt w.heap.size s e t (w.alloc (.cells #[.int .i64 s, .int .i64 e, .string t] 45)) :=
  ⟨World.cell?_alloc_new _ _ _ _, World.cell?_alloc_new _ _ _ _, World.cell?_alloc_new _ _ _ _, by simp⟩
theorem EdAt.below {b B : Nat} {s e : Int} {t : ByteArray} {w w' : World} (h : EdAt b s e t w) (hb : Below B w w') (hB : b < B) : EdAt b s e t w' :=
  ⟨(hb.cell (p := ⟨b, 0, none⟩) hB).trans h.1, (hb.cell (p := ⟨b, 1, none⟩) hB).trans h.2.1, (hb.cell (p := ⟨b, 2, none⟩) hB).trans h.2.2.1, Nat.lt_of_lt_of_le h.2.2.2 hb.size⟩
theorem EdAt.alloc {b : Nat} {s e : Int} {t : ByteArray} {w : World} (h : EdAt b s e t w) (o : Obj) : EdAt b s e t (w.alloc o) :=
  h.below ((Below.refl w.heap.size w).alloc (Nat.le_refl _) o) h.2.2.2
theorem grow_int (B b : Nat) (z : Int) (w : World) (hB : B ≤ b) (hbk : w.heap[b]? = some (.cells #[.pointer none, .slice none 0 0] 107 (0, 0))) (hBw : B ≤ w.heap.size) (h0 : 0 ≤ z) (hn : z ≤ 281474976710656) :
    Calls Try.prog 60 #[.pointer (some ⟨b, 0, none⟩), .int .i64 z] w fun e w' => e = .returned (.tuple #[]) ∧ (Lib.BuilderAt 107 5 B b (.pointer (some ⟨b, 0, none⟩)) [] w' ∧ Below B w w') := by
  obtain ⟨n, rfl⟩ : ∃ n : Nat, z = n := ⟨z.toNat, by omega⟩
  exact Try.Builder_Grow_fresh B b n w hB hbk hBw (by omega)
theorem write_any (B b : Nat) (bs : List Value) (s : ByteArray) (w : World) (h : Lib.BuilderAt 107 5 B b (.pointer (some ⟨b, 0, none⟩)) bs w) (hlen : bs.length + s.size ≤ 140737488355328) (hBw : B ≤ w.heap.size) :
    Calls Try.prog 61 #[.pointer (some ⟨b, 0, none⟩), .string s] w fun e w' => e = .returned (.tuple #[.int .i64 s.size, .nilIface]) ∧ (Lib.BuilderAt 107 5 B b (.pointer (some ⟨b, 0, none⟩)) (bs ++ Lib.strCells s) w' ∧ Below B w w') :=
  Try.Builder_WriteString B b bs s w (.inr h) hlen hBw
theorem splice_cells (x : ByteArray) (a c : Nat) (t : ByteArray) :
    [] ++ Lib.strCells (x.extract 0 a) ++ Lib.strCells t ++ Lib.strCells (x.extract c x.size) = Lib.strCells (splice x a c t) := by
  rw [List.nil_append, Lib.strCells_eq, Lib.strCells_eq, Lib.strCells_eq, Lib.strCells_eq, Lib.extract_data, Lib.extract_to_end]
  simp [splice, Lib.byteCells_append]
theorem string_any (B b : Nat) (y : ByteArray) (w : World) (h : Lib.BuilderAt 107 5 B b (.pointer (some ⟨b, 0, none⟩)) (Lib.strCells y) w) (hBw : B ≤ w.heap.size) :
    Calls Try.prog 62 #[.pointer (some ⟨b, 0, none⟩)] w fun e w' => e = .returned (.string y) ∧ Below B w w' :=
  Try.Builder_String_any B b y.data.toList w (.inr h) hBw
theorem apply_ok (x : ByteArray) (s e : Int) (t : ByteArray) (w : World) (ht : t.size ≤ 9223372036854775807) (hx : x.size ≤ 9223372036854775807) (h : checkZ x.size s e t = 0) :
    Calls Try.prog 38 #[.string x, ed s e t] w fun r w' => r = .returned (.tuple #[.string (splice x s.toNat e.toNat t), .int .i64 0]) ∧ Below w.heap.size w w' := by
  have hn : 0 ≤ s ∧ s ≤ e ∧ e ≤ x.size ∧ (x.size : Int) ≤ 65536 ∧ (t.size : Int) ≤ 65536 - (x.size - (e - s)) := by
    unfold checkZ at h
    split at h
    · omega
    split at h
    · omega
    split at h
    · omega
    rename_i h1 h2 h3
    have : withinB s e x.size = true := by simpa using h2
    simp [withinB] at this
    omega
  obtain ⟨a, rfl⟩ : ∃ a : Nat, s = a := ⟨s.toNat, by omega⟩
  obtain ⟨c, rfl⟩ : ∃ c : Nat, e = c := ⟨e.toNat, by omega⟩
  obtain ⟨n1, n2, n3, n4, n5⟩ := hn
  have h' := Lib.hid h; clear h
  go_enter Try.func38, Try.ntmps38
  go_wp2_with fail
  refine (check_err _ _ _ _ _ ht _ h'.out).mono ?_
  rintro _ w1 ⟨rfl, hb1⟩
  have E1 := Lib.hid ((EdAt.new w a c t).below hb1 (by simp))
  have hc0 := E1.out.1
  have hc1 := E1.out.2.1
  have hc2 := E1.out.2.2.1
  have hz := E1.out.2.2.2
  go_wp2_with fail
  refine (grow_int w1.heap.size w1.heap.size _ _ (Nat.le_refl _) (heap_alloc_new _ _) (by simp) (by omega) (by omega)).mono ?_
  rintro _ w2 ⟨rfl, hat2, hb2⟩
  have L2 : Below w1.heap.size w1 w2 := ((Below.refl _ _).alloc (Nat.le_refl _) _).trans hb2
  have E2 := Lib.hid (E1.out.below L2 hz)
  have s2 := L2.size
  clear hc0 hc1 hc2
  have hc0 := E2.out.1
  have hc1 := E2.out.2.1
  have hc2 := E2.out.2.2.1
  go_wp2_with fail
  refine (write_any w1.heap.size w1.heap.size _ _ _ hat2 (by simp; omega) s2).mono ?_
  rintro _ w3 ⟨rfl, hat3, hb3⟩
  have E3 := Lib.hid (E2.out.below hb3 hz)
  have s3 := hb3.size
  clear hc0 hc1 hc2
  have hc0 := E3.out.1
  have hc1 := E3.out.2.1
  have hc2 := E3.out.2.2.1
  go_wp2_with fail
  refine (write_any w1.heap.size w1.heap.size _ _ _ hat3 (by simp [Lib.strCells_length]; omega) (by omega)).mono ?_
  rintro _ w4 ⟨rfl, hat4, hb4⟩
  have E4 := Lib.hid (E3.out.below hb4 hz)
  have s4 := hb4.size
  clear hc0 hc1 hc2
  have hc0 := E4.out.1
  have hc1 := E4.out.2.1
  have hc2 := E4.out.2.2.1
  go_wp2_with fail
  refine (write_any w1.heap.size w1.heap.size _ _ _ hat4 (by simp [Lib.strCells_length]; omega) (by omega)).mono ?_
  rintro _ w5 ⟨rfl, hat5, hb5⟩
  rw [splice_cells x a c t] at hat5
  have s5 := hb5.size
  go_wp2_with fail
  refine (string_any w1.heap.size w1.heap.size _ _ hat5 (by omega)).mono ?_
  rintro _ w6 ⟨rfl, hb6⟩
  go_wp2_with fail
  go_ret2
  refine ⟨rfl, ?_⟩
  have L : Below w1.heap.size w1 w6 := (((L2.trans hb3).trans hb4).trans hb5).trans hb6
  exact (((Below.refl _ _).alloc (Nat.le_refl _) _).trans (hb1.mono (by simp))).trans (L.mono (by omega))
def apS (x : ByteArray) (s e : Int) (t : ByteArray) : ByteArray := if checkZ x.size s e t = 0 then splice x s.toNat e.toNat t else .empty
theorem apply_any (x : ByteArray) (s e : Int) (t : ByteArray) (w : World) (ht : t.size ≤ 9223372036854775807) (hx : x.size ≤ 9223372036854775807) :
    Calls Try.prog 38 #[.string x, ed s e t] w fun r w' => r = .returned (.tuple #[.string (apS x s e t), .int .i64 (checkZ x.size s e t)]) ∧ Below w.heap.size w w' := by
  by_cases h : checkZ x.size s e t = 0
  · rw [apS, if_pos h, h]; exact apply_ok x s e t w ht hx h
  · rw [apS, if_neg h]; exact apply_err x s e t w ht hx h
end Go.Proofs.Ytemkppjdfjoipaa.Ed
end
