/- What Undo answers: the program's. -/
import Derived.Test.YtejllankcgcclaaRApply
import Derived.StillTailTactics
namespace Go.Proofs.Ytejllankcgcclaa
open Go.RowKit
set_option linter.unusedVariables false

/-- What takes an edit back. -/
def undoV (x : ByteArray) (a c : Nat) (t : ByteArray) : Value := ed a (a + t.size) (x.extract a c)

/-- A result's memory still lies there, blank, and can be written. -/
def ResAt (b : Nat) (w : World) : Prop :=
  EdAt b 0 0 .empty w ∧ w.frozen? ⟨b, 0, none⟩ = false ∧ w.frozen? ⟨b, 1, none⟩ = false ∧ w.frozen? ⟨b, 2, none⟩ = false
theorem ResAt.below {b B : Nat} {w w' : World} (h : ResAt b w) (hb : Below B w w') (hB : b < B) : ResAt b w' :=
  ⟨h.1.below hb hB, (hb.frozen (p := ⟨b, 0, none⟩) hB).trans h.2.1, (hb.frozen (p := ⟨b, 1, none⟩) hB).trans h.2.2.1, (hb.frozen (p := ⟨b, 2, none⟩) hB).trans h.2.2.2⟩
theorem ResAt.new (w : World) : ResAt w.heap.size (w.alloc (.cells #[.int .i64 0, .int .i64 0, .string .empty] 23)) :=
  ⟨EdAt.new w 0 0 .empty, by simp, by simp, by simp⟩
theorem ResAt.new2 (w : World) (o : Obj) : ResAt (w.heap.size + 1) ((w.alloc o).alloc (.cells #[.int .i64 0, .int .i64 0, .string .empty] 23)) := by
  have h := ResAt.new (w.alloc o)
  rwa [World.size_alloc] at h

theorem clone_any (s : ByteArray) (w : World) (hlim : s.size ≤ 281474976710656) :
    Calls Try.prog 35 #[.string s] w fun e w' => e = .returned (.string s) ∧ Below w.heap.size w w' := by
  go_enter Try.func35, Try.ntmps35
  go_wp2_with (go_at_call 42; refine (Try.stringslite_Clone _ _ hlim).mono ?_; rintro e w' ⟨rfl, hb⟩)
  go_ret
  exact ⟨rfl, hb⟩

theorem undo_err (x : ByteArray) (s e : Int) (t : ByteArray) (w : World) (ht : t.size ≤ 9223372036854775807) (hx : x.size ≤ 9223372036854775807) (h : checkZ x.size s e t ≠ 0) :
    Calls Try.prog 28 #[.string x, ed s e t] w fun r w' => r = .returned (.tuple #[ed 0 0 .empty, .int .i64 (checkZ x.size s e t)]) ∧ Below w.heap.size w w' := by
  obtain ⟨k, hk⟩ : ∃ k, checkZ x.size s e t = k := ⟨_, rfl⟩
  rw [hk] at h ⊢
  have hk' := Lib.hid hk; clear hk
  have h' : (k != 0) = true := by simpa using h
  go_enter Try.func28, Try.ntmps28
  go_wp2_with fail
  refine (check_err _ _ _ _ _ ht _ hk'.out).mono ?_
  rintro _ w1 ⟨rfl, hb1⟩
  have R1 := Lib.hid ((ResAt.new2 w (.cells #[.int .i64 s, .int .i64 e, .string t] 23)).below hb1 (by simp))
  have q0 := R1.out.1.1
  have q1 := R1.out.1.2.1
  have q2 := R1.out.1.2.2.1
  have f0 := R1.out.2.1
  have f1 := R1.out.2.2.1
  have f2 := R1.out.2.2.2
  go_wp2
  refine bodyPost_ret (v := .tuple #[ed 0 0 .empty, .int .i64 k]) (by simp [results, Try.results28, go_sem, q0, q1, q2]; rfl) rfl ⟨rfl, ?_⟩
  have L1 : Below w.heap.size w w1 := (((Below.refl _ _).alloc (Nat.le_refl _) _).alloc (by simp) _).trans (hb1.mono (by simp; omega))
  exact ((L1.setCell (by simp) _).setCell (by simp) _).setCell (by simp) _
theorem undo_ok (x : ByteArray) (a c : Nat) (t : ByteArray) (w : World) (ht : t.size ≤ 9223372036854775807) (hx : x.size ≤ 9223372036854775807) (h : checkZ x.size a c t = 0) :
    Calls Try.prog 28 #[.string x, ed a c t] w fun r w' => r = .returned (.tuple #[undoV x a c t, .int .i64 0]) ∧ Below w.heap.size w w' := by
  obtain ⟨n1, n2, n3, n4, n5⟩ := fits h
  have h' := Lib.hid h; clear h
  go_enter Try.func28, Try.ntmps28
  go_wp2_with fail
  refine (check_err _ _ _ _ _ ht _ h'.out).mono ?_
  rintro _ w1 ⟨rfl, hb1⟩
  have R1 := Lib.hid ((ResAt.new2 w (.cells #[.int .i64 a, .int .i64 c, .string t] 23)).below hb1 (by simp))
  have E1 := Lib.hid (((EdAt.new w a c t).alloc _).below hb1 (by simp; omega))
  have hc0 := E1.out.1
  have hc1 := E1.out.2.1
  have hc2 := E1.out.2.2.1
  have hz := R1.out.1.2.2.2
  go_wp2_with fail
  refine (clone_any _ _ (by simp; omega)).mono ?_
  rintro _ w2 ⟨rfl, hb2⟩
  have R2 := Lib.hid (R1.out.below hb2 hz)
  have E2 := Lib.hid (E1.out.below hb2 (by omega))
  have q0 := R2.out.1.1
  have q1 := R2.out.1.2.1
  have q2 := R2.out.1.2.2.1
  have f0 := R2.out.2.1
  have f1 := R2.out.2.2.1
  have f2 := R2.out.2.2.2
  clear hc0 hc1 hc2
  have hc0 := E2.out.1
  have hc1 := E2.out.2.1
  have hc2 := E2.out.2.2.1
  go_wp2
  refine bodyPost_ret (v := .tuple #[undoV x a c t, .int .i64 0]) (by simp [results, Try.results28, go_sem, q0, q1, q2, undoV]) rfl ⟨rfl, ?_⟩
  have L1 : Below w.heap.size w w1 := (((Below.refl _ _).alloc (Nat.le_refl _) _).alloc (by simp) _).trans (hb1.mono (by simp; omega))
  have L2 := L1.trans (hb2.mono (by omega))
  exact ((L2.setCell (by simp) _).setCell (by simp) _).setCell (by simp) _

theorem rapply_is (x : ByteArray) (s e : Int) (t : ByteArray) (w : World) (ht : t.size ≤ 9223372036854775807) (hx : x.size ≤ 9223372036854775807) (k : Int) (hk : k ≠ 0) (h : checkZ x.size s e t = k) :
    Calls Try.prog 18 #[.string x, ed s e t] w fun r w' => r = .returned (.tuple #[.string .empty, .int .i64 k]) ∧ Below w.heap.size w w' := by
  subst h; exact rapply_err x s e t w ht hx hk

theorem rundo_err (x : ByteArray) (s e : Int) (t : ByteArray) (w : World) (ht : t.size ≤ 9223372036854775807) (hx : x.size ≤ 9223372036854775807) (h : checkZ x.size s e t ≠ 0) :
    Calls Try.prog 29 #[.string x, ed s e t] w fun r w' => r = .returned (.tuple #[ed 0 0 .empty, .int .i64 (checkZ x.size s e t)]) ∧ Below w.heap.size w w' := by
  obtain ⟨k, hk⟩ : ∃ k, checkZ x.size s e t = k := ⟨_, rfl⟩
  rw [hk] at h ⊢
  have hk' := Lib.hid hk; clear hk
  have h' : (k != 0) = true := by simpa using h
  go_enter Try.func29, Try.ntmps29
  go_wp2_with fail
  refine (rapply_is _ _ _ _ _ ht hx _ h hk'.out).mono ?_
  rintro _ w1 ⟨rfl, hb1⟩
  have R1 := Lib.hid ((ResAt.new2 w (.cells #[.int .i64 s, .int .i64 e, .string t] 23)).below hb1 (by simp))
  have q0 := R1.out.1.1
  have q1 := R1.out.1.2.1
  have q2 := R1.out.1.2.2.1
  have f0 := R1.out.2.1
  have f1 := R1.out.2.2.1
  have f2 := R1.out.2.2.2
  go_wp2
  refine bodyPost_ret (v := .tuple #[ed 0 0 .empty, .int .i64 k]) (by simp [results, Try.results29, go_sem, q0, q1, q2]; rfl) rfl ⟨rfl, ?_⟩
  have L1 : Below w.heap.size w w1 := (((Below.refl _ _).alloc (Nat.le_refl _) _).alloc (by simp) _).trans (hb1.mono (by simp; omega))
  exact ((L1.setCell (by simp) _).setCell (by simp) _).setCell (by simp) _

theorem rundo_ok (x : ByteArray) (a c : Nat) (t : ByteArray) (w : World) (ht : t.size ≤ 9223372036854775807) (hx : x.size ≤ 9223372036854775807) (h : checkZ x.size a c t = 0) :
    Calls Try.prog 29 #[.string x, ed a c t] w fun r w' => r = .returned (.tuple #[undoV x a c t, .int .i64 0]) ∧ Below w.heap.size w w' := by
  obtain ⟨n1, n2, n3, n4, n5⟩ := fits h
  have h' := Lib.hid h; clear h
  go_enter Try.func29, Try.ntmps29
  go_wp2_with fail
  refine (rapply_ok _ _ _ _ _ ht hx h'.out).mono ?_
  rintro _ w1 ⟨rfl, hb1⟩
  have R1 := Lib.hid ((ResAt.new2 w (.cells #[.int .i64 a, .int .i64 c, .string t] 23)).below hb1 (by simp))
  have E1 := Lib.hid (((EdAt.new w a c t).alloc _).below hb1 (by simp; omega))
  have hc0 := E1.out.1
  have hc1 := E1.out.2.1
  have hc2 := E1.out.2.2.1
  have q0 := R1.out.1.1
  have q1 := R1.out.1.2.1
  have q2 := R1.out.1.2.2.1
  have f0 := R1.out.2.1
  have f1 := R1.out.2.2.1
  have f2 := R1.out.2.2.2
  go_wp2_with fail
  go_still_tail 15, (by kernel_rfl)
  change wpList _ _ _ _ _ w1.drew
  go_wp2
  refine bodyPost_ret (v := .tuple #[undoV x a c t, .int .i64 0]) (by simp [results, Try.results29, go_sem, q0, q1, q2, undoV]) rfl ⟨rfl, ?_⟩
  have L1 : Below w.heap.size w w1 := (((Below.refl _ _).alloc (Nat.le_refl _) _).alloc (by simp) _).trans (hb1.mono (by simp; omega))
  trace_state
  exact ((L1.drew.setCell (by simp) _).setCell (by simp) _).setCell (by simp) _
end Go.Proofs.Ytejllankcgcclaa
