/- EditsApplies, EditsTakes, EditsImages: the walks. -/
import Derived.Test.YtejllankcgcclaaImage
namespace Go.Proofs.Ytejllankcgcclaa
open Go.RowKit
set_option linter.unusedVariables false

theorem Bcall {w0 w w' : World} (h : Below w0.heap.size w0 w) (h' : Below w.heap.size w w') : Below w0.heap.size w0 w' := h.trans (h'.mono h.size)
theorem Bnew {w0 w : World} (h : Below w0.heap.size w0 w) (o : Obj) : Below w0.heap.size w0 (w.alloc o) := h.alloc h.size o
def apS (x : ByteArray) (s e : Int) (t : ByteArray) : ByteArray := if checkZ x.size s e t = 0 then splice x s.toNat e.toNat t else .empty
theorem apply_any (x : ByteArray) (s e : Int) (t : ByteArray) (w : World) (ht : t.size ≤ 9223372036854775807) (hx : x.size ≤ 9223372036854775807) :
    Calls Try.prog 17 #[.string x, ed s e t] w fun r w' => r = .returned (.tuple #[.string (apS x s e t), .int .i64 (checkZ x.size s e t)]) ∧ Below w.heap.size w w' := by
  by_cases h : checkZ x.size s e t = 0
  · rw [apS, if_pos h, h]; exact apply_ok x s e t w ht hx h
  · rw [apS, if_neg h]; exact apply_err x s e t w ht hx h
theorem rapply_any (x : ByteArray) (s e : Int) (t : ByteArray) (w : World) (ht : t.size ≤ 9223372036854775807) (hx : x.size ≤ 9223372036854775807) :
    Calls Try.prog 18 #[.string x, ed s e t] w fun r w' => r = .returned (.tuple #[.string (apS x s e t), .int .i64 (checkZ x.size s e t)]) ∧ Below w.heap.size w w' := by
  by_cases h : checkZ x.size s e t = 0
  · rw [apS, if_pos h, h]; exact rapply_ok x s e t w ht hx h
  · rw [apS, if_neg h]; exact rapply_err x s e t w ht hx h
def unS (x : ByteArray) (s e : Int) (t : ByteArray) : Int := if checkZ x.size s e t = 0 then s else 0
def unE (x : ByteArray) (s e : Int) (t : ByteArray) : Int := if checkZ x.size s e t = 0 then s + t.size else 0
def unT (x : ByteArray) (s e : Int) (t : ByteArray) : ByteArray := if checkZ x.size s e t = 0 then x.extract s.toNat e.toNat else .empty
theorem undo_any (x : ByteArray) (s e : Int) (t : ByteArray) (w : World) (ht : t.size ≤ 9223372036854775807) (hx : x.size ≤ 9223372036854775807) :
    Calls Try.prog 28 #[.string x, ed s e t] w fun r w' => r = .returned (.tuple #[ed (unS x s e t) (unE x s e t) (unT x s e t), .int .i64 (checkZ x.size s e t)]) ∧ Below w.heap.size w w' := by
  by_cases h : checkZ x.size s e t = 0
  · rw [unS, if_pos h, unE, if_pos h, unT, if_pos h, h]
    obtain ⟨n1, n2, n3, n4, n5⟩ := fits h
    obtain ⟨a, rfl⟩ : ∃ a : Nat, s = a := ⟨s.toNat, by omega⟩
    obtain ⟨c, rfl⟩ : ∃ c : Nat, e = c := ⟨e.toNat, by omega⟩
    exact undo_ok x a c t w ht hx h
  · rw [unS, if_neg h, unE, if_neg h, unT, if_neg h]; exact undo_err x s e t w ht hx h
theorem rundo_any (x : ByteArray) (s e : Int) (t : ByteArray) (w : World) (ht : t.size ≤ 9223372036854775807) (hx : x.size ≤ 9223372036854775807) :
    Calls Try.prog 29 #[.string x, ed s e t] w fun r w' => r = .returned (.tuple #[ed (unS x s e t) (unE x s e t) (unT x s e t), .int .i64 (checkZ x.size s e t)]) ∧ Below w.heap.size w w' := by
  by_cases h : checkZ x.size s e t = 0
  · rw [unS, if_pos h, unE, if_pos h, unT, if_pos h, h]
    obtain ⟨n1, n2, n3, n4, n5⟩ := fits h
    obtain ⟨a, rfl⟩ : ∃ a : Nat, s = a := ⟨s.toNat, by omega⟩
    obtain ⟨c, rfl⟩ : ∃ c : Nat, e = c := ⟨e.toNat, by omega⟩
    exact rundo_ok x a c t w ht hx h
  · rw [unS, if_neg h, unE, if_neg h, unT, if_neg h]; exact rundo_err x s e t w ht hx h

theorem applies_walk (x : ByteArray) (s e : Int) (t : ByteArray) (w : World) (ht : t.size ≤ 9223372036854775807) (hx : x.size ≤ 9223372036854775807) :
    Calls Try.prog 4 #[.string x, ed s e t] w fun r w' => r = .returned (.bool true) ∧ Below w.heap.size w w' := by
  go_enter Try.func4, Try.ntmps4
  go_wp2_with fail
  refine (apply_any _ _ _ _ _ ht hx).mono ?_
  rintro _ w1 ⟨rfl, hb1⟩
  have E1 := Lib.hid ((EdAt.new w s e t).below hb1 (by simp))
  have hc0 := E1.out.1
  have hc1 := E1.out.2.1
  have hc2 := E1.out.2.2.1
  go_wp2_with fail
  refine (rapply_any _ _ _ _ _ ht hx).mono ?_
  rintro _ w2 ⟨rfl, hb2⟩
  go_wp2_with (go_at_call 16; refine (alive_any _).mono ?_; rintro _ w3 ⟨rfl, hb3⟩)
  go_ret
  exact ⟨rfl, ((((Below.refl _ _).alloc (Nat.le_refl _) _).trans (hb1.mono (by simp))).trans (hb2.mono (Nat.le_of_lt E1.out.2.2.2))).trans (hb3.mono (Nat.le_trans (Nat.le_of_lt E1.out.2.2.2) hb2.size))⟩

theorem takes_walk (x : ByteArray) (s e : Int) (t : ByteArray) (w : World) (ht : t.size ≤ 9223372036854775807) (hx : x.size ≤ 9223372036854775807) :
    Calls Try.prog 7 #[.string x, ed s e t] w fun r w' => r = .returned (.bool true) ∧ Below w.heap.size w w' := by
  go_enter Try.func7, Try.ntmps7
  go_wp2_with fail
  refine (undo_any _ _ _ _ _ ht hx).mono ?_
  rintro _ w1 ⟨rfl, hb1⟩
  have E1 := Lib.hid ((EdAt.new w s e t).below hb1 (by simp))
  have hc0 := E1.out.1
  have hc1 := E1.out.2.1
  have hc2 := E1.out.2.2.1
  have hz := E1.out.2.2.2
  go_wp2_with fail
  refine (rundo_any _ _ _ _ _ ht hx).mono ?_
  rintro _ w2 ⟨rfl, hb2⟩
  have U := Lib.hid ((EdAt.new w1 (unS x s e t) (unE x s e t) (unT x s e t)).below hb2 (by simp))
  have u0 := U.out.1
  have u1 := U.out.2.1
  have u2 := U.out.2.2.1
  have uz := U.out.2.2.2
  go_wp2_with (go_at_call 16; refine (alive_any _).mono ?_; rintro _ w3 ⟨rfl, hb3⟩)
  go_ret
  exact ⟨rfl, Bcall (Bnew (Bcall (Bnew (Bcall (Bnew (Below.refl _ _) _) hb1) _) hb2) _) hb3⟩

theorem EdSp {w0 w w' : World} {b : Nat} {s e : Int} {t : ByteArray} {f g : Int} (h : w.cell? ⟨b, 0, none⟩ = some (.int .i64 s) ∧ w.cell? ⟨b, 1, none⟩ = some (.int .i64 e) ∧ w.cell? ⟨b, 2, none⟩ = some (.string t) ∧ w.cell? ⟨b + 1, 0, none⟩ = some (.int .i64 f) ∧ w.cell? ⟨b + 1, 1, none⟩ = some (.int .i64 g) ∧ b + 1 < w.heap.size ∧ Below w0.heap.size w0 w)
    (hb : Below w.heap.size w w') : w'.cell? ⟨b, 0, none⟩ = some (.int .i64 s) ∧ w'.cell? ⟨b, 1, none⟩ = some (.int .i64 e) ∧ w'.cell? ⟨b, 2, none⟩ = some (.string t) ∧ w'.cell? ⟨b + 1, 0, none⟩ = some (.int .i64 f) ∧ w'.cell? ⟨b + 1, 1, none⟩ = some (.int .i64 g) ∧ b + 1 < w'.heap.size ∧ Below w0.heap.size w0 w' := by
  obtain ⟨h0, h1, h2, h3, h4, h5, h6⟩ := h
  exact ⟨(hb.cell (p := ⟨b, 0, none⟩) (by show b < _; omega)).trans h0, (hb.cell (p := ⟨b, 1, none⟩) (by show b < _; omega)).trans h1, (hb.cell (p := ⟨b, 2, none⟩) (by show b < _; omega)).trans h2,
    (hb.cell (p := ⟨b + 1, 0, none⟩) h5).trans h3, (hb.cell (p := ⟨b + 1, 1, none⟩) h5).trans h4, Nat.lt_of_lt_of_le h5 hb.size, Bcall h6 hb⟩
theorem EdSpBelow {w0 w : World} {b : Nat} {s e : Int} {t : ByteArray} {f g : Int} (h : w.cell? ⟨b, 0, none⟩ = some (.int .i64 s) ∧ w.cell? ⟨b, 1, none⟩ = some (.int .i64 e) ∧ w.cell? ⟨b, 2, none⟩ = some (.string t) ∧ w.cell? ⟨b + 1, 0, none⟩ = some (.int .i64 f) ∧ w.cell? ⟨b + 1, 1, none⟩ = some (.int .i64 g) ∧ b + 1 < w.heap.size ∧ Below w0.heap.size w0 w) : Below w0.heap.size w0 w := h.2.2.2.2.2.2
theorem EdSpNew (w : World) (s e : Int) (t : ByteArray) (f g : Int) (W : World) (hW : W = (w.alloc (.cells #[.int .i64 s, .int .i64 e, .string t] 23)).alloc (.cells #[.int .i64 f, .int .i64 g] 40)) :
    W.cell? ⟨w.heap.size, 0, none⟩ = some (.int .i64 s) ∧ W.cell? ⟨w.heap.size, 1, none⟩ = some (.int .i64 e) ∧ W.cell? ⟨w.heap.size, 2, none⟩ = some (.string t) ∧ W.cell? ⟨w.heap.size + 1, 0, none⟩ = some (.int .i64 f) ∧ W.cell? ⟨w.heap.size + 1, 1, none⟩ = some (.int .i64 g) ∧ w.heap.size + 1 < W.heap.size ∧ Below w.heap.size w W := by
  subst hW
  exact ⟨World.cell?_alloc2_first _ _ _ _, World.cell?_alloc2_first _ _ _ _, World.cell?_alloc2_first _ _ _ _, World.cell?_alloc2_new _ _ _ _, World.cell?_alloc2_new _ _ _ _, by simp, Bnew (Bnew (Below.refl _ _) _) _⟩

theorem images_walk (s e : Int) (t : ByteArray) (k f g : Int) (w : World) (ht : t.size ≤ 9223372036854775807) :
    Calls Try.prog 6 #[ed s e t, .int .i64 k, sp f g] w fun r w' => r = .returned (.bool true) ∧ Below w.heap.size w w' := by
  obtain ⟨h0, h1, h2, h3, h4, h5, h6⟩ := EdSpNew w s e t f g _ rfl
  go_enter Try.func6, Try.ntmps6
  go_wp2_with fail
  go_region_held3 (fun w' => w'.cell? ⟨w.heap.size, 0, none⟩ = some (.int .i64 s) ∧ w'.cell? ⟨w.heap.size, 1, none⟩ = some (.int .i64 e) ∧ w'.cell? ⟨w.heap.size, 2, none⟩ = some (.string t) ∧ w'.cell? ⟨w.heap.size + 1, 0, none⟩ = some (.int .i64 f) ∧ w'.cell? ⟨w.heap.size + 1, 1, none⟩ = some (.int .i64 g) ∧ w.heap.size + 1 < w'.heap.size ∧ Below w.heap.size w w')
    (first | exact ⟨h0, h1, h2, h3, h4, h5, h6.drew⟩ | exact EdSp (by assumption) hb)
    (first | (go_at_call 24; refine (at_any _ _ _ _ _ ht).mono ?_; rintro _ w' ⟨rfl, hb⟩) | (go_at_call 25; refine (rat_any _ _ _ _ _ ht).mono ?_; rintro _ w' ⟨rfl, hb⟩) | (go_at_call 26; refine (image_any _ _ _ _ _ _ ht).mono ?_; rintro _ w' ⟨rfl, hb⟩) | (go_at_call 27; refine (rimage_any _ _ _ _ _ _ ht).mono ?_; rintro _ w' ⟨rfl, hb⟩) | (go_at_call 16; refine (alive_any _).mono ?_; rintro _ w' ⟨rfl, hb⟩))
  go_wp2
  go_ret
  exact ⟨rfl, EdSpBelow (by assumption)⟩
end Go.Proofs.Ytejllankcgcclaa
