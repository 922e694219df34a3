/- Splice of an edit that does not fit: just its error. -/
import Derived.Test.YtagjeckgfjddmaaRope
namespace Go.Proofs.Ytagjeckgfjddmaa
set_option linter.unusedSimpArgs false
set_option linter.unusedVariables false
open Go.RowKit

theorem up_se {v0 v1 v2 : Value} {b0 : Nat} {rb : Nat} {o : Option T} {w0 w w' : World} (h : w.cell? ⟨b0, 0, none⟩ = some (v0) ∧ w.cell? ⟨b0, 1, none⟩ = some (v1) ∧ w.cell? ⟨b0, 2, none⟩ = some (v2) ∧ b0 < w.heap.size ∧ KR rb o w0 w) (hb : Below w.heap.size w w') : w'.cell? ⟨b0, 0, none⟩ = some (v0) ∧ w'.cell? ⟨b0, 1, none⟩ = some (v1) ∧ w'.cell? ⟨b0, 2, none⟩ = some (v2) ∧ b0 < w'.heap.size ∧ KR rb o w0 w' := by
  obtain ⟨h0, h1, h2, z0, K⟩ := h
  exact ⟨(hb.cell (p := ⟨b0, 0, none⟩) z0).trans h0, (hb.cell (p := ⟨b0, 1, none⟩) z0).trans h1, (hb.cell (p := ⟨b0, 2, none⟩) z0).trans h2, Nat.lt_of_lt_of_le z0 hb.size, K.up hb⟩
theorem up_se_k {v0 v1 v2 : Value} {b0 : Nat} {rb : Nat} {o : Option T} {w0 w : World} (h : w.cell? ⟨b0, 0, none⟩ = some (v0) ∧ w.cell? ⟨b0, 1, none⟩ = some (v1) ∧ w.cell? ⟨b0, 2, none⟩ = some (v2) ∧ b0 < w.heap.size ∧ KR rb o w0 w) : KR rb o w0 w := h.2.2.2.2

set_option maxHeartbeats 2000000 in
set_option maxRecDepth 100000 in
theorem splice_err (b : Nat) (o : Option T) (s : ByteArray) (a c : Int) (t : ByteArray) (k : Int) (w : World) (hr : RopeAt w b o) (q : TreeOf s o) (ht : t.size ≤ 9223372036854775807) (hk : k ≠ 0) (hz : Ed.checkZ s.size a c t = k) :
    Calls Try.prog 26 #[ptr b, Ed.ed a c t] w fun e w' => e = .returned (.tuple #[.pointer none, .int .i64 k]) ∧ Below w.heap.size w w' := by
  have hck := Lib.hid (fun wz => Ed.check_err s.size a c t wz ht k hz)
  have hln := Lib.hid (fun wz (r : RopeAt wz b o) => len_is b o s wz r q)
  have hr' := Lib.hid hr
  have hk' : (k != 0) = true := by simpa using hk
  clear hz q hr hk
  go_enter Try.func26, Try.ntmps26
  go_wp2_with fail
  refine (there_made b o _ (hr'.out.below ((Below.refl _ _).alloc (Nat.le_refl _) _))).mono ?_
  rintro _ _ ⟨rfl, rfl⟩
  have E0 := Ed.EdAt.new w a c t
  obtain ⟨e0, e1, e2, ez⟩ := E0
  have hL0 := (Below.refl w.heap.size w).alloc (Nat.le_refl _) (.cells #[.int .i64 a, .int .i64 c, .string t] 55)
  have hKR := Lib.hid (show KR b o w (w.alloc (.cells #[.int .i64 a, .int .i64 c, .string t] 55)) from ⟨hr'.out.below hL0, hL0⟩)
  clear hL0
  go_wp2_with fail
  go_region_held3 (fun w' => w'.cell? ⟨w.heap.size, 0, none⟩ = some (.int .i64 a) ∧ w'.cell? ⟨w.heap.size, 1, none⟩ = some (.int .i64 c) ∧ w'.cell? ⟨w.heap.size, 2, none⟩ = some (.string t) ∧ w.heap.size < w'.heap.size ∧ KR b o w w')
    (first | assumption | exact ⟨e0, e1, e2, ez, hKR.out.drew⟩ | exact up_se (by assumption) hb | exact up_se (by assumption) ((Below.refl _ _).alloc (Nat.le_refl _) _))
    (first | (go_at_call 29; refine (hln.out _ (by first | exact hKR.out.drew.1 | exact (up_se_k (by assumption)).1)).mono ?_; rintro _ _ ⟨rfl, rfl⟩) | (go_at_call 54; refine (hck.out _).mono ?_; rintro _ w' ⟨rfl, hb⟩))
  all_goals
    clear e0 e1 e2 ez
    go_wp2
    go_ret2
    exact ⟨rfl, (up_se_k (by assumption)).2⟩
/-- What Splice makes, of an edit that fits and of one that does not. -/
theorem fits_nat {n : Nat} {a c : Int} {t : ByteArray} (h : Ed.checkZ n a c t = 0) : ∃ x y : Nat, a = x ∧ c = y ∧ x ≤ y ∧ y ≤ n ∧ t.size ≤ 65536 - (n - (y - x)) := by
  obtain ⟨h1, h2, h3, h4, h5⟩ := Ed.fits h
  exact ⟨a.toNat, c.toNat, by omega, by omega, by omega, by omega, by omega⟩
end Go.Proofs.Ytagjeckgfjddmaa
