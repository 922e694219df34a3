/- EditsChecks: the walk. -/
import Derived.Test.YtejllankcgcclaaAlive
namespace Go.Proofs.Ytejllankcgcclaa
open Go.RowKit
set_option linter.unusedVariables false

theorem below_call {B : Nat} {w0 w w' : World} (h : Below B w0 w) (h' : Below w.heap.size w w') (hB : B ≤ w.heap.size) : Below B w0 w' := h.trans (h'.mono hB)

/-- What is carried through a statement whose order is open: the boxed edit, and that what was there is as it was. -/
theorem keepEd {b : Nat} {s e : Int} {t : ByteArray} {w0 w w' : World} (h : w.cell? ⟨b, 0, none⟩ = some (.int .i64 s) ∧ w.cell? ⟨b, 1, none⟩ = some (.int .i64 e) ∧ w.cell? ⟨b, 2, none⟩ = some (.string t) ∧ b < w.heap.size ∧ Below b w0 w) (hb : Below w.heap.size w w') :
    w'.cell? ⟨b, 0, none⟩ = some (.int .i64 s) ∧ w'.cell? ⟨b, 1, none⟩ = some (.int .i64 e) ∧ w'.cell? ⟨b, 2, none⟩ = some (.string t) ∧ b < w'.heap.size ∧ Below b w0 w' :=
  let ⟨h0, h1, h2, h3, h4⟩ := h
  ⟨(hb.cell (p := ⟨b, 0, none⟩) h3).trans h0, (hb.cell (p := ⟨b, 1, none⟩) h3).trans h1, (hb.cell (p := ⟨b, 2, none⟩) h3).trans h2, Nat.lt_of_lt_of_le h3 hb.size, h4.trans (hb.mono (Nat.le_of_lt h3))⟩

theorem heldBelow {b : Nat} {s e : Int} {t : ByteArray} {w0 w : World} (h : w.cell? ⟨b, 0, none⟩ = some (.int .i64 s) ∧ w.cell? ⟨b, 1, none⟩ = some (.int .i64 e) ∧ w.cell? ⟨b, 2, none⟩ = some (.string t) ∧ b < w.heap.size ∧ Below b w0 w) : Below b w0 w := h.2.2.2.2

theorem checks_walk (n s e : Int) (t : ByteArray) (w : World) (ht : t.size ≤ 9223372036854775807) :
    Calls Try.prog 3 #[.int .i64 n, ed s e t] w fun x w' => x = .returned (.bool true) ∧ Below w.heap.size w w' := by
  have hc0 := (EdAt.new w s e t).1
  have hc1 := (EdAt.new w s e t).2.1
  have hc2 := (EdAt.new w s e t).2.2.1
  have hz := (EdAt.new w s e t).2.2.2
  have hL := (Below.refl w.heap.size w).alloc (Nat.le_refl _) (.cells #[.int .i64 s, .int .i64 e, .string t] 23)
  go_enter Try.func3, Try.ntmps3
  go_wp2_with fail
  go_region_held3 (fun w' => w'.cell? ⟨w.heap.size, 0, none⟩ = some (.int .i64 s) ∧ w'.cell? ⟨w.heap.size, 1, none⟩ = some (.int .i64 e) ∧ w'.cell? ⟨w.heap.size, 2, none⟩ = some (.string t) ∧ w.heap.size < w'.heap.size ∧ Below w.heap.size w w')
    (first | exact ⟨hc0, hc1, hc2, hz, hL.drew⟩ | exact keepEd (by assumption) hb)
    (first | (go_at_call 14; refine (check_any _ _ _ _ _ ht).mono ?_; rintro _ w' ⟨rfl, hb⟩) | (go_at_call 15; refine (rcheck_any _ _ _ _ _ ht).mono ?_; rintro _ w' ⟨rfl, hb⟩) | (go_at_call 16; refine (alive_any _).mono ?_; rintro _ w' ⟨rfl, hb⟩))
  go_wp2
  go_ret
  exact ⟨rfl, heldBelow (by assumption)⟩
end Go.Proofs.Ytejllankcgcclaa
