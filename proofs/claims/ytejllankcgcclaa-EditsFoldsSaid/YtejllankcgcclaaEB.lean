/- EditsRise, EditsNothing: the walks. -/
import Derived.Test.YtejllankcgcclaaEA
namespace Go.Proofs.Ytejllankcgcclaa
open Go.RowKit
set_option linter.unusedVariables false

theorem EdBelow {w0 w w' : World} {b : Nat} {s e : Int} {t : ByteArray} (h : w.cell? ⟨b, 0, none⟩ = some (.int .i64 s) ∧ w.cell? ⟨b, 1, none⟩ = some (.int .i64 e) ∧ w.cell? ⟨b, 2, none⟩ = some (.string t) ∧ b < w.heap.size ∧ Below w0.heap.size w0 w) (hb : Below w.heap.size w w') :
    w'.cell? ⟨b, 0, none⟩ = some (.int .i64 s) ∧ w'.cell? ⟨b, 1, none⟩ = some (.int .i64 e) ∧ w'.cell? ⟨b, 2, none⟩ = some (.string t) ∧ b < w'.heap.size ∧ Below w0.heap.size w0 w' := by
  obtain ⟨h0, h1, h2, h3, h4⟩ := h
  exact ⟨(hb.cell (p := ⟨b, 0, none⟩) h3).trans h0, (hb.cell (p := ⟨b, 1, none⟩) h3).trans h1, (hb.cell (p := ⟨b, 2, none⟩) h3).trans h2, Nat.lt_of_lt_of_le h3 hb.size, Bcall h4 hb⟩

theorem at_good {s e : Int} {t : ByteArray} {k : Int} (h0 : 0 ≤ s) (h1 : s ≤ e) (h2 : e ≤ 65536) (h3 : t.size ≤ 65536) (h4 : 0 ≤ k) (h5 : k ≤ 65536) :
    atZ s e t k = if k ≤ s then k else if e ≤ k then k - (e - s) + t.size else s + min (k - s) t.size := by
  unfold atZ
  rw [if_neg]
  simp [upB, withinB]
  omega

theorem at_rise {s e : Int} {t : ByteArray} {a b : Int} (h0 : 0 ≤ s) (h1 : s ≤ e) (h2 : e ≤ 65536) (h3 : t.size ≤ 65536) (h4 : 0 ≤ a) (h5 : a ≤ b) (h6 : b ≤ 65536) :
    0 ≤ atZ s e t a ∧ atZ s e t a ≤ atZ s e t b ∧ atZ s e t b ≤ b + t.size ∧ a - (e - s) ≤ atZ s e t a := by
  rw [at_good h0 h1 h2 h3 h4 (by omega), at_good h0 h1 h2 h3 (by omega) h6]
  split <;> split <;> (try split) <;> (try split) <;> omega

set_option maxHeartbeats 1000000 in
theorem rise_walk (s e : Int) (t : ByteArray) (a b : Int) (w : World) (ht : t.size ≤ 9223372036854775807) :
    Calls Try.prog 10 #[ed s e t, .int .i64 a, .int .i64 b] w fun r w' => r = .returned (.bool true) ∧ Below w.heap.size w w' := by
  have hc0 := (EdAt.new w s e t).1
  have hc1 := (EdAt.new w s e t).2.1
  have hc2 := (EdAt.new w s e t).2.2.1
  have hz := (EdAt.new w s e t).2.2.2
  have hL := Bnew (Below.refl w.heap.size w) (.cells #[.int .i64 s, .int .i64 e, .string t] 23)
  go_enter Try.func10, Try.ntmps10
  go_wp2_with (go_at_call 16; refine (alive_any _).mono ?_; rintro _ w3 ⟨rfl, hb3⟩)
  all_goals first | (go_ret; exact ⟨rfl, Bcall hL hb3⟩) | skip
  · have h0 : 0 ≤ s := by omega
    have h1 : s ≤ e := by omega
    have h2 : e ≤ 65536 := by omega
    have h3 : (t.size : Int) ≤ 65536 := by omega
    have h4 : 0 ≤ a := by omega
    have h5 : a ≤ b := by omega
    have h6 : b ≤ 65536 := by omega
    obtain ⟨r1, r2, r3, r4⟩ := at_rise (t := t) h0 h1 h2 (by omega) h4 h5 h6
    go_region_held3 (fun w' => w'.cell? ⟨w.heap.size, 0, none⟩ = some (.int .i64 s) ∧ w'.cell? ⟨w.heap.size, 1, none⟩ = some (.int .i64 e) ∧ w'.cell? ⟨w.heap.size, 2, none⟩ = some (.string t) ∧ w.heap.size < w'.heap.size ∧ Below w.heap.size w w')
      (first | exact ⟨hc0, hc1, hc2, hz, hL.drew⟩ | exact EdBelow (by assumption) hb)
      (first | (go_at_call 24; refine (at_any _ _ _ _ _ ht).mono ?_; rintro _ w' ⟨rfl, hb⟩))
    have E := EdBelow (by assumption) (Below.refl _ _)
    obtain ⟨e0, e1, e2, -, L⟩ := E
    have L' := Lib.hid L
    clear L
    go_wp2_with (go_at_call 16; refine (alive_any _).mono ?_; rintro _ w3 ⟨rfl, hb3⟩)
    go_ret
    exact ⟨rfl, Bcall L'.out hb3⟩
end Go.Proofs.Ytejllankcgcclaa
