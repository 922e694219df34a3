/- LinesRise: the walk. -/
import Derived.Test.YtkilhbojkigpgaaLB
import Derived.Deep.RegionHeld3
import Derived.Deep.QuietTactic
import Derived.BigQuiet
namespace Go.Proofs.Ytkilhbojkigpgaa
set_option linter.unusedSimpArgs false
set_option linter.unusedVariables false
open Go.RowKit

/-- What is carried through the statement whose order is open: the last place's line, and behind a name all else. -/
def HeldR (b1 : Nat) (x1 y1 : Int) (b2 : Nat) (x2 y2 : Int) (b3 : Nat) (x3 y3 : Int) (w0 w : World) : Prop :=
  PlAt b1 x1 y1 w ∧ PlAt b2 x2 y2 w ∧ PlAt b3 x3 y3 w ∧ Below w0.heap.size w0 w ∧ w0.heap.size ≤ w.heap.size
theorem HeldR.below {b1 b2 b3 : Nat} {x1 y1 x2 y2 x3 y3 : Int} {w0 w w' : World} (h : HeldR b1 x1 y1 b2 x2 y2 b3 x3 y3 w0 w) (hb : Below w.heap.size w w') : HeldR b1 x1 y1 b2 x2 y2 b3 x3 y3 w0 w' :=
  ⟨h.1.below hb, h.2.1.below hb, h.2.2.1.below hb, below_call h.2.2.2.1 h.2.2.2.2 hb, Nat.le_trans h.2.2.2.2 hb.size⟩
theorem HeldR.drew {b1 b2 b3 : Nat} {x1 y1 x2 y2 x3 y3 : Int} {w0 w : World} (h : HeldR b1 x1 y1 b2 x2 y2 b3 x3 y3 w0 w) : HeldR b1 x1 y1 b2 x2 y2 b3 x3 y3 w0 w.drew :=
  h.below (Below.refl _ _).drew
theorem heldR_keep {b1 b2 b3 : Nat} {x1 y1 x2 y2 x3 y3 : Int} {w0 w w' : World} (h : w.cell? ⟨b3, 0, none⟩ = some (.int .i64 x3) ∧ HeldR b1 x1 y1 b2 x2 y2 b3 x3 y3 w0 w) (hb : Below w.heap.size w w') :
    w'.cell? ⟨b3, 0, none⟩ = some (.int .i64 x3) ∧ HeldR b1 x1 y1 b2 x2 y2 b3 x3 y3 w0 w' := ⟨(h.2.below hb).2.2.1.1, h.2.below hb⟩

theorem count_is' (s : ByteArray) (z : Int) (hs : s.size ≤ 140737488355328) (h : (cntN s.data.toList : Int) = z) (w : World) :
    Calls Try.prog 11 #[.string s] w fun r w' => r = .returned (.int .i64 (z + 1)) ∧ Below w.heap.size w w' := by
  rw [← h]; exact count_lines s hs w

theorem rise_walk (s : ByteArray) (a b : Int) (w : World) (hs : s.size ≤ 140737488355328) :
    Calls Try.prog 7 #[.string s, .int .i64 a, .int .i64 b] w fun r w' => r = .returned (.bool true) ∧ Below w.heap.size w w' := by
  have hl : s.data.toList.length = s.size := by simp
  obtain ⟨x1, hx1⟩ : ∃ x, ofL s.data.toList a = x := ⟨_, rfl⟩
  obtain ⟨y1, hy1⟩ : ∃ y, ofC s.data.toList a = y := ⟨_, rfl⟩
  obtain ⟨e1, he1⟩ : ∃ y, ofE s.data.toList a = y := ⟨_, rfl⟩
  obtain ⟨x2, hx2⟩ : ∃ x, ofL s.data.toList b = x := ⟨_, rfl⟩
  obtain ⟨y2, hy2⟩ : ∃ y, ofC s.data.toList b = y := ⟨_, rfl⟩
  obtain ⟨e2, he2⟩ : ∃ y, ofE s.data.toList b = y := ⟨_, rfl⟩
  obtain ⟨h1, h2, h3⟩ := of_last s.data.toList
  rw [hl] at h1 h2 h3
  have hcl := cnt_le s.data.toList
  rw [hl] at hcl
  obtain ⟨x3, hx3⟩ : ∃ x : Int, (cntN s.data.toList : Int) = x := ⟨_, rfl⟩
  obtain ⟨y3, hy3⟩ : ∃ y : Int, (colN s.data.toList : Int) = y := ⟨_, rfl⟩
  rw [hx3] at h1
  rw [hy3] at h2
  have q1 := Lib.hid (of_is s a x1 y1 e1 hs hx1 hy1 he1)
  have q2 := Lib.hid (of_is s b x2 y2 e2 hs hx2 hy2 he2)
  have q3 := Lib.hid (of_is s s.size x3 y3 0 hs h1 h2 h3)
  have q4 := Lib.hid (count_is' s x3 hs hx3)
  have n1 : 0 ≤ x3 := by omega
  have n2 : x3 ≤ 140737488355328 := by omega
  have k1 := of_E s.data.toList a
  have k2 := of_E s.data.toList b
  rw [he1] at k1
  rw [he2] at k2
  have k3 : e1 = 0 → e2 = 0 → a < b → x1 < x2 ∨ (x1 = x2 ∧ y1 < y2) := by
    rw [← he1, ← he2, ← hx1, ← hx2, ← hy1, ← hy2]; exact of_rise s.data.toList a b
  have k1' := Lib.hid k1; have k2' := Lib.hid k2; have k3' := Lib.hid k3
  have q5 := Lib.hid (IntWalk.i64_in x3 (by omega))
  clear k1 k2 k3 hl hx1 hy1 he1 hx2 hy2 he2 h1 h2 h3 hcl hx3 hy3
  go_enter Try.func7, Try.ntmps7
  go_wp2_with fail
  refine (q1.out _).mono ?_
  rintro _ w1 ⟨rfl, hb1⟩
  have PA := Lib.hid (PlAt.new w1 x1 y1)
  go_wp2_with fail
  refine (q2.out _).mono ?_
  rintro _ w2 ⟨rfl, hb2⟩
  have L2 := Lib.hid (alloc_call hb1 hb1.size hb2); have S2 := Lib.hid (Nat.le_trans hb1.size (alloc_size hb2))
  have PA2 := Lib.hid (PA.out.below hb2)
  have PB2 := Lib.hid (PlAt.new w2 x2 y2)
  go_wp2_with fail
  refine (q3.out _).mono ?_
  rintro _ w3 ⟨rfl, hb3⟩
  have L3 := Lib.hid (alloc_call L2.out S2.out hb3); have S3 := Lib.hid (Nat.le_trans S2.out (alloc_size hb3))
  have PA3 := Lib.hid ((PA2.out.alloc (.cells #[.int .i64 x2, .int .i64 y2] 26)).below hb3)
  have PB3 := Lib.hid (PB2.out.below hb3)
  have H0 : Hid (HeldR w1.heap.size x1 y1 w2.heap.size x2 y2 w3.heap.size x3 y3 w (w3.alloc (.cells #[.int .i64 x3, .int .i64 y3] 26))) :=
    ⟨PA3.out.alloc _, PB3.out.alloc _, PlAt.new w3 x3 y3, L3.out.alloc S3.out _, by have := S3.out; simp; omega⟩
  have c0 := H0.out.2.2.1.1
  clear hb1 hb2 hb3 PA PA2 PB2 L2 S2 L3 S3 PA3 PB3
  go_wp2_with fail
  go_region_held3 (fun w' => w'.cell? ⟨w3.heap.size, 0, none⟩ = some (.int .i64 x3) ∧ HeldR w1.heap.size x1 y1 w2.heap.size x2 y2 w3.heap.size x3 y3 w w')
    (first | assumption | exact ⟨(H0.out.drew).2.2.1.1, H0.out.drew⟩ | exact heldR_keep (by assumption) hb)
    ((go_at_call 11; refine (q4.out _).mono ?_; rintro _ w' ⟨rfl, hb⟩))
  rename_i hH
  have H1 := Lib.hid hH.2
  clear hH H0 c0
  have q6 := q5.out
  have a0 := H1.out.1.1; have a1 := H1.out.1.2.1; have az := H1.out.1.2.2.2.2
  have b0 := H1.out.2.1.1; have b1 := H1.out.2.1.2.1; have bz := H1.out.2.1.2.2.2.2
  rcases k1'.out with rfl | rfl
  · rcases k2'.out with rfl | rfl
    · by_cases hab : a < b
      · rcases k3'.out rfl rfl hab with k | ⟨k, k4⟩
        · have k5 : ¬ x1 = x2 := by omega
          go_wp2_with fail
          refine (alive_any _).mono ?_
          rintro _ w9 ⟨rfl, hb9⟩
          go_wp2
          go_ret
          exact ⟨rfl, below_call H1.out.2.2.2.1 H1.out.2.2.2.2 hb9⟩
        · subst k
          go_wp2_with fail
          refine (alive_any _).mono ?_
          rintro _ w9 ⟨rfl, hb9⟩
          go_wp2
          go_ret
          exact ⟨rfl, below_call H1.out.2.2.2.1 H1.out.2.2.2.2 hb9⟩
      · go_wp2_with fail
        refine (alive_any _).mono ?_
        rintro _ w9 ⟨rfl, hb9⟩
        go_wp2
        go_ret
        exact ⟨rfl, below_call H1.out.2.2.2.1 H1.out.2.2.2.2 hb9⟩
    · go_wp2_with fail
      refine (alive_any _).mono ?_
      rintro _ w9 ⟨rfl, hb9⟩
      go_wp2
      go_ret
      exact ⟨rfl, below_call H1.out.2.2.2.1 H1.out.2.2.2.2 hb9⟩
  · go_wp2_with fail
    refine (alive_any _).mono ?_
    rintro _ w9 ⟨rfl, hb9⟩
    go_wp2
    go_ret
    exact ⟨rfl, below_call H1.out.2.2.2.1 H1.out.2.2.2.2 hb9⟩
end Go.Proofs.Ytkilhbojkigpgaa
