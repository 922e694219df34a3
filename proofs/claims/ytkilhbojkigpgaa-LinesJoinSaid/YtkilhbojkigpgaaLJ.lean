/- LinesJoin: the walk. -/
import Derived.Test.YtkilhbojkigpgaaLR
namespace Go.Proofs.Ytkilhbojkigpgaa
set_option linter.unusedSimpArgs false
set_option linter.unusedVariables false
open Go.RowKit

theorem join_long (s t : ByteArray) (n : Int) (w : World) (h : 1048576 < s.size ∨ 1048576 < t.size) (hs : s.size ≤ 140737488355328) (ht : t.size ≤ 140737488355328) :
    Calls Try.prog 8 #[.string s, .string t, .int .i64 n] w fun r w' => r = .returned (.bool true) ∧ Below w.heap.size w w' := by
  by_cases h1 : 1048576 < s.size
  · go_enter Try.func8, Try.ntmps8
    go_wp2_with fail
    go_ret
    exact ⟨rfl, Below.refl _ _⟩
  · have h2 : 1048576 < t.size := by omega
    go_enter Try.func8, Try.ntmps8
    go_wp2_with fail
    go_ret
    exact ⟨rfl, Below.refl _ _⟩

theorem join_short (s t : ByteArray) (n : Int) (w : World) (hs : s.size ≤ 1048576) (ht : t.size ≤ 1048576) :
    Calls Try.prog 8 #[.string s, .string t, .int .i64 n] w fun r w' => r = .returned (.bool true) ∧ Below w.heap.size w w' := by
  have hl : s.data.toList.length = s.size := by simp
  have hl2 : t.data.toList.length = t.size := by simp
  obtain ⟨st, hst⟩ : ∃ st, s ++ t = st := ⟨_, rfl⟩
  have hstl : st.data.toList = s.data.toList ++ t.data.toList := by rw [← hst]; simp
  have hsz : st.size = s.size + t.size := by
    have : st.data.toList.length = (s.data.toList ++ t.data.toList).length := by rw [hstl]
    rw [List.length_append, hl, hl2] at this
    simpa using this
  obtain ⟨A, hA⟩ : ∃ x : Int, (cntN s.data.toList : Int) = x := ⟨_, rfl⟩
  obtain ⟨B, hB⟩ : ∃ x : Int, (cntN t.data.toList : Int) = x := ⟨_, rfl⟩
  obtain ⟨D, hD⟩ : ∃ x : Int, (colN s.data.toList : Int) = x := ⟨_, rfl⟩
  have cA := cnt_le s.data.toList
  have cB := cnt_le t.data.toList
  have cD := col_le s.data.toList
  have hAB : (cntN st.data.toList : Int) = A + B := by rw [hstl, cnt_app]; omega
  have q1 := Lib.hid (count_is' st _ (by omega) hAB)
  have q2 := Lib.hid (count_is' s _ (by omega) hA)
  have q3 := Lib.hid (count_is' t _ (by omega) hB)
  obtain ⟨h1, h2, h3⟩ := of_last s.data.toList
  rw [hl] at h1 h2 h3
  rw [hA] at h1
  rw [hD] at h2
  have q4 := Lib.hid (of_is s s.size _ _ 0 (by omega) h1 h2 h3)
  obtain ⟨x, hx⟩ : ∃ x, ofL t.data.toList n = x := ⟨_, rfl⟩
  obtain ⟨y, hy⟩ : ∃ y, ofC t.data.toList n = y := ⟨_, rfl⟩
  obtain ⟨b1, b2, b3, b4⟩ := of_bounds t.data.toList n
  have hst' := Lib.hid hst
  rcases of_E t.data.toList n with he | he
  · have hn : 0 ≤ n ∧ n ≤ t.size := by
      refine Classical.byContradiction fun hno => ?_
      rw [(of_out t.data.toList n (by rw [hl2]; exact hno)).2.2] at he; cases he
    obtain ⟨j1, j2, j3⟩ := of_join s.data.toList t.data.toList n he
    rw [← hstl, hl] at j1 j2 j3
    rw [hx, hA] at j2
    rw [hx, hy, hD] at j3
    have q5 := Lib.hid (of_is t n x y 0 (by omega) hx hy he)
    rw [hl] at cA cD
    rw [hl2] at cB b2 b4
    rw [hx] at b1 b2
    rw [hy] at b3 b4
    obtain ⟨n1, n2⟩ := hn
    have a1 : 0 ≤ A := by omega
    have a2 : A ≤ 1048576 := by omega
    have a3 : 0 ≤ B := by omega
    have a4 : B ≤ 1048576 := by omega
    have a5 : 0 ≤ D := by omega
    have a6 : D ≤ 1048576 := by omega
    by_cases hx0 : x = 0
    · rw [if_pos hx0] at j3
      rw [hx0, Int.add_zero] at j2
      have q6 := Lib.hid (of_is st (s.size + n) _ _ 0 (by omega) j2 j3 j1)
      clear hl hl2 hst hstl hsz hA hB hD cA cB cD hAB h1 h2 h3 hx hy he j1 j2 j3
      subst hx0
      go_enter Try.func8, Try.ntmps8
      go_wp2_with fail
      rw [hst'.out]
      refine (q1.out _).mono ?_
      rintro _ w1 ⟨rfl, hb1⟩
      go_wp2_with fail
      refine (q2.out _).mono ?_
      rintro _ w2 ⟨rfl, hb2⟩
      go_wp2_with fail
      refine (q3.out _).mono ?_
      rintro _ w3 ⟨rfl, hb3⟩
      have L3 := Lib.hid (below_call (below_call hb1 hb1.size hb2) (Nat.le_trans hb1.size hb2.size) hb3)
      have S3 := Lib.hid (Nat.le_trans (Nat.le_trans hb1.size hb2.size) hb3.size)
      go_wp2_with fail
      refine (q4.out _).mono ?_
      rintro _ w4 ⟨rfl, hb4⟩
      have L4 := Lib.hid (below_call L3.out S3.out hb4)
      have S4 := Lib.hid (Nat.le_trans S3.out hb4.size)
      have PA := Lib.hid (PlAt.new w4 A D)
      go_wp2_with fail
      refine (q5.out _).mono ?_
      rintro _ w5 ⟨rfl, hb5⟩
      have L5 := Lib.hid (alloc_call L4.out S4.out hb5)
      have S5 := Lib.hid (Nat.le_trans S4.out (alloc_size hb5))
      have PA5 := Lib.hid (PA.out.below hb5)
      have a0 := PA5.out.1; have a7 := PA5.out.2.1; have az := PA5.out.2.2.2.2
      go_wp2_with fail
      rw [hst'.out]
      refine (q6.out _).mono ?_
      rintro _ w6 ⟨rfl, hb6⟩
      have PW := Lib.hid ((PlAt.new (w5.alloc (.cells #[.int .i64 (0), .int .i64 (y)] 26)) (A) (D + y)).below hb6)
      have L6 := Lib.hid (alloc2_call L5.out S5.out hb6)
      have S6 := Lib.hid (Nat.le_trans S5.out (Nat.le_trans (by simp; omega) hb6.size))
      rw [World.size_alloc] at PW
      have c0 := PW.out.1; have c1 := PW.out.2.1; have cz := PW.out.2.2.2.2
      go_wp2_with fail
      refine (alive_any _).mono ?_
      rintro _ w9 ⟨rfl, hb9⟩
      go_wp2
      go_ret
      exact ⟨rfl, alloc_call L6.out S6.out hb9⟩
    · rw [if_neg hx0] at j3
      have q6 := Lib.hid (of_is st (s.size + n) _ _ 0 (by omega) j2 j3 j1)
      clear hl hl2 hst hstl hsz hA hB hD cA cB cD hAB h1 h2 h3 hx hy he j1 j2 j3
      go_enter Try.func8, Try.ntmps8
      go_wp2_with fail
      rw [hst'.out]
      refine (q1.out _).mono ?_
      rintro _ w1 ⟨rfl, hb1⟩
      go_wp2_with fail
      refine (q2.out _).mono ?_
      rintro _ w2 ⟨rfl, hb2⟩
      go_wp2_with fail
      refine (q3.out _).mono ?_
      rintro _ w3 ⟨rfl, hb3⟩
      have L3 := Lib.hid (below_call (below_call hb1 hb1.size hb2) (Nat.le_trans hb1.size hb2.size) hb3)
      have S3 := Lib.hid (Nat.le_trans (Nat.le_trans hb1.size hb2.size) hb3.size)
      go_wp2_with fail
      refine (q4.out _).mono ?_
      rintro _ w4 ⟨rfl, hb4⟩
      have L4 := Lib.hid (below_call L3.out S3.out hb4)
      have S4 := Lib.hid (Nat.le_trans S3.out hb4.size)
      have PA := Lib.hid (PlAt.new w4 A D)
      go_wp2_with fail
      refine (q5.out _).mono ?_
      rintro _ w5 ⟨rfl, hb5⟩
      have L5 := Lib.hid (alloc_call L4.out S4.out hb5)
      have S5 := Lib.hid (Nat.le_trans S4.out (alloc_size hb5))
      have PA5 := Lib.hid (PA.out.below hb5)
      have a0 := PA5.out.1; have a7 := PA5.out.2.1; have az := PA5.out.2.2.2.2
      go_wp2_with fail
      rw [hst'.out]
      refine (q6.out _).mono ?_
      rintro _ w6 ⟨rfl, hb6⟩
      have PW := Lib.hid ((PlAt.new (w5.alloc (.cells #[.int .i64 (x), .int .i64 (y)] 26)) (A + x) (y)).below hb6)
      have L6 := Lib.hid (alloc2_call L5.out S5.out hb6)
      have S6 := Lib.hid (Nat.le_trans S5.out (Nat.le_trans (by simp; omega) hb6.size))
      rw [World.size_alloc] at PW
      have c0 := PW.out.1; have c1 := PW.out.2.1; have cz := PW.out.2.2.2.2
      go_wp2_with fail
      refine (alive_any _).mono ?_
      rintro _ w9 ⟨rfl, hb9⟩
      go_wp2
      go_ret
      exact ⟨rfl, alloc_call L6.out S6.out hb9⟩
  · have q5 := Lib.hid (of_is t n x y 4 (by omega) hx hy he)
    rw [hl] at cA cD
    rw [hl2] at cB
    have a1 : 0 ≤ A := by omega
    have a2 : A ≤ 1048576 := by omega
    have a3 : 0 ≤ B := by omega
    have a4 : B ≤ 1048576 := by omega
    clear hl hl2 hst hstl hsz hA hB hD cA cB cD hAB h1 h2 h3 hx hy he b1 b2 b3 b4
    go_enter Try.func8, Try.ntmps8
    go_wp2_with fail
    rw [hst'.out]
    refine (q1.out _).mono ?_
    rintro _ w1 ⟨rfl, hb1⟩
    go_wp2_with fail
    refine (q2.out _).mono ?_
    rintro _ w2 ⟨rfl, hb2⟩
    go_wp2_with fail
    refine (q3.out _).mono ?_
    rintro _ w3 ⟨rfl, hb3⟩
    have L3 := Lib.hid (below_call (below_call hb1 hb1.size hb2) (Nat.le_trans hb1.size hb2.size) hb3)
    have S3 := Lib.hid (Nat.le_trans (Nat.le_trans hb1.size hb2.size) hb3.size)
    go_wp2_with fail
    refine (q4.out _).mono ?_
    rintro _ w4 ⟨rfl, hb4⟩
    have L4 := Lib.hid (below_call L3.out S3.out hb4)
    have S4 := Lib.hid (Nat.le_trans S3.out hb4.size)
    have PA := Lib.hid (PlAt.new w4 A D)
    go_wp2_with fail
    refine (q5.out _).mono ?_
    rintro _ w5 ⟨rfl, hb5⟩
    have L5 := Lib.hid (alloc_call L4.out S4.out hb5)
    have S5 := Lib.hid (Nat.le_trans S4.out (alloc_size hb5))
    have PA5 := Lib.hid (PA.out.below hb5)
    have a0 := PA5.out.1; have a7 := PA5.out.2.1; have az := PA5.out.2.2.2.2
    go_wp2_with fail
    refine (alive_any _).mono ?_
    rintro _ w9 ⟨rfl, hb9⟩
    go_wp2
    go_ret
    exact ⟨rfl, alloc_call L5.out S5.out hb9⟩

theorem join_walk (s t : ByteArray) (n : Int) (w : World) (hs : s.size ≤ 140737488355328) (ht : t.size ≤ 140737488355328) :
    Calls Try.prog 8 #[.string s, .string t, .int .i64 n] w fun r w' => r = .returned (.bool true) ∧ Below w.heap.size w w' := by
  by_cases h : 1048576 < s.size ∨ 1048576 < t.size
  · exact join_long s t n w h hs ht
  · exact join_short s t n w (by omega) (by omega)
end Go.Proofs.Ytkilhbojkigpgaa
