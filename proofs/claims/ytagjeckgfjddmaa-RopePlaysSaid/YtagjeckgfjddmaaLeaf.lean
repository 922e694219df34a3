/- leaf and fork: what tree they make. -/
import Derived.Test.YtagjeckgfjddmaaNode
namespace Go.Proofs.Ytagjeckgfjddmaa
set_option linter.unusedSimpArgs false
set_option linter.unusedVariables false
open Go.RowKit

theorem of_whole (s : ByteArray) (w : World) (hs : s.size ≤ 140737488355328) :
    Calls Try.prog 36 #[.string s, .int .i64 s.size] w fun r w' => r = .returned (.tuple #[pl (cntN s.data.toList) (colN s.data.toList), .int .i64 0]) ∧ Below w.heap.size w w' := by
  have h := of_any s s.size w hs
  have e := of_last s.data.toList
  have hl : s.data.toList.length = s.size := by simp
  rw [hl] at e
  rwa [e.1, e.2.1, e.2.2] at h

theorem PlUp {b : Nat} {x y : Int} {w0 w w' : World} (h : w.cell? ⟨b, 0, none⟩ = some (.int .i64 x) ∧ w.cell? ⟨b, 1, none⟩ = some (.int .i64 y) ∧ b < w.heap.size ∧ Below w0.heap.size w0 w) (hb : Below w.heap.size w w') :
    w'.cell? ⟨b, 0, none⟩ = some (.int .i64 x) ∧ w'.cell? ⟨b, 1, none⟩ = some (.int .i64 y) ∧ b < w'.heap.size ∧ Below w0.heap.size w0 w' :=
  ⟨(hb.cell (p := ⟨b, 0, none⟩) h.2.2.1).trans h.1, (hb.cell (p := ⟨b, 1, none⟩) h.2.2.1).trans h.2.1, Nat.lt_of_lt_of_le h.2.2.1 hb.size, h.2.2.2.trans (hb.mono h.2.2.2.size)⟩

theorem NodeAt.new (w : World) (p q : Value) (s : ByteArray) (n h x y : Nat) : NodeAt w.heap.size p q s n h x y (w.alloc (.cells #[p, q, .string s, .int .i64 n, .int .i64 h, .int .i64 x, .int .i64 y] 83)) :=
  ⟨by simp, by simp, by simp, by simp, by simp, by simp, by simp, by simp⟩
theorem NodeAt.new' (w : World) (p q : Value) (s : ByteArray) (n h x y : Nat) (n' h' x' y' : Int) (e1 : n' = n) (e2 : h' = h) (e3 : x' = x) (e4 : y' = y) : NodeAt w.heap.size p q s n h x y (w.alloc (.cells #[p, q, .string s, .int .i64 n', .int .i64 h', .int .i64 x', .int .i64 y'] 83)) := by
  subst e1 e2 e3 e4; exact NodeAt.new ..
theorem heldBelow {P Q : Prop} {b : Nat} {w0 w : World} (h : P ∧ Q ∧ b < w.heap.size ∧ Below w0.heap.size w0 w) : Below w0.heap.size w0 w := h.2.2.2

set_option maxHeartbeats 1000000 in
theorem leaf_any (s : ByteArray) (w : World) (hs : s.size ≤ 1000000) :
    Calls Try.prog 67 #[.string s] w (Out (fun t => ∃ b, t = .leaf b s) w) := by
  go_enter Try.func67, Try.ntmps67
  go_wp2_with fail
  refine (of_whole _ _ (by omega)).mono ?_
  rintro _ w1 ⟨rfl, hb1⟩
  obtain ⟨x, hx⟩ : ∃ x, cntN s.data.toList = x := ⟨_, rfl⟩
  obtain ⟨y, hy⟩ : ∃ y, colN s.data.toList = y := ⟨_, rfl⟩
  rw [hx, hy]
  have hx' := Lib.hid hx
  have hy' := Lib.hid hy
  clear hx hy
  have P1 := PlAt.new w1 x y
  have h0 := P1.1
  have h1 := P1.2.1
  have hz := P1.2.2.2.2
  have hL := (Below.alloc hb1 hb1.size (.cells #[.int .i64 x, .int .i64 y] 34))
  go_wp2_with fail
  go_region_held3 (fun w' => w'.cell? ⟨w1.heap.size, 0, none⟩ = some (.int .i64 x) ∧ w'.cell? ⟨w1.heap.size, 1, none⟩ = some (.int .i64 y) ∧ w1.heap.size < w'.heap.size ∧ Below w.heap.size w w')
    (first | assumption | exact ⟨h0, h1, hz, hL.drew⟩ | exact PlUp (by assumption) hb | exact PlUp (by assumption) ((Below.refl _ _).alloc (Nat.le_refl _) _))
    (first | (go_at_call 61; refine (Ed.clone_any _ _ (by omega)).mono ?_; rintro _ w' ⟨rfl, hb⟩))
  go_wp2
  go_ret
  exact ⟨.leaf w'.heap.size s, rfl, by rw [Rep, hx'.out, hy'.out]; exact ⟨NodeAt.new _ _ _ _ _ _ _ _, Lives.new _ _⟩, ⟨_, rfl⟩, heldBelow (by assumption)⟩

theorem up_fork {v0 v1 v2 v3 v4 v5 v6 v7 : Value} {b0 b1 : Nat} {w0 w w' : World} (h : w.cell? ⟨b0, 3, none⟩ = some (v0) ∧ w.cell? ⟨b0, 4, none⟩ = some (v1) ∧ w.cell? ⟨b0, 5, none⟩ = some (v2) ∧ w.cell? ⟨b0, 6, none⟩ = some (v3) ∧ w.cell? ⟨b1, 3, none⟩ = some (v4) ∧ w.cell? ⟨b1, 4, none⟩ = some (v5) ∧ w.cell? ⟨b1, 5, none⟩ = some (v6) ∧ w.cell? ⟨b1, 6, none⟩ = some (v7) ∧ b0 < w.heap.size ∧ b1 < w.heap.size ∧ Below w0.heap.size w0 w) (hb : Below w.heap.size w w') : w'.cell? ⟨b0, 3, none⟩ = some (v0) ∧ w'.cell? ⟨b0, 4, none⟩ = some (v1) ∧ w'.cell? ⟨b0, 5, none⟩ = some (v2) ∧ w'.cell? ⟨b0, 6, none⟩ = some (v3) ∧ w'.cell? ⟨b1, 3, none⟩ = some (v4) ∧ w'.cell? ⟨b1, 4, none⟩ = some (v5) ∧ w'.cell? ⟨b1, 5, none⟩ = some (v6) ∧ w'.cell? ⟨b1, 6, none⟩ = some (v7) ∧ b0 < w'.heap.size ∧ b1 < w'.heap.size ∧ Below w0.heap.size w0 w' := by
  obtain ⟨h0, h1, h2, h3, h4, h5, h6, h7, z0, z1, L⟩ := h
  exact ⟨(hb.cell (p := ⟨b0, 3, none⟩) z0).trans h0, (hb.cell (p := ⟨b0, 4, none⟩) z0).trans h1, (hb.cell (p := ⟨b0, 5, none⟩) z0).trans h2, (hb.cell (p := ⟨b0, 6, none⟩) z0).trans h3, (hb.cell (p := ⟨b1, 3, none⟩) z1).trans h4, (hb.cell (p := ⟨b1, 4, none⟩) z1).trans h5, (hb.cell (p := ⟨b1, 5, none⟩) z1).trans h6, (hb.cell (p := ⟨b1, 6, none⟩) z1).trans h7, Nat.lt_of_lt_of_le z0 hb.size, Nat.lt_of_lt_of_le z1 hb.size, L.trans (hb.mono L.size)⟩
theorem up_fork_b {v0 v1 v2 v3 v4 v5 v6 v7 : Value} {b0 b1 : Nat} {w0 w : World} (h : w.cell? ⟨b0, 3, none⟩ = some (v0) ∧ w.cell? ⟨b0, 4, none⟩ = some (v1) ∧ w.cell? ⟨b0, 5, none⟩ = some (v2) ∧ w.cell? ⟨b0, 6, none⟩ = some (v3) ∧ w.cell? ⟨b1, 3, none⟩ = some (v4) ∧ w.cell? ⟨b1, 4, none⟩ = some (v5) ∧ w.cell? ⟨b1, 5, none⟩ = some (v6) ∧ w.cell? ⟨b1, 6, none⟩ = some (v7) ∧ b0 < w.heap.size ∧ b1 < w.heap.size ∧ Below w0.heap.size w0 w) : Below w0.heap.size w0 w := h.2.2.2.2.2.2.2.2.2.2

set_option maxHeartbeats 2000000 in
theorem fork_any (l r : T) (w : World) (hl : Rep w l) (hr : Rep w r) (hn : l.size + r.size ≤ 1000000) (h1 : l.hgt ≤ 1000000) (h2 : r.hgt ≤ 1000000) :
    Calls Try.prog 68 #[ptr l.blk, ptr r.blk] w (Out (fun t => ∃ b, t = .fork b l r) w) := by
  obtain ⟨pa, qa, sa, a0, a1, a2, a3, a4, a5, a6, az⟩ := hl.node
  obtain ⟨pb, qb, sb, b0, b1, b2, b3, b4, b5, b6, bz⟩ := hr.node
  have c1 : cntN l.bytes ≤ l.size := by rw [← T.len_eq]; exact cnt_le _
  have c2 : cntN r.bytes ≤ r.size := by rw [← T.len_eq]; exact cnt_le _
  have c3 : colN l.bytes ≤ l.size := by rw [← T.len_eq]; exact col_le _
  have c4 : colN r.bytes ≤ r.size := by rw [← T.len_eq]; exact col_le _
  have e1 := Lib.hid (cnt_app l.bytes r.bytes)
  have e2 := Lib.hid (col_app l.bytes r.bytes)
  have hl' := Lib.hid hl
  have hr' := Lib.hid hr
  clear hl hr
  obtain ⟨x, hx⟩ : ∃ x, cntN l.bytes = x := ⟨_, rfl⟩
  obtain ⟨y, hy⟩ : ∃ y, colN l.bytes = y := ⟨_, rfl⟩
  obtain ⟨u, hu⟩ : ∃ u, cntN r.bytes = u := ⟨_, rfl⟩
  obtain ⟨v, hv⟩ : ∃ v, colN r.bytes = v := ⟨_, rfl⟩
  obtain ⟨n, hn1⟩ : ∃ n, l.size = n := ⟨_, rfl⟩
  obtain ⟨m, hm1⟩ : ∃ m, r.size = m := ⟨_, rfl⟩
  obtain ⟨g, hg⟩ : ∃ g, l.hgt = g := ⟨_, rfl⟩
  obtain ⟨h, hh⟩ : ∃ h, r.hgt = h := ⟨_, rfl⟩
  obtain ⟨i, hi⟩ : ∃ i, l.blk = i := ⟨_, rfl⟩
  obtain ⟨j, hj⟩ : ∃ j, r.blk = j := ⟨_, rfl⟩
  rw [hx] at c1 a5 e1
  rw [hy] at c3 a6 e2
  rw [hu] at c2 b5 e1 e2
  rw [hv] at c4 b6 e2
  rw [hn1] at c1 c3 a3 hn
  rw [hm1] at c2 c4 b3 hn
  rw [hg] at a4 h1
  rw [hh] at b4 h2
  rw [hi] at a0 a1 a2 a3 a4 a5 a6 az
  rw [hj] at b0 b1 b2 b3 b4 b5 b6 bz
  have HN := Lib.hid (show l.size + r.size = n + m by rw [hn1, hm1])
  have HH := Lib.hid (show max l.hgt r.hgt + 1 = max g h + 1 by rw [hg, hh])
  rw [hi, hj]
  have I := Lib.hid hi
  have J := Lib.hid hj
  clear hx hy hu hv hn1 hm1 hg hh hi hj
  obtain ⟨q, hq⟩ : ∃ q, (if u = 0 then y + v else v) = q := ⟨_, rfl⟩
  have hon := Lib.hid (fun wz => onward_any x y u v wz (by omega) (by omega) (by omega) (by omega))
  rw [hq] at e2
  simp only [hq] at hon
  clear hq
  go_enter Try.func68, Try.ntmps68
  go_wp2_with fail
  have s1 := IntWalk.i64_in ((n : Int) + m) (by omega)
  have s2 := IntWalk.i64_in (max (g : Int) h + 1) (by omega)
  go_region_held3 (fun w' => w'.cell? ⟨i, 3, none⟩ = some (.int .i64 n) ∧ w'.cell? ⟨i, 4, none⟩ = some (.int .i64 g) ∧ w'.cell? ⟨i, 5, none⟩ = some (.int .i64 x) ∧ w'.cell? ⟨i, 6, none⟩ = some (.int .i64 y) ∧ w'.cell? ⟨j, 3, none⟩ = some (.int .i64 m) ∧ w'.cell? ⟨j, 4, none⟩ = some (.int .i64 h) ∧ w'.cell? ⟨j, 5, none⟩ = some (.int .i64 u) ∧ w'.cell? ⟨j, 6, none⟩ = some (.int .i64 v) ∧ i < w'.heap.size ∧ j < w'.heap.size ∧ Below w.heap.size w w')
    (first | assumption | exact ⟨a3, a4, a5, a6, b3, b4, b5, b6, az, bz, (Below.refl _ _).drew⟩ | exact up_fork (by assumption) hb | exact up_fork (by assumption) ((Below.refl _ _).alloc (Nat.le_refl _) _))
    (first | (go_at_call 50; refine (hon.out _).mono ?_; rintro _ w' ⟨rfl, hb⟩))
  all_goals
    clear s1 s2
    go_wp2
    go_ret
    have hL := up_fork_b (by assumption)
    refine ⟨.fork w'.heap.size l r, rfl, ⟨?_, hl'.out.below hL, hr'.out.below hL⟩, ⟨_, rfl⟩, hL⟩
    rw [HN.out, HH.out, e1.out, e2.out, I.out, J.out]
    exact NodeAt.new' _ _ _ _ _ _ _ _ _ _ _ _ (by omega) (by omega) (by omega) (by omega)
end Go.Proofs.Ytagjeckgfjddmaa
