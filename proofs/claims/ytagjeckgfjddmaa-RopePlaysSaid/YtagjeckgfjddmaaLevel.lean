/- level: a balanced tree of two whose heights differ by two at most. -/
import Derived.Test.YtagjeckgfjddmaaLeaf
import Derived.Test.YtagjeckgfjddmaaLRef
namespace Go.Proofs.Ytagjeckgfjddmaa
set_option linter.unusedSimpArgs false
set_option linter.unusedVariables false
open Go.RowKit

/-- These trees lie there, and what was there is as it was. -/
def Kp (L : List T) (w0 w : World) : Prop := (∀ t ∈ L, Rep w t) ∧ Below w0.heap.size w0 w
theorem Kp.up {L : List T} {w0 w w' : World} (h : Kp L w0 w) (hb : Below w.heap.size w w') : Kp L w0 w' := ⟨fun t ht => (h.1 t ht).below hb, h.2.trans (hb.mono h.2.size)⟩
theorem Kp.rep {L : List T} {w0 w : World} {t : T} (h : Kp L w0 w) (ht : t ∈ L) : Rep w t := h.1 t ht
theorem Kp.start {L : List T} {w : World} (h : ∀ t ∈ L, Rep w t) : Kp L w w := ⟨h, Below.refl _ _⟩
theorem Kp.drew {L : List T} {w0 w : World} (h : Kp L w0 w) : Kp L w0 w.drew := h.up (Below.refl _ _).drew
theorem Kp.drewN {L : List T} {w0 w : World} (h : Kp L w0 w) (n : Nat) : Kp L w0 (w.drewN n) := h.up (below_drewN (Below.refl _ _) n)
def IsFork (l r t : T) : Prop := ∃ b, t = .fork b l r
theorem IsFork.size {l r t : T} (h : IsFork l r t) : t.size = l.size + r.size := by obtain ⟨b, rfl⟩ := h; rfl
theorem IsFork.hgt {l r t : T} (h : IsFork l r t) : t.hgt = max l.hgt r.hgt + 1 := by obtain ⟨b, rfl⟩ := h; rfl
theorem IsFork.leaves {l r t : T} (h : IsFork l r t) : t.leaves = l.leaves ++ r.leaves := by obtain ⟨b, rfl⟩ := h; rfl
theorem IsFork.bal {l r t : T} (h : IsFork l r t) (h1 : l.bal) (h2 : r.bal) (h3 : l.hgt ≤ r.hgt + 1) (h4 : r.hgt ≤ l.hgt + 1) : t.bal := by obtain ⟨b, rfl⟩ := h; exact ⟨h1, h2, h3, h4⟩
theorem fork_is (l r : T) (w : World) (hl : Rep w l) (hr : Rep w r) (hn : l.size + r.size ≤ 1000000) (h1 : l.hgt ≤ 1000000) (h2 : r.hgt ≤ 1000000) :
    Calls Try.prog 68 #[ptr l.blk, ptr r.blk] w (Out (IsFork l r) w) := fork_any l r w hl hr hn h1 h2

/-- What level makes of two. -/
def Level (a b t : T) : Prop := t.leaves = a.leaves ++ b.leaves ∧ t.bal ∧ (t.hgt = max a.hgt b.hgt ∨ t.hgt = max a.hgt b.hgt + 1) ∧ (a.hgt ≤ b.hgt + 1 → b.hgt ≤ a.hgt + 1 → t.hgt = max a.hgt b.hgt + 1)

theorem lvq1 {ab : Nat} {al ar b t1 t : T} (ha : (T.fork ab al ar).bal) (hb : b.bal) (h1 : b.hgt + 1 < max al.hgt ar.hgt + 1) (h3 : max al.hgt ar.hgt + 1 ≤ b.hgt + 2) (h2 : ar.hgt ≤ al.hgt) (q : IsFork al t1 t) (q1 : IsFork ar b t1) : Level (.fork ab al ar) b t := by
  obtain ⟨b1, b2, b3, b4⟩ := ha
  have e1 := q1.hgt
  have e := q.hgt
  refine ⟨by rw [q.leaves, q1.leaves]; simp [T.leaves], q.bal b1 (q1.bal b2 hb (by omega) (by omega)) (by omega) (by omega), ?_, ?_⟩ <;> simp only [T.hgt] <;> omega
theorem lvq3 {bb : Nat} {bl br a t1 t : T} (ha : a.bal) (hb : (T.fork bb bl br).bal) (h1 : a.hgt + 1 < max bl.hgt br.hgt + 1) (h3 : max bl.hgt br.hgt + 1 ≤ a.hgt + 2) (h2 : bl.hgt ≤ br.hgt) (q : IsFork t1 br t) (q1 : IsFork a bl t1) : Level a (.fork bb bl br) t := by
  obtain ⟨b1, b2, b3, b4⟩ := hb
  have e1 := q1.hgt
  have e := q.hgt
  refine ⟨by rw [q.leaves, q1.leaves]; simp [T.leaves], q.bal (q1.bal ha b1 (by omega) (by omega)) b2 (by omega) (by omega), ?_, ?_⟩ <;> simp only [T.hgt] <;> omega
theorem lvq2 {ab rb : Nat} {al rl rr b t1 t2 t : T} (ha : (T.fork ab al (.fork rb rl rr)).bal) (hb : b.bal) (h1 : b.hgt + 1 < max al.hgt (max rl.hgt rr.hgt + 1) + 1) (h3 : max al.hgt (max rl.hgt rr.hgt + 1) + 1 ≤ b.hgt + 2) (h2 : al.hgt < max rl.hgt rr.hgt + 1) (q : IsFork t1 t2 t) (q1 : IsFork al rl t1) (q2 : IsFork rr b t2) : Level (.fork ab al (.fork rb rl rr)) b t := by
  obtain ⟨b1, ⟨c1, c2, c3, c4⟩, b3, b4⟩ := ha
  simp only [T.hgt] at b3 b4
  have e1 := q1.hgt
  have e2 := q2.hgt
  have e := q.hgt
  refine ⟨by rw [q.leaves, q1.leaves, q2.leaves]; simp [T.leaves], q.bal (q1.bal b1 c1 (by omega) (by omega)) (q2.bal c2 hb (by omega) (by omega)) (by omega) (by omega), ?_, ?_⟩ <;> simp only [T.hgt] <;> omega
theorem lvq4 {bb lb : Nat} {ll lr br a t1 t2 t : T} (ha : a.bal) (hb : (T.fork bb (.fork lb ll lr) br).bal) (h1 : a.hgt + 1 < max (max ll.hgt lr.hgt + 1) br.hgt + 1) (h3 : max (max ll.hgt lr.hgt + 1) br.hgt + 1 ≤ a.hgt + 2) (h2 : br.hgt < max ll.hgt lr.hgt + 1) (q : IsFork t1 t2 t) (q1 : IsFork a ll t1) (q2 : IsFork lr br t2) : Level a (.fork bb (.fork lb ll lr) br) t := by
  obtain ⟨⟨c1, c2, c3, c4⟩, b2, b3, b4⟩ := hb
  simp only [T.hgt] at b3 b4
  have e1 := q1.hgt
  have e2 := q2.hgt
  have e := q.hgt
  refine ⟨by rw [q.leaves, q1.leaves, q2.leaves]; simp [T.leaves], q.bal (q1.bal ha c1 (by omega) (by omega)) (q2.bal c2 b2 (by omega) (by omega)) (by omega) (by omega), ?_, ?_⟩ <;> simp only [T.hgt] <;> omega
theorem lvq5 {a b t : T} (ha : a.bal) (hb : b.bal) (h1 : a.hgt ≤ b.hgt + 1) (h2 : b.hgt ≤ a.hgt + 1) (q : IsFork a b t) : Level a b t := by
  have e := q.hgt
  exact ⟨q.leaves, q.bal ha hb (by omega) (by omega), by omega, by omega⟩

theorem up_level1 {v0 v1 : Value} {b0 : Nat} {L : List T} {w0 w w' : World} (h : w.cell? ⟨b0, 0, none⟩ = some (v0) ∧ w.cell? ⟨b0, 1, none⟩ = some (v1) ∧ b0 < w.heap.size ∧ Kp L w0 w) (hb : Below w.heap.size w w') : w'.cell? ⟨b0, 0, none⟩ = some (v0) ∧ w'.cell? ⟨b0, 1, none⟩ = some (v1) ∧ b0 < w'.heap.size ∧ Kp L w0 w' := by
  obtain ⟨h0, h1, z0, K⟩ := h
  exact ⟨(hb.cell (p := ⟨b0, 0, none⟩) z0).trans h0, (hb.cell (p := ⟨b0, 1, none⟩) z0).trans h1, Nat.lt_of_lt_of_le z0 hb.size, K.up hb⟩
theorem up_level1_k {v0 v1 : Value} {b0 : Nat} {L : List T} {w0 w : World} (h : w.cell? ⟨b0, 0, none⟩ = some (v0) ∧ w.cell? ⟨b0, 1, none⟩ = some (v1) ∧ b0 < w.heap.size ∧ Kp L w0 w) : Kp L w0 w := h.2.2.2

set_option maxHeartbeats 4000000 in
set_option maxRecDepth 100000 in
theorem level1 (ab : Nat) (al ar b : T) (w : World) (ha : Rep w (.fork ab al ar)) (hb : Rep w b) (ba : (T.fork ab al ar).bal) (bb : b.bal) (hn : al.size + ar.size + b.size ≤ 1000000) (hh : max al.hgt ar.hgt + 1 ≤ 500000) (h1 : b.hgt + 1 < max al.hgt ar.hgt + 1) (h3 : max al.hgt ar.hgt + 1 ≤ b.hgt + 2) (h2 : ar.hgt ≤ al.hgt) :
    Calls Try.prog 83 #[ptr ab, ptr b.blk] w (Out (Level (.fork ab al ar) b) w) := by
  have HQ := Lib.hid (fun (t1 t : T) (q : IsFork al t1 t) (q1 : IsFork ar b t1) => lvq1 ba bb h1 h3 h2 q q1)
  obtain ⟨⟨a0, a1, a2, a3, a4, a5, a6, az⟩, hal, har⟩ := ha
  obtain ⟨pb, qb, sb, b0, b1, b2, b3, b4, b5, b6, bz⟩ := hb.node
  obtain ⟨pl, ql, sl, l0, l1, l2, l3, l4, l5, l6, lz⟩ := hal.node
  obtain ⟨pr, qr, sr, r0, r1, r2, r3, r4, r5, r6, rz⟩ := har.node
  have hK := Lib.hid (Kp.start (w := w) (L := [al, ar, b]) (by intro t ht; simp at ht; rcases ht with rfl | rfl | rfl <;> assumption))
  clear hb hal har ba bb
  clear a2 a3 a5 a6
  clear b0 b1 b2 b3 b5 b6
  clear l0 l1 l2 l3 l5 l6
  clear r0 r1 r2 r3 r5 r6
  have g1 : al.hgt ≤ 500000 := by omega
  have g2 : ar.hgt ≤ 500000 := by omega
  have g3 : b.hgt ≤ 500000 := by omega
  obtain ⟨A, hA⟩ : ∃ A, max al.hgt ar.hgt + 1 = A := ⟨_, rfl⟩
  rw [hA] at a4 hh h1
  have s1 := IntWalk.i64_in ((b.hgt : Int) + 1) (by omega)
  have s2 : True := trivial
  have d1 : decide ((b.hgt : Int) + 1 < (A : Int)) = true := by simp; omega
  clear hA h3
  go_enter Try.func83, Try.ntmps83
  go_wp2_with fail
  go_quiet (fail)
  clear s1 s2 d1
  go_wp2_with fail
  go_region_held3 (fun w' => w'.cell? ⟨ab, 0, none⟩ = some (ptr al.blk) ∧ w'.cell? ⟨ab, 1, none⟩ = some (ptr ar.blk) ∧ ab < w'.heap.size ∧ Kp [al, ar, b] w w')
    (first | assumption | exact ⟨a0, a1, az, (hK.out.drewN _).drew⟩ | exact up_level1 (by assumption) hb | exact up_level1 (by assumption) ((Below.refl _ _).alloc (Nat.le_refl _) _))
    (first | (go_at_call 68; refine (fork_is _ _ _ (by first | assumption | exact Rep.below (by assumption) (by assumption) | exact Kp.rep (up_level1_k (by assumption)) (by simp)) (by first | assumption | exact Rep.below (by assumption) (by assumption) | exact Kp.rep (up_level1_k (by assumption)) (by simp)) (by first | omega | (have q := IsFork.size (by assumption); omega)) (by first | omega | (have q := IsFork.hgt (by assumption); omega)) (by first | omega | (have q := IsFork.hgt (by assumption); omega))).mono ?_; rintro _ w' ⟨t', rfl, hR, hQ, hb⟩))
  all_goals
    go_wp2
    go_ret
    exact ⟨_, rfl, hR, (by exact HQ.out _ _ hQ (by assumption)), (up_level1_k (by assumption)).2⟩

theorem up_level2 {v0 v1 v2 v3 : Value} {b0 b1 : Nat} {L : List T} {w0 w w' : World} (h : w.cell? ⟨b0, 0, none⟩ = some (v0) ∧ w.cell? ⟨b0, 1, none⟩ = some (v1) ∧ w.cell? ⟨b1, 0, none⟩ = some (v2) ∧ w.cell? ⟨b1, 1, none⟩ = some (v3) ∧ b0 < w.heap.size ∧ b1 < w.heap.size ∧ Kp L w0 w) (hb : Below w.heap.size w w') : w'.cell? ⟨b0, 0, none⟩ = some (v0) ∧ w'.cell? ⟨b0, 1, none⟩ = some (v1) ∧ w'.cell? ⟨b1, 0, none⟩ = some (v2) ∧ w'.cell? ⟨b1, 1, none⟩ = some (v3) ∧ b0 < w'.heap.size ∧ b1 < w'.heap.size ∧ Kp L w0 w' := by
  obtain ⟨h0, h1, h2, h3, z0, z1, K⟩ := h
  exact ⟨(hb.cell (p := ⟨b0, 0, none⟩) z0).trans h0, (hb.cell (p := ⟨b0, 1, none⟩) z0).trans h1, (hb.cell (p := ⟨b1, 0, none⟩) z1).trans h2, (hb.cell (p := ⟨b1, 1, none⟩) z1).trans h3, Nat.lt_of_lt_of_le z0 hb.size, Nat.lt_of_lt_of_le z1 hb.size, K.up hb⟩
theorem up_level2_k {v0 v1 v2 v3 : Value} {b0 b1 : Nat} {L : List T} {w0 w : World} (h : w.cell? ⟨b0, 0, none⟩ = some (v0) ∧ w.cell? ⟨b0, 1, none⟩ = some (v1) ∧ w.cell? ⟨b1, 0, none⟩ = some (v2) ∧ w.cell? ⟨b1, 1, none⟩ = some (v3) ∧ b0 < w.heap.size ∧ b1 < w.heap.size ∧ Kp L w0 w) : Kp L w0 w := h.2.2.2.2.2.2

set_option maxHeartbeats 4000000 in
set_option maxRecDepth 100000 in
theorem level2 (ab rb : Nat) (al rl rr b : T) (w : World) (ha : Rep w (.fork ab al (.fork rb rl rr))) (hb : Rep w b) (ba : (T.fork ab al (.fork rb rl rr)).bal) (bb : b.bal) (hn : al.size + (rl.size + rr.size) + b.size ≤ 1000000) (hh : max al.hgt (max rl.hgt rr.hgt + 1) + 1 ≤ 500000) (h1 : b.hgt + 1 < max al.hgt (max rl.hgt rr.hgt + 1) + 1) (h3 : max al.hgt (max rl.hgt rr.hgt + 1) + 1 ≤ b.hgt + 2) (h2 : al.hgt < max rl.hgt rr.hgt + 1) :
    Calls Try.prog 83 #[ptr ab, ptr b.blk] w (Out (Level (.fork ab al (.fork rb rl rr)) b) w) := by
  have HQ := Lib.hid (fun (t1 t2 t : T) (q : IsFork t1 t2 t) (q1 : IsFork al rl t1) (q2 : IsFork rr b t2) => lvq2 ba bb h1 h3 h2 q q1 q2)
  have HZ := Lib.hid (fun (t1 t2 : T) (q1 : IsFork al rl t1) (q2 : IsFork rr b t2) => (show t1.size + t2.size ≤ 1000000 by have e1 := q1.size; have e2 := q2.size; omega))
  have HY := Lib.hid (fun (t1 t2 : T) (q1 : IsFork al rl t1) (q2 : IsFork rr b t2) => (show t1.hgt ≤ 1000000 ∧ t2.hgt ≤ 1000000 by have e1 := q1.hgt; have e2 := q2.hgt; omega))
  obtain ⟨⟨a0, a1, a2, a3, a4, a5, a6, az⟩, hal, ⟨r0, r1, r2, r3, r4, r5, r6, rz⟩, hrl, hrr⟩ := ha
  obtain ⟨pb, qb, sb, b0, b1, b2, b3, b4, b5, b6, bz⟩ := hb.node
  obtain ⟨pl, ql, sl, l0, l1, l2, l3, l4, l5, l6, lz⟩ := hal.node
  have hK := Lib.hid (Kp.start (w := w) (L := [al, rl, rr, b]) (by intro t ht; simp at ht; rcases ht with rfl | rfl | rfl | rfl <;> assumption))
  clear hb hal hrl hrr ba bb
  clear a2 a3 a5 a6
  clear b0 b1 b2 b3 b5 b6
  clear l0 l1 l2 l3 l5 l6
  clear r2 r3 r5 r6
  have g1 : al.hgt ≤ 500000 := by omega
  have g2 : rl.hgt ≤ 500000 := by omega
  have g4 : rr.hgt ≤ 500000 := by omega
  have g3 : b.hgt ≤ 500000 := by omega
  simp only [T.hgt, T.blk] at a1 a4
  obtain ⟨R, hR⟩ : ∃ R, max rl.hgt rr.hgt + 1 = R := ⟨_, rfl⟩
  rw [hR] at a4 r4 hh h1 h2 h3
  obtain ⟨A, hA⟩ : ∃ A, max al.hgt R + 1 = A := ⟨_, rfl⟩
  rw [hA] at a4 hh h1 h3
  have s1 := IntWalk.i64_in ((b.hgt : Int) + 1) (by omega)
  have s2 : True := trivial
  have d1 : decide ((b.hgt : Int) + 1 < (A : Int)) = true := by simp; omega
  have d2 : decide ((R : Int) ≤ (al.hgt : Int)) = false := by simp; omega
  clear hA hR
  go_enter Try.func83, Try.ntmps83
  go_wp2_with fail
  go_quiet (fail)
  go_wp2_with fail
  go_quiet (fail)
  clear s1 s2 d1 d2
  go_wp2_with fail
  simp only [World.drewN_drewN]
  go_region_held3 (fun w' => w'.cell? ⟨ab, 0, none⟩ = some (ptr al.blk) ∧ w'.cell? ⟨ab, 1, none⟩ = some (ptr rb) ∧ w'.cell? ⟨rb, 0, none⟩ = some (ptr rl.blk) ∧ w'.cell? ⟨rb, 1, none⟩ = some (ptr rr.blk) ∧ ab < w'.heap.size ∧ rb < w'.heap.size ∧ Kp [al, rl, rr, b] w w')
    (first | assumption | exact ⟨a0, a1, r0, r1, az, rz, (hK.out.drewN _).drew⟩ | exact up_level2 (by assumption) hb | exact up_level2 (by assumption) ((Below.refl _ _).alloc (Nat.le_refl _) _))
    (first | (go_at_call 68; refine (fork_is _ _ _ (by first | assumption | exact Rep.below (by assumption) (by assumption) | exact Kp.rep (up_level2_k (by assumption)) (by simp)) (by first | assumption | exact Rep.below (by assumption) (by assumption) | exact Kp.rep (up_level2_k (by assumption)) (by simp)) (by first | omega | exact HZ.out _ _ (by assumption) (by assumption)) (by first | omega | exact (HY.out _ _ (by assumption) (by assumption)).1) (by first | omega | exact (HY.out _ _ (by assumption) (by assumption)).2)).mono ?_; rintro _ w' ⟨t', rfl, hR, hQ, hb⟩))
  all_goals
    go_wp2
    go_ret
    exact ⟨_, rfl, hR, (by exact HQ.out _ _ _ hQ (by assumption) (by assumption)), (up_level2_k (by assumption)).2⟩

theorem up_level3 {v0 v1 : Value} {b0 : Nat} {L : List T} {w0 w w' : World} (h : w.cell? ⟨b0, 0, none⟩ = some (v0) ∧ w.cell? ⟨b0, 1, none⟩ = some (v1) ∧ b0 < w.heap.size ∧ Kp L w0 w) (hb : Below w.heap.size w w') : w'.cell? ⟨b0, 0, none⟩ = some (v0) ∧ w'.cell? ⟨b0, 1, none⟩ = some (v1) ∧ b0 < w'.heap.size ∧ Kp L w0 w' := by
  obtain ⟨h0, h1, z0, K⟩ := h
  exact ⟨(hb.cell (p := ⟨b0, 0, none⟩) z0).trans h0, (hb.cell (p := ⟨b0, 1, none⟩) z0).trans h1, Nat.lt_of_lt_of_le z0 hb.size, K.up hb⟩
theorem up_level3_k {v0 v1 : Value} {b0 : Nat} {L : List T} {w0 w : World} (h : w.cell? ⟨b0, 0, none⟩ = some (v0) ∧ w.cell? ⟨b0, 1, none⟩ = some (v1) ∧ b0 < w.heap.size ∧ Kp L w0 w) : Kp L w0 w := h.2.2.2

set_option maxHeartbeats 4000000 in
set_option maxRecDepth 100000 in
theorem level3 (bb : Nat) (bl br a : T) (w : World) (ha : Rep w a) (hb : Rep w (.fork bb bl br)) (ba : a.bal) (bb' : (T.fork bb bl br).bal) (hn : a.size + (bl.size + br.size) ≤ 1000000) (hh : max bl.hgt br.hgt + 1 ≤ 500000) (h1 : a.hgt + 1 < max bl.hgt br.hgt + 1) (h3 : max bl.hgt br.hgt + 1 ≤ a.hgt + 2) (h2 : bl.hgt ≤ br.hgt) :
    Calls Try.prog 83 #[ptr a.blk, ptr bb] w (Out (Level a (.fork bb bl br)) w) := by
  have HQ := Lib.hid (fun (t1 t : T) (q : IsFork t1 br t) (q1 : IsFork a bl t1) => lvq3 ba bb' h1 h3 h2 q q1)
  obtain ⟨⟨b0, b1, b2, b3, b4, b5, b6, bz⟩, hbl, hbr⟩ := hb
  obtain ⟨pa, qa, sa, a0, a1, a2, a3, a4, a5, a6, az⟩ := ha.node
  obtain ⟨pl, ql, sl, l0, l1, l2, l3, l4, l5, l6, lz⟩ := hbl.node
  obtain ⟨pr, qr, sr, r0, r1, r2, r3, r4, r5, r6, rz⟩ := hbr.node
  have hK := Lib.hid (Kp.start (w := w) (L := [a, bl, br]) (by intro t ht; simp at ht; rcases ht with rfl | rfl | rfl <;> assumption))
  clear ha hbl hbr ba bb'
  clear b2 b3 b5 b6
  clear a0 a1 a2 a3 a5 a6
  clear l0 l1 l2 l3 l5 l6
  clear r0 r1 r2 r3 r5 r6
  have g1 : bl.hgt ≤ 500000 := by omega
  have g2 : br.hgt ≤ 500000 := by omega
  have g3 : a.hgt ≤ 500000 := by omega
  obtain ⟨A, hA⟩ : ∃ A, max bl.hgt br.hgt + 1 = A := ⟨_, rfl⟩
  rw [hA] at b4 hh h1
  have s1 := IntWalk.i64_in ((A : Int) + 1) (by omega)
  have s2 := IntWalk.i64_in ((a.hgt : Int) + 1) (by omega)
  have d1 : decide ((A : Int) + 1 < (a.hgt : Int)) = false := by simp; omega
  have d3 : decide ((a.hgt : Int) + 1 < (A : Int)) = true := by simp; omega
  clear hA h3
  go_enter Try.func83, Try.ntmps83
  go_wp2_with fail
  go_quiet (fail)
  go_wp2_with fail
  go_quiet (fail)
  go_wp2_with fail
  go_quiet (fail)
  clear s1 s2 d1 d3
  go_wp2_with fail
  simp only [World.drewN_drewN]
  go_region_held3 (fun w' => w'.cell? ⟨bb, 0, none⟩ = some (ptr bl.blk) ∧ w'.cell? ⟨bb, 1, none⟩ = some (ptr br.blk) ∧ bb < w'.heap.size ∧ Kp [a, bl, br] w w')
    (first | assumption | exact ⟨b0, b1, bz, (hK.out.drewN _).drew⟩ | exact up_level3 (by assumption) hb | exact up_level3 (by assumption) ((Below.refl _ _).alloc (Nat.le_refl _) _))
    (first | (go_at_call 68; refine (fork_is _ _ _ (by first | assumption | exact Rep.below (by assumption) (by assumption) | exact Kp.rep (up_level3_k (by assumption)) (by simp)) (by first | assumption | exact Rep.below (by assumption) (by assumption) | exact Kp.rep (up_level3_k (by assumption)) (by simp)) (by first | omega | (have q := IsFork.size (by assumption); omega)) (by first | omega | (have q := IsFork.hgt (by assumption); omega)) (by first | omega | (have q := IsFork.hgt (by assumption); omega))).mono ?_; rintro _ w' ⟨t', rfl, hR, hQ, hb⟩))
  all_goals
    go_wp2
    go_ret
    exact ⟨_, rfl, hR, (by exact HQ.out _ _ hQ (by assumption)), (up_level3_k (by assumption)).2⟩

theorem up_level4 {v0 v1 v2 v3 : Value} {b0 b1 : Nat} {L : List T} {w0 w w' : World} (h : w.cell? ⟨b0, 0, none⟩ = some (v0) ∧ w.cell? ⟨b0, 1, none⟩ = some (v1) ∧ w.cell? ⟨b1, 0, none⟩ = some (v2) ∧ w.cell? ⟨b1, 1, none⟩ = some (v3) ∧ b0 < w.heap.size ∧ b1 < w.heap.size ∧ Kp L w0 w) (hb : Below w.heap.size w w') : w'.cell? ⟨b0, 0, none⟩ = some (v0) ∧ w'.cell? ⟨b0, 1, none⟩ = some (v1) ∧ w'.cell? ⟨b1, 0, none⟩ = some (v2) ∧ w'.cell? ⟨b1, 1, none⟩ = some (v3) ∧ b0 < w'.heap.size ∧ b1 < w'.heap.size ∧ Kp L w0 w' := by
  obtain ⟨h0, h1, h2, h3, z0, z1, K⟩ := h
  exact ⟨(hb.cell (p := ⟨b0, 0, none⟩) z0).trans h0, (hb.cell (p := ⟨b0, 1, none⟩) z0).trans h1, (hb.cell (p := ⟨b1, 0, none⟩) z1).trans h2, (hb.cell (p := ⟨b1, 1, none⟩) z1).trans h3, Nat.lt_of_lt_of_le z0 hb.size, Nat.lt_of_lt_of_le z1 hb.size, K.up hb⟩
theorem up_level4_k {v0 v1 v2 v3 : Value} {b0 b1 : Nat} {L : List T} {w0 w : World} (h : w.cell? ⟨b0, 0, none⟩ = some (v0) ∧ w.cell? ⟨b0, 1, none⟩ = some (v1) ∧ w.cell? ⟨b1, 0, none⟩ = some (v2) ∧ w.cell? ⟨b1, 1, none⟩ = some (v3) ∧ b0 < w.heap.size ∧ b1 < w.heap.size ∧ Kp L w0 w) : Kp L w0 w := h.2.2.2.2.2.2

set_option maxHeartbeats 4000000 in
set_option maxRecDepth 100000 in
theorem level4 (bb lb : Nat) (ll lr br a : T) (w : World) (ha : Rep w a) (hb : Rep w (.fork bb (.fork lb ll lr) br)) (ba : a.bal) (bb' : (T.fork bb (.fork lb ll lr) br).bal) (hn : a.size + ((ll.size + lr.size) + br.size) ≤ 1000000) (hh : max (max ll.hgt lr.hgt + 1) br.hgt + 1 ≤ 500000) (h1 : a.hgt + 1 < max (max ll.hgt lr.hgt + 1) br.hgt + 1) (h3 : max (max ll.hgt lr.hgt + 1) br.hgt + 1 ≤ a.hgt + 2) (h2 : br.hgt < max ll.hgt lr.hgt + 1) :
    Calls Try.prog 83 #[ptr a.blk, ptr bb] w (Out (Level a (.fork bb (.fork lb ll lr) br)) w) := by
  have HQ := Lib.hid (fun (t1 t2 t : T) (q : IsFork t1 t2 t) (q1 : IsFork a ll t1) (q2 : IsFork lr br t2) => lvq4 ba bb' h1 h3 h2 q q1 q2)
  have HZ := Lib.hid (fun (t1 t2 : T) (q1 : IsFork a ll t1) (q2 : IsFork lr br t2) => (show t1.size + t2.size ≤ 1000000 by have e1 := q1.size; have e2 := q2.size; omega))
  have HY := Lib.hid (fun (t1 t2 : T) (q1 : IsFork a ll t1) (q2 : IsFork lr br t2) => (show t1.hgt ≤ 1000000 ∧ t2.hgt ≤ 1000000 by have e1 := q1.hgt; have e2 := q2.hgt; omega))
  obtain ⟨⟨b0, b1, b2, b3, b4, b5, b6, bz⟩, ⟨⟨l0, l1, l2, l3, l4, l5, l6, lz⟩, hll, hlr⟩, hbr⟩ := hb
  obtain ⟨pa, qa, sa, a0, a1, a2, a3, a4, a5, a6, az⟩ := ha.node
  obtain ⟨pr, qr, sr, r0, r1, r2, r3, r4, r5, r6, rz⟩ := hbr.node
  have hK := Lib.hid (Kp.start (w := w) (L := [a, ll, lr, br]) (by intro t ht; simp at ht; rcases ht with rfl | rfl | rfl | rfl <;> assumption))
  clear ha hll hlr hbr ba bb'
  clear b2 b3 b5 b6
  clear a0 a1 a2 a3 a5 a6
  clear l2 l3 l5 l6
  clear r0 r1 r2 r3 r5 r6
  have g1 : ll.hgt ≤ 500000 := by omega
  have g2 : lr.hgt ≤ 500000 := by omega
  have g4 : br.hgt ≤ 500000 := by omega
  have g3 : a.hgt ≤ 500000 := by omega
  simp only [T.hgt, T.blk] at b0 b4
  obtain ⟨R, hR⟩ : ∃ R, max ll.hgt lr.hgt + 1 = R := ⟨_, rfl⟩
  rw [hR] at b4 l4 hh h1 h2 h3
  obtain ⟨A, hA⟩ : ∃ A, max R br.hgt + 1 = A := ⟨_, rfl⟩
  rw [hA] at b4 hh h1 h3
  have s1 := IntWalk.i64_in ((A : Int) + 1) (by omega)
  have s2 := IntWalk.i64_in ((a.hgt : Int) + 1) (by omega)
  have d1 : decide ((A : Int) + 1 < (a.hgt : Int)) = false := by simp; omega
  have d3 : decide ((a.hgt : Int) + 1 < (A : Int)) = true := by simp; omega
  have d4 : decide ((R : Int) ≤ (br.hgt : Int)) = false := by simp; omega
  clear hA hR
  go_enter Try.func83, Try.ntmps83
  go_wp2_with fail
  go_quiet (fail)
  go_wp2_with fail
  go_quiet (fail)
  go_wp2_with fail
  go_quiet (fail)
  go_wp2_with fail
  go_quiet (fail)
  clear s1 s2 d1 d3 d4
  go_wp2_with fail
  simp only [World.drewN_drewN]
  go_region_held3 (fun w' => w'.cell? ⟨bb, 0, none⟩ = some (ptr lb) ∧ w'.cell? ⟨bb, 1, none⟩ = some (ptr br.blk) ∧ w'.cell? ⟨lb, 0, none⟩ = some (ptr ll.blk) ∧ w'.cell? ⟨lb, 1, none⟩ = some (ptr lr.blk) ∧ bb < w'.heap.size ∧ lb < w'.heap.size ∧ Kp [a, ll, lr, br] w w')
    (first | assumption | exact ⟨b0, b1, l0, l1, bz, lz, (hK.out.drewN _).drew⟩ | exact up_level4 (by assumption) hb | exact up_level4 (by assumption) ((Below.refl _ _).alloc (Nat.le_refl _) _))
    (first | (go_at_call 68; refine (fork_is _ _ _ (by first | assumption | exact Rep.below (by assumption) (by assumption) | exact Kp.rep (up_level4_k (by assumption)) (by simp)) (by first | assumption | exact Rep.below (by assumption) (by assumption) | exact Kp.rep (up_level4_k (by assumption)) (by simp)) (by first | omega | exact HZ.out _ _ (by assumption) (by assumption)) (by first | omega | exact (HY.out _ _ (by assumption) (by assumption)).1) (by first | omega | exact (HY.out _ _ (by assumption) (by assumption)).2)).mono ?_; rintro _ w' ⟨t', rfl, hR, hQ, hb⟩))
  all_goals
    go_wp2
    go_ret
    exact ⟨_, rfl, hR, (by exact HQ.out _ _ _ hQ (by assumption) (by assumption)), (up_level4_k (by assumption)).2⟩

set_option maxHeartbeats 4000000 in
set_option maxRecDepth 100000 in
theorem level5 (a b : T) (w : World) (ha : Rep w a) (hb : Rep w b) (ba : a.bal) (bb : b.bal) (hn : a.size + b.size ≤ 1000000) (hh : a.hgt ≤ 500000) (h1 : a.hgt ≤ b.hgt + 1) (h2 : b.hgt ≤ a.hgt + 1) :
    Calls Try.prog 83 #[ptr a.blk, ptr b.blk] w (Out (Level a b) w) := by
  have HQ := Lib.hid (fun (t : T) (q : IsFork a b t) => lvq5 ba bb h1 h2 q)
  obtain ⟨pa, qa, sa, a0, a1, a2, a3, a4, a5, a6, az⟩ := ha.node
  obtain ⟨pb, qb, sb, b0, b1, b2, b3, b4, b5, b6, bz⟩ := hb.node
  have hK := Lib.hid (Kp.start (w := w) (L := [a, b]) (by intro t ht; simp at ht; rcases ht with rfl | rfl <;> assumption))
  clear ha hb ba bb
  clear a0 a1 a2 a3 a5 a6
  clear b0 b1 b2 b3 b5 b6
  have s1 := IntWalk.i64_in ((b.hgt : Int) + 1) (by omega)
  have s2 := IntWalk.i64_in ((a.hgt : Int) + 1) (by omega)
  have d1 : decide ((b.hgt : Int) + 1 < (a.hgt : Int)) = false := by simp; omega
  have d3 : decide ((a.hgt : Int) + 1 < (b.hgt : Int)) = false := by simp; omega
  go_enter Try.func83, Try.ntmps83
  go_wp2_with fail
  go_quiet (fail)
  go_wp2_with fail
  go_quiet (fail)
  go_wp2_with fail
  go_quiet (fail)
  go_wp2_with fail
  go_quiet (fail)
  clear s1 s2 d1 d3
  simp only [World.drewN_drewN]
  go_wp2_with (go_at_call 68; refine (fork_is a b _ (Kp.rep (hK.out.drewN _) (by simp)) (Kp.rep (hK.out.drewN _) (by simp)) hn (by omega) (by omega)).mono ?_; rintro _ w' ⟨t', rfl, hR, hQ, hb⟩)
  go_ret
  exact ⟨_, rfl, hR, HQ.out _ hQ, ((hK.out.drewN _).up hb).2⟩

theorem level_any (a b : T) (w : World) (ha : Rep w a) (hb : Rep w b) (ba : a.bal) (bb : b.bal) (hn : a.size + b.size ≤ 1000000) (hh : a.hgt ≤ 500000) (hh2 : b.hgt ≤ 500000) (h1 : a.hgt ≤ b.hgt + 2) (h2 : b.hgt ≤ a.hgt + 2) :
    Calls Try.prog 83 #[ptr a.blk, ptr b.blk] w (Out (Level a b) w) := by
  by_cases c1 : b.hgt + 1 < a.hgt
  · cases a with
    | leaf _ _ => simp [T.hgt] at c1
    | fork ab al ar =>
      by_cases c2 : ar.hgt ≤ al.hgt
      · exact level1 ab al ar b w ha hb ba bb hn hh c1 h1 c2
      · cases ar with
        | leaf _ _ => simp [T.hgt] at c2
        | fork rb rl rr => exact level2 ab rb al rl rr b w ha hb ba bb hn hh c1 h1 (by simp only [T.hgt] at c2; omega)
  by_cases c3 : a.hgt + 1 < b.hgt
  · cases b with
    | leaf _ _ => simp [T.hgt] at c3
    | fork bk bl br =>
      by_cases c2 : bl.hgt ≤ br.hgt
      · exact level3 bk bl br a w ha hb ba bb hn hh2 c3 h2 c2
      · cases bl with
        | leaf _ _ => simp [T.hgt] at c2
        | fork lb ll lr => exact level4 bk lb ll lr br a w ha hb ba bb hn hh2 c3 h2 (by simp only [T.hgt] at c2; omega)
  · exact level5 a b w ha hb ba bb hn hh (by omega) (by omega)

end Go.Proofs.Ytagjeckgfjddmaa
