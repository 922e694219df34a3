/- join: a balanced tree of the leaves of two. -/
import Derived.Test.YtagjeckgfjddmaaLevel
namespace Go.Proofs.Ytagjeckgfjddmaa
set_option linter.unusedSimpArgs false
set_option linter.unusedVariables false
open Go.RowKit

theorem T.hgt_lt (t : T) : t.hgt < t.leaves.length := by
  induction t with
  | leaf b s => simp [T.hgt, T.leaves]
  | fork b l r hl hr => simp only [T.hgt, T.leaves, List.length_append]; omega
/-- What join makes of two. -/
def Join (a b t : T) : Prop := t.leaves = a.leaves ++ b.leaves ∧ t.bal ∧ max a.hgt b.hgt ≤ t.hgt ∧ t.hgt ≤ max a.hgt b.hgt + 1
theorem jq1 {ab : Nat} {al ar b t1 t : T} (ba : (T.fork ab al ar).bal) (h1 : b.hgt + 1 < max al.hgt ar.hgt + 1) (q1 : Join ar b t1) (q : Level al t1 t) : Join (.fork ab al ar) b t := by
  obtain ⟨c1, c2, c3, c4⟩ := q1
  obtain ⟨e1, e2, e3, e4⟩ := q
  obtain ⟨b1, b2, b3, b4⟩ := ba
  refine ⟨by rw [e1, c1]; simp [T.leaves], e2, ?_, ?_⟩ <;> simp only [T.hgt] <;> omega
theorem jz1 {ab : Nat} {al ar b t1 : T} (ba : (T.fork ab al ar).bal) (h1 : b.hgt + 1 < max al.hgt ar.hgt + 1) (hn : al.size + ar.size + b.size ≤ 1000000) (hl : al.leaves.length + ar.leaves.length + b.leaves.length ≤ 300000) (q1 : Join ar b t1) :
    t1.bal ∧ al.size + t1.size ≤ 1000000 ∧ t1.hgt ≤ 500000 ∧ al.hgt ≤ t1.hgt + 2 ∧ t1.hgt ≤ al.hgt + 2 := by
  obtain ⟨c1, c2, c3, c4⟩ := q1
  obtain ⟨b1, b2, b3, b4⟩ := ba
  have := t1.hgt_lt
  rw [c1, List.length_append] at this
  have hs : t1.size = ar.size + b.size := by rw [T.size_eq, c1, total_app, ← T.size_eq, ← T.size_eq]
  exact ⟨c2, by omega, by omega, by omega, by omega⟩
theorem jq2 {bb : Nat} {bl br a t1 t : T} (ba : (T.fork bb bl br).bal) (h1 : a.hgt + 1 < max bl.hgt br.hgt + 1) (q1 : Join a bl t1) (q : Level t1 br t) : Join a (.fork bb bl br) t := by
  obtain ⟨c1, c2, c3, c4⟩ := q1
  obtain ⟨e1, e2, e3, e4⟩ := q
  obtain ⟨b1, b2, b3, b4⟩ := ba
  refine ⟨by rw [e1, c1]; simp [T.leaves], e2, ?_, ?_⟩ <;> simp only [T.hgt] <;> omega
theorem jz2 {bb : Nat} {bl br a t1 : T} (ba : (T.fork bb bl br).bal) (h1 : a.hgt + 1 < max bl.hgt br.hgt + 1) (hn : a.size + (bl.size + br.size) ≤ 1000000) (hl : a.leaves.length + (bl.leaves.length + br.leaves.length) ≤ 300000) (q1 : Join a bl t1) :
    t1.bal ∧ t1.size + br.size ≤ 1000000 ∧ t1.hgt ≤ 500000 ∧ br.hgt ≤ t1.hgt + 2 ∧ t1.hgt ≤ br.hgt + 2 := by
  obtain ⟨c1, c2, c3, c4⟩ := q1
  obtain ⟨b1, b2, b3, b4⟩ := ba
  have := t1.hgt_lt
  rw [c1, List.length_append] at this
  have hs : t1.size = a.size + bl.size := by rw [T.size_eq, c1, total_app, ← T.size_eq, ← T.size_eq]
  exact ⟨c2, by omega, by omega, by omega, by omega⟩
theorem jq3 {a b t : T} (ba : a.bal) (bb : b.bal) (h1 : a.hgt ≤ b.hgt + 1) (h2 : b.hgt ≤ a.hgt + 1) (q : IsFork a b t) : Join a b t := by
  have e := q.hgt
  exact ⟨q.leaves, q.bal ba bb h1 h2, by omega, by omega⟩
def JoinAt (k : Nat) : Prop := ∀ (a b : T) (w : World), a.hgt + b.hgt ≤ k → Rep w a → Rep w b → a.bal → b.bal → a.size + b.size ≤ 1000000 → a.leaves.length + b.leaves.length ≤ 300000 → Calls Try.prog 73 #[ptr a.blk, ptr b.blk] w (Out (Join a b) w)

theorem up_join1 {v0 v1 : Value} {b0 : Nat} {L : List T} {w0 w w' : World} (h : w.cell? ⟨b0, 0, none⟩ = some (v0) ∧ w.cell? ⟨b0, 1, none⟩ = some (v1) ∧ b0 < w.heap.size ∧ Kp L w0 w) (hb : Below w.heap.size w w') : w'.cell? ⟨b0, 0, none⟩ = some (v0) ∧ w'.cell? ⟨b0, 1, none⟩ = some (v1) ∧ b0 < w'.heap.size ∧ Kp L w0 w' := by
  obtain ⟨h0, h1, z0, K⟩ := h
  exact ⟨(hb.cell (p := ⟨b0, 0, none⟩) z0).trans h0, (hb.cell (p := ⟨b0, 1, none⟩) z0).trans h1, Nat.lt_of_lt_of_le z0 hb.size, K.up hb⟩
theorem up_join1_k {v0 v1 : Value} {b0 : Nat} {L : List T} {w0 w : World} (h : w.cell? ⟨b0, 0, none⟩ = some (v0) ∧ w.cell? ⟨b0, 1, none⟩ = some (v1) ∧ b0 < w.heap.size ∧ Kp L w0 w) : Kp L w0 w := h.2.2.2

set_option maxHeartbeats 4000000 in
set_option maxRecDepth 100000 in
theorem join1 (k : Nat) (ih : JoinAt k) (ab : Nat) (al ar b : T) (w : World) (hk : max al.hgt ar.hgt + 1 + b.hgt ≤ k + 1) (ha : Rep w (.fork ab al ar)) (hb : Rep w b) (ba : (T.fork ab al ar).bal) (bb : b.bal) (hn : al.size + ar.size + b.size ≤ 1000000) (hl : al.leaves.length + ar.leaves.length + b.leaves.length ≤ 300000) (h1 : b.hgt + 1 < max al.hgt ar.hgt + 1) :
    Calls Try.prog 73 #[ptr ab, ptr b.blk] w (Out (Join (.fork ab al ar) b) w) := by
  have HQ := Lib.hid (fun (t1 t : T) (q1 : Join ar b t1) (q : Level al t1 t) => jq1 ba h1 q1 q)
  have HZ := Lib.hid (fun (t1 : T) (q1 : Join ar b t1) => jz1 ba h1 hn hl q1)
  have g1 : al.hgt ≤ 400000 := by have := al.hgt_lt; omega
  have g2 : ar.hgt ≤ 400000 := by have := ar.hgt_lt; omega
  have g3 : b.hgt ≤ 400000 := by have := b.hgt_lt; omega
  have hih := Lib.hid (fun (wz : World) (r1 : Rep wz ar) (r2 : Rep wz b) => ih ar b wz (by obtain ⟨b1, b2, b3, b4⟩ := ba; omega) r1 r2 ba.2.1 bb (by omega) (by omega))
  have hlv := Lib.hid (fun (t1 : T) (wz : World) (q1 : Join ar b t1) (r1 : Rep wz al) (r2 : Rep wz t1) => level_any al t1 wz r1 r2 ba.1 (HZ.out _ q1).1 (HZ.out _ q1).2.1 (by omega) (HZ.out _ q1).2.2.1 (HZ.out _ q1).2.2.2.1 (HZ.out _ q1).2.2.2.2)
  clear ih hk
  obtain ⟨⟨a0, a1, a2, a3, a4, a5, a6, az⟩, hal, har⟩ := ha
  obtain ⟨pb, qb, sb, b0, b1, b2, b3, b4, b5, b6, bz⟩ := hb.node
  have hK := Lib.hid (Kp.start (w := w) (L := [al, ar, b]) (by intro t ht; simp at ht; rcases ht with rfl | rfl | rfl <;> assumption))
  clear hb hal har ba bb HZ
  clear a2 a3 a5 a6
  clear b0 b1 b2 b3 b5 b6
  obtain ⟨A, hA⟩ : ∃ A, max al.hgt ar.hgt + 1 = A := ⟨_, rfl⟩
  have hA2 : A ≤ 400001 := by omega
  rw [hA] at a4 h1
  have s1 := IntWalk.i64_in ((b.hgt : Int) + 1) (by omega)
  clear hA
  go_enter Try.func73, Try.ntmps73
  go_wp2_with fail
  go_quiet (fail)
  clear s1
  go_wp2_with fail
  go_region_held3 (fun w' => w'.cell? ⟨ab, 0, none⟩ = some (ptr al.blk) ∧ w'.cell? ⟨ab, 1, none⟩ = some (ptr ar.blk) ∧ ab < w'.heap.size ∧ Kp [al, ar, b] w w')
    (first | assumption | exact ⟨a0, a1, az, (hK.out.drewN _).drew⟩ | exact up_join1 (by assumption) hb | exact up_join1 (by assumption) ((Below.refl _ _).alloc (Nat.le_refl _) _))
    (first | (go_at_call 73; refine (hih.out _ (by first | assumption | exact Rep.below (by assumption) (by assumption) | exact Kp.rep (up_join1_k (by assumption)) (by simp)) (by first | assumption | exact Rep.below (by assumption) (by assumption) | exact Kp.rep (up_join1_k (by assumption)) (by simp))).mono ?_; rintro _ w' ⟨t', rfl, hR, hQ, hb⟩) | (go_at_call 83; refine (hlv.out _ _ (by assumption) (by first | assumption | exact Rep.below (by assumption) (by assumption) | exact Kp.rep (up_join1_k (by assumption)) (by simp)) (by first | assumption | exact Rep.below (by assumption) (by assumption) | exact Kp.rep (up_join1_k (by assumption)) (by simp))).mono ?_; rintro _ w' ⟨t', rfl, hR, hQ, hb⟩))
  all_goals
    go_wp2
    go_ret
    exact ⟨_, rfl, hR, HQ.out _ _ (by assumption) hQ, (up_join1_k (by assumption)).2⟩

theorem up_join2 {v0 v1 : Value} {b0 : Nat} {L : List T} {w0 w w' : World} (h : w.cell? ⟨b0, 0, none⟩ = some (v0) ∧ w.cell? ⟨b0, 1, none⟩ = some (v1) ∧ b0 < w.heap.size ∧ Kp L w0 w) (hb : Below w.heap.size w w') : w'.cell? ⟨b0, 0, none⟩ = some (v0) ∧ w'.cell? ⟨b0, 1, none⟩ = some (v1) ∧ b0 < w'.heap.size ∧ Kp L w0 w' := by
  obtain ⟨h0, h1, z0, K⟩ := h
  exact ⟨(hb.cell (p := ⟨b0, 0, none⟩) z0).trans h0, (hb.cell (p := ⟨b0, 1, none⟩) z0).trans h1, Nat.lt_of_lt_of_le z0 hb.size, K.up hb⟩
theorem up_join2_k {v0 v1 : Value} {b0 : Nat} {L : List T} {w0 w : World} (h : w.cell? ⟨b0, 0, none⟩ = some (v0) ∧ w.cell? ⟨b0, 1, none⟩ = some (v1) ∧ b0 < w.heap.size ∧ Kp L w0 w) : Kp L w0 w := h.2.2.2

set_option maxHeartbeats 4000000 in
set_option maxRecDepth 100000 in
theorem join2 (k : Nat) (ih : JoinAt k) (bb : Nat) (bl br a : T) (w : World) (hk : a.hgt + (max bl.hgt br.hgt + 1) ≤ k + 1) (ha : Rep w a) (hb : Rep w (.fork bb bl br)) (ba : a.bal) (bb' : (T.fork bb bl br).bal) (hn : a.size + (bl.size + br.size) ≤ 1000000) (hl : a.leaves.length + (bl.leaves.length + br.leaves.length) ≤ 300000) (h1 : a.hgt + 1 < max bl.hgt br.hgt + 1) :
    Calls Try.prog 73 #[ptr a.blk, ptr bb] w (Out (Join a (.fork bb bl br)) w) := by
  have HQ := Lib.hid (fun (t1 t : T) (q1 : Join a bl t1) (q : Level t1 br t) => jq2 bb' h1 q1 q)
  have HZ := Lib.hid (fun (t1 : T) (q1 : Join a bl t1) => jz2 bb' h1 hn hl q1)
  have g1 : bl.hgt ≤ 400000 := by have := bl.hgt_lt; omega
  have g2 : br.hgt ≤ 400000 := by have := br.hgt_lt; omega
  have g3 : a.hgt ≤ 400000 := by have := a.hgt_lt; omega
  have hih := Lib.hid (fun (wz : World) (r1 : Rep wz a) (r2 : Rep wz bl) => ih a bl wz (by obtain ⟨b1, b2, b3, b4⟩ := bb'; omega) r1 r2 ba bb'.1 (by omega) (by omega))
  have hlv := Lib.hid (fun (t1 : T) (wz : World) (q1 : Join a bl t1) (r1 : Rep wz t1) (r2 : Rep wz br) => level_any t1 br wz r1 r2 (HZ.out _ q1).1 bb'.2.1 (HZ.out _ q1).2.1 (HZ.out _ q1).2.2.1 (by omega) (HZ.out _ q1).2.2.2.2 (HZ.out _ q1).2.2.2.1)
  clear ih hk
  obtain ⟨⟨b0, b1, b2, b3, b4, b5, b6, bz⟩, hbl, hbr⟩ := hb
  obtain ⟨pa, qa, sa, a0, a1, a2, a3, a4, a5, a6, az⟩ := ha.node
  have hK := Lib.hid (Kp.start (w := w) (L := [a, bl, br]) (by intro t ht; simp at ht; rcases ht with rfl | rfl | rfl <;> assumption))
  clear ha hbl hbr ba bb' HZ
  clear b2 b3 b5 b6
  clear a0 a1 a2 a3 a5 a6
  obtain ⟨A, hA⟩ : ∃ A, max bl.hgt br.hgt + 1 = A := ⟨_, rfl⟩
  have hA2 : A ≤ 400001 := by omega
  rw [hA] at b4 h1
  have s1 := IntWalk.i64_in ((A : Int) + 1) (by omega)
  have s2 := IntWalk.i64_in ((a.hgt : Int) + 1) (by omega)
  clear hA
  go_enter Try.func73, Try.ntmps73
  go_wp2_with fail
  go_quiet (fail)
  go_wp2_with fail
  go_quiet (fail)
  clear s1 s2
  go_wp2_with fail
  simp only [World.drewN_drewN]
  go_region_held3 (fun w' => w'.cell? ⟨bb, 0, none⟩ = some (ptr bl.blk) ∧ w'.cell? ⟨bb, 1, none⟩ = some (ptr br.blk) ∧ bb < w'.heap.size ∧ Kp [a, bl, br] w w')
    (first | assumption | exact ⟨b0, b1, bz, (hK.out.drewN _).drew⟩ | exact up_join2 (by assumption) hb | exact up_join2 (by assumption) ((Below.refl _ _).alloc (Nat.le_refl _) _))
    (first | (go_at_call 73; refine (hih.out _ (by first | assumption | exact Rep.below (by assumption) (by assumption) | exact Kp.rep (up_join2_k (by assumption)) (by simp)) (by first | assumption | exact Rep.below (by assumption) (by assumption) | exact Kp.rep (up_join2_k (by assumption)) (by simp))).mono ?_; rintro _ w' ⟨t', rfl, hR, hQ, hb⟩) | (go_at_call 83; refine (hlv.out _ _ (by assumption) (by first | assumption | exact Rep.below (by assumption) (by assumption) | exact Kp.rep (up_join2_k (by assumption)) (by simp)) (by first | assumption | exact Rep.below (by assumption) (by assumption) | exact Kp.rep (up_join2_k (by assumption)) (by simp))).mono ?_; rintro _ w' ⟨t', rfl, hR, hQ, hb⟩))
  all_goals
    go_wp2
    go_ret
    exact ⟨_, rfl, hR, HQ.out _ _ (by assumption) hQ, (up_join2_k (by assumption)).2⟩

set_option maxHeartbeats 4000000 in
set_option maxRecDepth 100000 in
theorem join3 (a b : T) (w : World) (ha : Rep w a) (hb : Rep w b) (ba : a.bal) (bb : b.bal) (hn : a.size + b.size ≤ 1000000) (hh : a.hgt ≤ 500000) (h1 : a.hgt ≤ b.hgt + 1) (h2 : b.hgt ≤ a.hgt + 1) :
    Calls Try.prog 73 #[ptr a.blk, ptr b.blk] w (Out (Join a b) w) := by
  have HQ := Lib.hid (fun (t : T) (q : IsFork a b t) => jq3 ba bb h1 h2 q)
  obtain ⟨pa, qa, sa, a0, a1, a2, a3, a4, a5, a6, az⟩ := ha.node
  obtain ⟨pb, qb, sb, b0, b1, b2, b3, b4, b5, b6, bz⟩ := hb.node
  have hK := Lib.hid (Kp.start (w := w) (L := [a, b]) (by intro t ht; simp at ht; rcases ht with rfl | rfl <;> assumption))
  clear ha hb ba bb
  clear a0 a1 a2 a3 a5 a6
  clear b0 b1 b2 b3 b5 b6
  have s1 := IntWalk.i64_in ((b.hgt : Int) + 1) (by omega)
  have s2 := IntWalk.i64_in ((a.hgt : Int) + 1) (by omega)
  go_enter Try.func73, Try.ntmps73
  go_wp2_with fail
  go_quiet (fail)
  go_wp2_with fail
  go_quiet (fail)
  clear s1 s2
  simp only [World.drewN_drewN]
  go_wp2_with (go_at_call 68; refine (fork_is a b _ (Kp.rep (hK.out.drewN _) (by simp)) (Kp.rep (hK.out.drewN _) (by simp)) hn (by omega) (by omega)).mono ?_; rintro _ w' ⟨t', rfl, hR, hQ, hb⟩)
  go_ret
  exact ⟨_, rfl, hR, HQ.out _ hQ, ((hK.out.drewN _).up hb).2⟩
theorem join_at (k : Nat) : JoinAt k := by
  induction k with
  | zero =>
    intro a b w hk ha hb ba bb hn hl
    exact join3 a b w ha hb ba bb hn (by have := a.hgt_lt; omega) (by omega) (by omega)
  | succ k ih =>
    intro a b w hk ha hb ba bb hn hl
    by_cases c1 : b.hgt + 1 < a.hgt
    · cases a with
      | leaf _ _ => simp [T.hgt] at c1
      | fork ab al ar => exact join1 k ih ab al ar b w hk ha hb ba bb hn (by simpa [T.leaves] using hl) c1
    by_cases c2 : a.hgt + 1 < b.hgt
    · cases b with
      | leaf _ _ => simp [T.hgt] at c2
      | fork bk bl br => exact join2 k ih bk bl br a w hk ha hb ba bb hn (by simpa [T.leaves] using hl) c2
    · exact join3 a b w ha hb ba bb hn (by have := a.hgt_lt; omega) (by omega) (by omega)
theorem join_some (a b : T) (w : World) (ha : Rep w a) (hb : Rep w b) (ba : a.bal) (bb : b.bal) (hn : a.size + b.size ≤ 1000000) (hl : a.leaves.length + b.leaves.length ≤ 300000) :
    Calls Try.prog 73 #[ptr a.blk, ptr b.blk] w (Out (Join a b) w) := join_at _ a b w (Nat.le_refl _) ha hb ba bb hn hl
theorem join_none (b : Value) (w : World) : Calls Try.prog 73 #[.pointer none, b] w fun e w' => e = .returned b ∧ w = w' := by
  go_enter Try.func73, Try.ntmps73
  go_wp2_with fail
  go_ret
  exact ⟨rfl, rfl⟩
theorem join_none2 (a : Nat) (w : World) : Calls Try.prog 73 #[ptr a, .pointer none] w fun e w' => e = .returned (ptr a) ∧ w = w' := by
  go_enter Try.func73, Try.ntmps73
  go_wp2_with fail
  go_ret
  exact ⟨rfl, rfl⟩
/-- What join makes, nothing or something on either side. -/
def JoinO (a b o : Option T) : Prop := lvs o = lvs a ++ lvs b ∧ balO o
theorem join_any (a b : Option T) (w : World) (ha : RepO w a) (hb : RepO w b) (ba : balO a) (bb : balO b) (hn : total (lvs a) + total (lvs b) ≤ 1000000) (hl : (lvs a).length + (lvs b).length ≤ 300000) :
    Calls Try.prog 73 #[topPtr a, topPtr b] w (OutO (JoinO a b) w) := by
  cases a with
  | none => exact (join_none (topPtr b) w).mono fun _ _ ⟨h1, h2⟩ => by subst h2; exact ⟨b, h1, hb, ⟨by simp [lvs], bb⟩, Below.refl _ _⟩
  | some a =>
    cases b with
    | none => exact (join_none2 a.blk w).mono fun _ _ ⟨h1, h2⟩ => by subst h2; exact ⟨some a, h1, ha, ⟨by simp [lvs], ba⟩, Below.refl _ _⟩
    | some b =>
      exact (join_some a b w ha hb ba bb (by rw [T.size_eq, T.size_eq]; exact hn) hl).mono fun _ _ ⟨t, h1, h2, h3, h4⟩ => ⟨some t, h1, h2, ⟨h3.1, h3.2.1⟩, h4⟩

end Go.Proofs.Ytagjeckgfjddmaa
