/- link, head, tail: one induction on how many bytes there are. -/
import Derived.Test.YtagjeckgfjddmaaEnds
namespace Go.Proofs.Ytagjeckgfjddmaa
set_option linter.unusedSimpArgs false
set_option linter.unusedVariables false
open Go.RowKit

def LinkT (a b t : T) : Prop := LinkO a.leaves b.leaves t.leaves ∧ t.bal ∧ Good t.leaves
def HeadT (t : T) (n : Nat) (u : T) : Prop := HeadO t.leaves n u.leaves ∧ u.bal
def TailT (t : T) (n : Nat) (u : T) : Prop := TailO t.leaves n u.leaves ∧ u.bal
/-- A tree that may be: balanced, its leaves good, not too long. -/
def Fine (t : T) : Prop := t.bal ∧ Good t.leaves ∧ t.size ≤ 100000
def LinkAt (k : Nat) : Prop := ∀ (a b : T) (w : World), a.size + b.size ≤ k → Rep w a → Rep w b → Fine a → Fine b → Calls Try.prog 57 #[ptr a.blk, ptr b.blk] w (Out (LinkT a b) w)
def HeadAt (k : Nat) : Prop := ∀ (t : T) (n : Nat) (w : World), t.size ≤ k → Rep w t → Fine t → 0 < n → n ≤ t.size → Calls Try.prog 55 #[ptr t.blk, .int .i64 n] w (Out (HeadT t n) w)
def TailAt (k : Nat) : Prop := ∀ (t : T) (n : Nat) (w : World), t.size ≤ k → Rep w t → Fine t → n < t.size → Calls Try.prog 56 #[ptr t.blk, .int .i64 n] w (Out (TailT t n) w)

theorem head_zero (t : Nat) (n : Int) (w : World) (h : n ≤ 0) : Calls Try.prog 55 #[ptr t, .int .i64 n] w fun e w' => e = .returned (.pointer none) ∧ w = w' := by
  go_enter Try.func55, Try.ntmps55
  go_wp2_with fail
  go_ret
  exact ⟨rfl, rfl⟩
theorem head_all (t : T) (n : Nat) (w : World) (hr : Rep w t) (h0 : 0 < n) (h : t.size ≤ n) : Calls Try.prog 55 #[ptr t.blk, .int .i64 n] w fun e w' => e = .returned (ptr t.blk) ∧ w = w' := by
  obtain ⟨pa, qa, sa, a0, a1, a2, a3, a4, a5, a6, az⟩ := hr.node
  clear hr
  go_enter Try.func55, Try.ntmps55
  go_wp2_with fail
  go_ret
  exact ⟨rfl, rfl⟩
theorem tail_zero (t : Nat) (n : Int) (w : World) (h : n ≤ 0) : Calls Try.prog 56 #[ptr t, .int .i64 n] w fun e w' => e = .returned (ptr t) ∧ w = w' := by
  go_enter Try.func56, Try.ntmps56
  go_wp2_with fail
  go_ret
  exact ⟨rfl, rfl⟩
theorem tail_end (t : T) (n : Nat) (w : World) (hr : Rep w t) (h0 : 0 < n) (h : t.size ≤ n) : Calls Try.prog 56 #[ptr t.blk, .int .i64 n] w fun e w' => e = .returned (.pointer none) ∧ w = w' := by
  obtain ⟨pa, qa, sa, a0, a1, a2, a3, a4, a5, a6, az⟩ := hr.node
  clear hr
  go_enter Try.func56, Try.ntmps56
  go_wp2_with fail
  go_ret
  exact ⟨rfl, rfl⟩

theorem join_mid (a : Option T) (b : T) (w : World) (ha : RepO w a) (hb : Rep w b) (ba : balO a) (bb : b.bal) (hn : total (lvs a) + b.size ≤ 1000000) (hl : (lvs a).length + b.leaves.length ≤ 300000) :
    Calls Try.prog 73 #[topPtr a, ptr b.blk] w (Out (fun t => t.leaves = lvs a ++ b.leaves ∧ t.bal) w) := by
  cases a with
  | none => exact (join_none (ptr b.blk) w).mono fun _ _ ⟨h1, h2⟩ => by subst h2; exact ⟨b, h1, hb, ⟨by simp [lvs], bb⟩, Below.refl _ _⟩
  | some a => exact (join_some a b w ha hb ba bb (by rw [T.size_eq]; exact hn) hl).mono fun _ _ ⟨t, h1, h2, h3, h4⟩ => ⟨t, h1, h2, ⟨h3.1, h3.2.1⟩, h4⟩
theorem join_last (a : T) (b : Option T) (w : World) (ha : Rep w a) (hb : RepO w b) (ba : a.bal) (bb : balO b) (hn : a.size + total (lvs b) ≤ 1000000) (hl : a.leaves.length + (lvs b).length ≤ 300000) :
    Calls Try.prog 73 #[ptr a.blk, topPtr b] w (Out (fun t => t.leaves = a.leaves ++ lvs b ∧ t.bal) w) := by
  cases b with
  | none => exact (join_none2 a.blk w).mono fun _ _ ⟨h1, h2⟩ => by subst h2; exact ⟨a, h1, ha, ⟨by simp [lvs], ba⟩, Below.refl _ _⟩
  | some b => exact (join_some a b w ha hb ba bb (by rw [T.size_eq b]; exact hn) hl).mono fun _ _ ⟨t, h1, h2, h3, h4⟩ => ⟨t, h1, h2, ⟨h3.1, h3.2.1⟩, h4⟩

theorem Fine.kids {b : Nat} {l r : T} (h : Fine (.fork b l r)) : Fine l ∧ Fine r ∧ 0 < l.size ∧ 0 < r.size := by
  obtain ⟨h1, h2, h3⟩ := h
  simp only [T.size] at h3
  exact ⟨⟨h1.1, Good.left h2, by omega⟩, ⟨h1.2.1, Good.right h2, by omega⟩, Good.tree (Good.left h2), Good.tree (Good.right h2)⟩
theorem Fine.len {t : T} (h : Fine t) : t.leaves.length ≤ 100000 := by have := h.2.1.len_le; rw [← T.size_eq] at this; have := h.2.2; omega
theorem sub_head (s : ByteArray) (k : Nat) (h : k ≤ s.size) : (s.extract 0 k).data.toList = s.data.toList.take k := by rw [ByteArray.data_extract]; simp
theorem fine_head {t u : T} {n : Nat} (h : HeadT t n u) (hn : n ≤ t.size) (ht : t.size ≤ 100000) : Fine u ∧ u.size = n := by
  obtain ⟨⟨-, h1, h2, -⟩, h3⟩ := h
  have : u.size = n := by
    rw [T.size_eq, ← flat_len, h1, List.length_take, flat_len, ← T.size_eq]; omega
  exact ⟨⟨h3, h2, by omega⟩, this⟩
theorem fine_tail {t u : T} {n : Nat} (h : TailT t n u) (ht : t.size ≤ 100000) : Fine u ∧ u.size = t.size - n := by
  obtain ⟨⟨-, h1, h2, -⟩, h3⟩ := h
  have : u.size = t.size - n := by
    rw [T.size_eq, ← flat_len, h1, List.length_drop, flat_len, ← T.size_eq]
  exact ⟨⟨h3, h2, by omega⟩, this⟩

theorem head_leaf (b n : Nat) (s : ByteArray) (w : World) (hr : Rep w (.leaf b s)) (hf : Fine (.leaf b s)) (h0 : 0 < n) (hn : n < s.size) :
    Calls Try.prog 55 #[ptr b, .int .i64 n] w (Out (HeadT (.leaf b s) n) w) := by
  have hs : s.size ≤ 100000 := hf.2.2
  have HQ := Lib.hid (fun (t : T) (q : ∃ c, t = .leaf c (s.extract 0 n)) => (show HeadT (.leaf b s) n t by
    obtain ⟨c, rfl⟩ := q
    exact ⟨headO_leaf hf.2.1 h0 hn (sub_head s n (by omega)), trivial⟩))
  clear hf
  obtain ⟨a0, a1, a2, a3, a4, a5, a6, az⟩ := hr.1
  go_enter Try.func55, Try.ntmps55
  go_wp2_with (go_at_call 67; refine (leaf_any _ _ (by simp; omega)).mono ?_; rintro _ w' ⟨t', rfl, hR, hQ, hb⟩)
  go_ret
  exact ⟨_, rfl, hR, HQ.out _ hQ, hb⟩
theorem tail_leaf (b n : Nat) (s : ByteArray) (w : World) (hr : Rep w (.leaf b s)) (hf : Fine (.leaf b s)) (h0 : 0 < n) (hn : n < s.size) :
    Calls Try.prog 56 #[ptr b, .int .i64 n] w (Out (TailT (.leaf b s) n) w) := by
  have hs : s.size ≤ 100000 := hf.2.2
  have HQ := Lib.hid (fun (t : T) (q : ∃ c, t = .leaf c (s.extract n s.size)) => (show TailT (.leaf b s) n t by
    obtain ⟨c, rfl⟩ := q
    exact ⟨tailO_leaf hf.2.1 h0 hn (sz_drop s n), trivial⟩))
  clear hf
  obtain ⟨a0, a1, a2, a3, a4, a5, a6, az⟩ := hr.1
  go_enter Try.func56, Try.ntmps56
  go_wp2_with (go_at_call 67; refine (leaf_any _ _ (by simp; omega)).mono ?_; rintro _ w' ⟨t', rfl, hR, hQ, hb⟩)
  go_ret
  exact ⟨_, rfl, hR, HQ.out _ hQ, hb⟩

theorem up_head {v0 v1 v2 : Value} {b0 b1 : Nat} {L : List T} {w0 w w' : World} (h : w.cell? ⟨b0, 0, none⟩ = some (v0) ∧ w.cell? ⟨b0, 1, none⟩ = some (v1) ∧ w.cell? ⟨b1, 3, none⟩ = some (v2) ∧ b0 < w.heap.size ∧ b1 < w.heap.size ∧ Kp L w0 w) (hb : Below w.heap.size w w') : w'.cell? ⟨b0, 0, none⟩ = some (v0) ∧ w'.cell? ⟨b0, 1, none⟩ = some (v1) ∧ w'.cell? ⟨b1, 3, none⟩ = some (v2) ∧ b0 < w'.heap.size ∧ b1 < w'.heap.size ∧ Kp L w0 w' := by
  obtain ⟨h0, h1, h2, z0, z1, K⟩ := h
  exact ⟨(hb.cell (p := ⟨b0, 0, none⟩) z0).trans h0, (hb.cell (p := ⟨b0, 1, none⟩) z0).trans h1, (hb.cell (p := ⟨b1, 3, none⟩) z1).trans h2, Nat.lt_of_lt_of_le z0 hb.size, Nat.lt_of_lt_of_le z1 hb.size, K.up hb⟩
theorem up_head_k {v0 v1 v2 : Value} {b0 b1 : Nat} {L : List T} {w0 w : World} (h : w.cell? ⟨b0, 0, none⟩ = some (v0) ∧ w.cell? ⟨b0, 1, none⟩ = some (v1) ∧ w.cell? ⟨b1, 3, none⟩ = some (v2) ∧ b0 < w.heap.size ∧ b1 < w.heap.size ∧ Kp L w0 w) : Kp L w0 w := h.2.2.2.2.2

theorem head_left (k : Nat) (ih : HeadAt k) (tb n : Nat) (l r : T) (w : World) (hk : l.size + r.size ≤ k + 1) (hr : Rep w (.fork tb l r)) (hf : Fine (.fork tb l r)) (h0 : 0 < n) (hn : n ≤ l.size) (hn2 : n < l.size + r.size) :
    Calls Try.prog 55 #[ptr tb, .int .i64 n] w (Out (HeadT (.fork tb l r) n) w) := by
  have HQ := Lib.hid (fun (t : T) (q : HeadT l n t) => (show HeadT (.fork tb l r) n t from ⟨headO_left hf.2.1 (by rw [← T.size_eq]; exact hn) q.1, q.2⟩))
  have hs : l.size + r.size ≤ 100000 := hf.2.2
  have hih := Lib.hid (fun (wz : World) (r1 : Rep wz l) => ih l n wz (by have := hf.kids.2.2.2; omega) r1 hf.kids.1 h0 hn)
  clear ih hf hk
  obtain ⟨⟨a0, a1, a2, a3, a4, a5, a6, az⟩, hl, hrr⟩ := hr
  obtain ⟨pl, ql, sl, l0, l1, l2, l3, l4, l5, l6, lz⟩ := hl.node
  have hl' := Lib.hid hl
  clear hl hrr
  clear l0 l1 l2 l4 l5 l6
  go_enter Try.func55, Try.ntmps55
  go_wp2_with (go_at_call 55; refine (hih.out _ hl'.out).mono ?_; rintro _ w' ⟨t', rfl, hR, hQ, hb⟩)
  go_ret
  exact ⟨_, rfl, hR, HQ.out _ hQ, hb⟩
set_option maxHeartbeats 4000000 in
set_option maxRecDepth 100000 in
theorem head_right (k : Nat) (ih : HeadAt k) (il : LinkAt k) (tb n : Nat) (l r : T) (w : World) (hk : l.size + r.size ≤ k + 1) (hr : Rep w (.fork tb l r)) (hf : Fine (.fork tb l r)) (hn : l.size < n) (hn2 : n < l.size + r.size) :
    Calls Try.prog 55 #[ptr tb, .int .i64 n] w (Out (HeadT (.fork tb l r) n) w) := by
  have hs : l.size + r.size ≤ 100000 := hf.2.2
  obtain ⟨m, hm⟩ : ∃ m, n = l.size + m := ⟨n - l.size, by omega⟩
  have HQ := Lib.hid (fun (t1 t : T) (q1 : HeadT r m t1) (q : LinkT l t1 t) => (show HeadT (.fork tb l r) n t from ⟨headO_right hf.2.1 (by rw [← T.size_eq]; exact hn) (by rw [← T.size_eq, show n - l.size = m by omega]; exact q1.1) q.1 q.2.2, q.2.1⟩))
  have hih := Lib.hid (fun (wz : World) (r1 : Rep wz r) => ih r m wz (by have := hf.kids.2.2.1; omega) r1 hf.kids.2.1 (by omega) (by omega))
  have hil := Lib.hid (fun (t1 : T) (wz : World) (q1 : HeadT r m t1) (r1 : Rep wz l) (r2 : Rep wz t1) => il l t1 wz (by have := (fine_head q1 (by omega) (by omega)).2; omega) r1 r2 hf.kids.1 (fine_head q1 (by omega) (by omega)).1)
  have hlp := hf.kids.2.2.1
  clear ih il hf hk
  obtain ⟨⟨a0, a1, a2, a3, a4, a5, a6, az⟩, hl, hrr⟩ := hr
  obtain ⟨pl, ql, sl, l0, l1, l2, l3, l4, l5, l6, lz⟩ := hl.node
  have hK := Lib.hid (Kp.start (w := w) (L := [l, r]) (by intro t ht; simp at ht; rcases ht with rfl | rfl <;> assumption))
  clear hl hrr
  clear l0 l1 l2 l4 l5 l6
  have s1 : IntKind.i64.wrap ((n : Int) - (l.size : Int)) = (m : Int) := by rw [IntWalk.i64_in _ (by omega)]; omega
  have s1' := Lib.hid s1
  clear s1
  have hm' := Lib.hid hm
  clear hm
  go_enter Try.func55, Try.ntmps55
  go_wp2_with fail
  have s1 := s1'.out
  go_region_held3 (fun w' => w'.cell? ⟨tb, 0, none⟩ = some (ptr l.blk) ∧ w'.cell? ⟨tb, 1, none⟩ = some (ptr r.blk) ∧ w'.cell? ⟨l.blk, 3, none⟩ = some (.int .i64 l.size) ∧ tb < w'.heap.size ∧ l.blk < w'.heap.size ∧ Kp [l, r] w w')
    (first | assumption | exact ⟨a0, a1, l3, az, lz, hK.out.drew⟩ | exact up_head (by assumption) hb | exact up_head (by assumption) ((Below.refl _ _).alloc (Nat.le_refl _) _))
    (first | (go_at_call 55; refine (hih.out _ (by first | assumption | exact Rep.below (by assumption) (by assumption) | exact Kp.rep (up_head_k (by assumption)) (by simp))).mono ?_; rintro _ w' ⟨t', rfl, hR, hQ, hb⟩) | (go_at_call 57; refine (hil.out _ _ (by assumption) (by first | assumption | exact Rep.below (by assumption) (by assumption) | exact Kp.rep (up_head_k (by assumption)) (by simp)) (by first | assumption | exact Rep.below (by assumption) (by assumption) | exact Kp.rep (up_head_k (by assumption)) (by simp))).mono ?_; rintro _ w' ⟨t', rfl, hR, hQ, hb⟩))
  all_goals
    clear s1
    go_wp2
    go_ret
    exact ⟨_, rfl, hR, HQ.out _ _ (by assumption) hQ, (up_head_k (by assumption)).2⟩
theorem tail_right (k : Nat) (ih : TailAt k) (tb n : Nat) (l r : T) (w : World) (hk : l.size + r.size ≤ k + 1) (hr : Rep w (.fork tb l r)) (hf : Fine (.fork tb l r)) (h0 : 0 < n) (hn : l.size ≤ n) (hn2 : n < l.size + r.size) :
    Calls Try.prog 56 #[ptr tb, .int .i64 n] w (Out (TailT (.fork tb l r) n) w) := by
  have hs : l.size + r.size ≤ 100000 := hf.2.2
  obtain ⟨m, hm⟩ : ∃ m, n = l.size + m := ⟨n - l.size, by omega⟩
  have HQ := Lib.hid (fun (t : T) (q : TailT r m t) => (show TailT (.fork tb l r) n t from ⟨tailO_right hf.2.1 (by rw [← T.size_eq]; exact hn) (by rw [← T.size_eq, show n - l.size = m by omega]; exact q.1), q.2⟩))
  have hih := Lib.hid (fun (wz : World) (r1 : Rep wz r) => ih r m wz (by have := hf.kids.2.2.1; omega) r1 hf.kids.2.1 (by omega))
  clear ih hf hk
  obtain ⟨⟨a0, a1, a2, a3, a4, a5, a6, az⟩, hl, hrr⟩ := hr
  obtain ⟨pl, ql, sl, l0, l1, l2, l3, l4, l5, l6, lz⟩ := hl.node
  have hK := Lib.hid (Kp.start (w := w) (L := [l, r]) (by intro t ht; simp at ht; rcases ht with rfl | rfl <;> assumption))
  clear hl hrr
  clear l0 l1 l2 l4 l5 l6
  have s1 : IntKind.i64.wrap ((n : Int) - (l.size : Int)) = (m : Int) := by rw [IntWalk.i64_in _ (by omega)]; omega
  have s1' := Lib.hid s1
  clear s1
  have hm' := Lib.hid hm
  clear hm
  go_enter Try.func56, Try.ntmps56
  go_wp2_with fail
  have s1 := s1'.out
  go_region_held3 (fun w' => w'.cell? ⟨tb, 0, none⟩ = some (ptr l.blk) ∧ w'.cell? ⟨tb, 1, none⟩ = some (ptr r.blk) ∧ w'.cell? ⟨l.blk, 3, none⟩ = some (.int .i64 l.size) ∧ tb < w'.heap.size ∧ l.blk < w'.heap.size ∧ Kp [l, r] w w')
    (first | assumption | exact ⟨a0, a1, l3, az, lz, hK.out.drew⟩ | exact up_head (by assumption) hb | exact up_head (by assumption) ((Below.refl _ _).alloc (Nat.le_refl _) _))
    (first | (go_at_call 56; refine (hih.out _ (by first | assumption | exact Rep.below (by assumption) (by assumption) | exact Kp.rep (up_head_k (by assumption)) (by simp))).mono ?_; rintro _ w' ⟨t', rfl, hR, hQ, hb⟩))
  all_goals
    clear s1
    go_wp2
    go_ret
    exact ⟨_, rfl, hR, HQ.out _ hQ, (up_head_k (by assumption)).2⟩
set_option maxHeartbeats 4000000 in
set_option maxRecDepth 100000 in
theorem tail_left (k : Nat) (ih : TailAt k) (il : LinkAt k) (tb n : Nat) (l r : T) (w : World) (hk : l.size + r.size ≤ k + 1) (hr : Rep w (.fork tb l r)) (hf : Fine (.fork tb l r)) (h0 : 0 < n) (hn : n < l.size) :
    Calls Try.prog 56 #[ptr tb, .int .i64 n] w (Out (TailT (.fork tb l r) n) w) := by
  have hs : l.size + r.size ≤ 100000 := hf.2.2
  have HQ := Lib.hid (fun (t1 t : T) (q1 : TailT l n t1) (q : LinkT t1 r t) => (show TailT (.fork tb l r) n t from ⟨tailO_left hf.2.1 (by rw [← T.size_eq]; exact hn) q1.1 q.1 q.2.2, q.2.1⟩))
  have hih := Lib.hid (fun (wz : World) (r1 : Rep wz l) => ih l n wz (by have := hf.kids.2.2.2; omega) r1 hf.kids.1 hn)
  have hil := Lib.hid (fun (t1 : T) (wz : World) (q1 : TailT l n t1) (r1 : Rep wz t1) (r2 : Rep wz r) => il t1 r wz (by have := (fine_tail q1 (by omega)).2; omega) r1 r2 (fine_tail q1 (by omega)).1 hf.kids.2.1)
  have hrp := hf.kids.2.2.2
  clear ih il hf hk
  obtain ⟨⟨a0, a1, a2, a3, a4, a5, a6, az⟩, hl, hrr⟩ := hr
  obtain ⟨pl, ql, sl, l0, l1, l2, l3, l4, l5, l6, lz⟩ := hl.node
  have hK := Lib.hid (Kp.start (w := w) (L := [l, r]) (by intro t ht; simp at ht; rcases ht with rfl | rfl <;> assumption))
  clear hl hrr
  clear l0 l1 l2 l4 l5 l6
  go_enter Try.func56, Try.ntmps56
  go_wp2_with fail
  go_region_held3 (fun w' => w'.cell? ⟨tb, 0, none⟩ = some (ptr l.blk) ∧ w'.cell? ⟨tb, 1, none⟩ = some (ptr r.blk) ∧ w'.cell? ⟨l.blk, 3, none⟩ = some (.int .i64 l.size) ∧ tb < w'.heap.size ∧ l.blk < w'.heap.size ∧ Kp [l, r] w w')
    (first | assumption | exact ⟨a0, a1, l3, az, lz, hK.out.drew⟩ | exact up_head (by assumption) hb | exact up_head (by assumption) ((Below.refl _ _).alloc (Nat.le_refl _) _))
    (first | (go_at_call 56; refine (hih.out _ (by first | assumption | exact Rep.below (by assumption) (by assumption) | exact Kp.rep (up_head_k (by assumption)) (by simp))).mono ?_; rintro _ w' ⟨t', rfl, hR, hQ, hb⟩) | (go_at_call 57; refine (hil.out _ _ (by assumption) (by first | assumption | exact Rep.below (by assumption) (by assumption) | exact Kp.rep (up_head_k (by assumption)) (by simp)) (by first | assumption | exact Rep.below (by assumption) (by assumption) | exact Kp.rep (up_head_k (by assumption)) (by simp))).mono ?_; rintro _ w' ⟨t', rfl, hR, hQ, hb⟩))
  all_goals
    go_wp2
    go_ret
    exact ⟨_, rfl, hR, HQ.out _ _ (by assumption) hQ, (up_head_k (by assumption)).2⟩

end Go.Proofs.Ytagjeckgfjddmaa
