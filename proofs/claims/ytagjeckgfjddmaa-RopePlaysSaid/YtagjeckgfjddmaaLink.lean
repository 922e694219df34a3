/- link; and all three: what they make. -/
import Derived.Test.YtagjeckgfjddmaaCut
namespace Go.Proofs.Ytagjeckgfjddmaa
set_option linter.unusedSimpArgs false
set_option linter.unusedVariables false
open Go.RowKit

theorem head_opt (k : Nat) (ih : HeadAt k) (t : T) (n : Nat) (w : World) (hk : t.size ≤ k) (hr : Rep w t) (hf : Fine t) (hn : n ≤ t.size) :
    Calls Try.prog 55 #[ptr t.blk, .int .i64 n] w (OutO (fun o => HeadO t.leaves n (lvs o) ∧ balO o) w) := by
  by_cases h0 : n = 0
  · subst h0
    exact (head_zero t.blk 0 w (by omega)).mono fun _ _ ⟨h1, h2⟩ => by subst h2; exact ⟨none, h1, trivial, ⟨headO_none hf.2.1, trivial⟩, Below.refl _ _⟩
  · exact (ih t n w hk hr hf (by omega) hn).mono fun _ _ ⟨u, h1, h2, h3, h4⟩ => ⟨some u, h1, h2, h3, h4⟩
theorem tail_opt (k : Nat) (ih : TailAt k) (t : T) (n : Nat) (w : World) (hk : t.size ≤ k) (hr : Rep w t) (hf : Fine t) (hn : n ≤ t.size) :
    Calls Try.prog 56 #[ptr t.blk, .int .i64 n] w (OutO (fun o => TailO t.leaves n (lvs o) ∧ balO o) w) := by
  by_cases h0 : n = t.size
  · subst h0
    have hp := Good.tree hf.2.1
    exact (tail_end t t.size w hr hp (Nat.le_refl _)).mono fun _ _ ⟨h1, h2⟩ => by subst h2; exact ⟨none, h1, trivial, ⟨by rw [T.size_eq]; exact tailO_none hf.2.1, trivial⟩, Below.refl _ _⟩
  · exact (ih t n w hk hr hf (by omega)).mono fun _ _ ⟨u, h1, h2, h3, h4⟩ => ⟨some u, h1, h2, h3, h4⟩

/-- These trees lie there, and one that may be nothing. -/
def KpO (o : Option T) (L : List T) (w0 w : World) : Prop := RepO w o ∧ Kp L w0 w
theorem KpO.mk {o : Option T} {L : List T} {w0 w : World} (h : Kp L w0 w) (h2 : RepO w o) : KpO o L w0 w := ⟨h2, h⟩
theorem KpO.up {o : Option T} {L : List T} {w0 w w' : World} (h : KpO o L w0 w) (hb : Below w.heap.size w w') : KpO o L w0 w' := ⟨h.1.below hb, h.2.up hb⟩
theorem KpO.drew {o : Option T} {L : List T} {w0 w : World} (h : KpO o L w0 w) : KpO o L w0 w.drew := h.up (Below.refl _ _).drew
theorem KpO.rep {o : Option T} {L : List T} {w0 w : World} {t : T} (h : KpO o L w0 w) (ht : t ∈ L) : Rep w t := h.2.1 t ht
/-- These are its leaves, and it is balanced. -/
def IsL (l : List Lf) (o : Option T) : Prop := lvs o = l ∧ balO o
def Small (l m : List Lf) : Prop := total l + total m ≤ 1000000 ∧ l.length + m.length ≤ 300000
theorem join_is (l m : List Lf) (a b : Option T) (w : World) (qa : IsL l a) (qb : IsL m b) (hs : Small l m) (ha : RepO w a) (hb : RepO w b) :
    Calls Try.prog 73 #[topPtr a, topPtr b] w (OutO (IsL (l ++ m)) w) := by
  obtain ⟨rfl, qa⟩ := qa
  obtain ⟨rfl, qb⟩ := qb
  exact join_any a b w ha hb qa qb hs.1 hs.2
def Three (pa : List Lf) (x y : ByteArray) (pb : List Lf) (t : T) : Prop := ∃ n, t.leaves = pa ++ (n, x ++ y) :: pb ∧ t.bal

set_option maxHeartbeats 4000000 in
set_option maxRecDepth 100000 in
theorem link_join (a b : T) (xb yb : Nat) (xs ys : ByteArray) (pa pb : List Lf) (w : World) (ha : Rep w a) (hb : Rep w b) (fa : Fine a) (fb : Fine b) (hla : a.leaves = pa ++ [(xb, xs)]) (hlb : b.leaves = (yb, ys) :: pb) (h : 64 < xs.size + ys.size) :
    Calls Try.prog 57 #[ptr a.blk, ptr b.blk] w (Out (LinkT a b) w) := by
  have hax : Rep w (.leaf xb xs) := ha.leafOf (x := (xb, xs)) (by rw [hla]; simp)
  have hby : Rep w (.leaf yb ys) := hb.leafOf (x := (yb, ys)) (by rw [hlb]; simp)
  have hx64 := fa.2.1.pos (xb, xs) (by rw [hla]; simp)
  have hy64 := fb.2.1.pos (yb, ys) (by rw [hlb]; simp)
  have HQ := Lib.hid (fun (t : T) (q : Join a b t) => (show LinkT a b t from ⟨.inl q.1, q.2.1, by
    rw [q.1, Good.app_iff]
    refine ⟨fa.2.1, fb.2.1, fun x y h1 h2 => ?_⟩
    rw [hla] at h1; rw [hlb] at h2
    simp at h1 h2
    subst h1 h2
    exact h⟩))
  have hf1 := Lib.hid (fun wz (r : Rep wz a) => last_any a (xb, xs) pa wz r hla)
  have hf2 := Lib.hid (fun wz (r : Rep wz b) => first_any b (yb, ys) pb wz r hlb)
  have hj := Lib.hid (fun wz (r1 : Rep wz a) (r2 : Rep wz b) => join_some a b wz r1 r2 fa.1 fb.1 (by have := fa.2.2; have := fb.2.2; omega) (by
    have h1 := fa.2.1.len_le; rw [← T.size_eq] at h1; have h2 := fb.2.1.len_le; rw [← T.size_eq] at h2; have := fa.2.2; have := fb.2.2; have e1 := fa.len; have e2 := fb.len; omega))
  obtain ⟨x0, x1, x2, x3, x4, x5, x6, xz⟩ := hax.1
  obtain ⟨y0, y1, y2, y3, y4, y5, y6, yz⟩ := hby.1
  have hK := Lib.hid (Kp.start (w := w) (L := [a, b]) (by intro t ht; simp at ht; rcases ht with rfl | rfl <;> assumption))
  have hx : xs.size ≤ 64 := hx64.2
  have hy : ys.size ≤ 64 := hy64.2
  clear ha hb fa fb hla hlb hx64 hy64
  have s1 := IntWalk.i64_in ((xs.size : Int) + ys.size) (by omega)
  have d1 : decide ((64 : Int) < (xs.size : Int) + ys.size) = true := by simp; omega
  clear x0 x1 x2 x4 x5 x6
  clear y0 y1 y2 y4 y5 y6
  go_enter Try.func57, Try.ntmps57
  go_wp2_with fail
  refine (hf1.out _ (hK.out.rep (by simp))).mono ?_
  rintro _ _ ⟨rfl, rfl⟩
  go_wp2_with fail
  refine (hf2.out _ (hK.out.rep (by simp))).mono ?_
  rintro _ _ ⟨rfl, rfl⟩
  go_wp2_with fail
  go_quiet (fail)
  clear s1 d1
  go_wp2_with fail
  refine (hj.out _ ((hK.out.drewN _).rep (by simp)) ((hK.out.drewN _).rep (by simp))).mono ?_
  rintro _ w' ⟨t', rfl, hR, hQ, hb⟩
  go_wp2
  go_ret
  exact ⟨_, rfl, hR, HQ.out _ hQ, ((hK.out.drewN _).up hb).2⟩

theorem up_txt {v0 v1 : Value} {b0 b1 : Nat} {L : List T} {w0 w w' : World} (h : w.cell? ⟨b0, 2, none⟩ = some (v0) ∧ w.cell? ⟨b1, 2, none⟩ = some (v1) ∧ b0 < w.heap.size ∧ b1 < w.heap.size ∧ Kp L w0 w) (hb : Below w.heap.size w w') : w'.cell? ⟨b0, 2, none⟩ = some (v0) ∧ w'.cell? ⟨b1, 2, none⟩ = some (v1) ∧ b0 < w'.heap.size ∧ b1 < w'.heap.size ∧ Kp L w0 w' := by
  obtain ⟨h0, h1, z0, z1, K⟩ := h
  exact ⟨(hb.cell (p := ⟨b0, 2, none⟩) z0).trans h0, (hb.cell (p := ⟨b1, 2, none⟩) z1).trans h1, Nat.lt_of_lt_of_le z0 hb.size, Nat.lt_of_lt_of_le z1 hb.size, K.up hb⟩
theorem up_txt_k {v0 v1 : Value} {b0 b1 : Nat} {L : List T} {w0 w : World} (h : w.cell? ⟨b0, 2, none⟩ = some (v0) ∧ w.cell? ⟨b1, 2, none⟩ = some (v1) ∧ b0 < w.heap.size ∧ b1 < w.heap.size ∧ Kp L w0 w) : Kp L w0 w := h.2.2.2.2
theorem up_lk {v0 v1 v2 : Value} {b0 b1 b2 : Nat} {o : Option T} {L : List T} {w0 w w' : World} (h : w.cell? ⟨b0, 3, none⟩ = some (v0) ∧ w.cell? ⟨b1, 3, none⟩ = some (v1) ∧ w.cell? ⟨b2, 3, none⟩ = some (v2) ∧ b0 < w.heap.size ∧ b1 < w.heap.size ∧ b2 < w.heap.size ∧ KpO o L w0 w) (hb : Below w.heap.size w w') : w'.cell? ⟨b0, 3, none⟩ = some (v0) ∧ w'.cell? ⟨b1, 3, none⟩ = some (v1) ∧ w'.cell? ⟨b2, 3, none⟩ = some (v2) ∧ b0 < w'.heap.size ∧ b1 < w'.heap.size ∧ b2 < w'.heap.size ∧ KpO o L w0 w' := by
  obtain ⟨h0, h1, h2, z0, z1, z2, K⟩ := h
  exact ⟨(hb.cell (p := ⟨b0, 3, none⟩) z0).trans h0, (hb.cell (p := ⟨b1, 3, none⟩) z1).trans h1, (hb.cell (p := ⟨b2, 3, none⟩) z2).trans h2, Nat.lt_of_lt_of_le z0 hb.size, Nat.lt_of_lt_of_le z1 hb.size, Nat.lt_of_lt_of_le z2 hb.size, K.up hb⟩
theorem up_lk_k {v0 v1 v2 : Value} {b0 b1 b2 : Nat} {o : Option T} {L : List T} {w0 w : World} (h : w.cell? ⟨b0, 3, none⟩ = some (v0) ∧ w.cell? ⟨b1, 3, none⟩ = some (v1) ∧ w.cell? ⟨b2, 3, none⟩ = some (v2) ∧ b0 < w.heap.size ∧ b1 < w.heap.size ∧ b2 < w.heap.size ∧ KpO o L w0 w) : KpO o L w0 w := h.2.2.2.2.2.2
set_option maxHeartbeats 4000000 in
set_option maxRecDepth 100000 in
theorem link_one (k : Nat) (ih : HeadAt k) (it : TailAt k) (a b : T) (xb yb : Nat) (xs ys : ByteArray) (pa pb : List Lf) (w : World) (hk : a.size + b.size ≤ k + 1) (ha : Rep w a) (hb : Rep w b) (fa : Fine a) (fb : Fine b) (hla : a.leaves = pa ++ [(xb, xs)]) (hlb : b.leaves = (yb, ys) :: pb) (h : xs.size + ys.size ≤ 64) :
    Calls Try.prog 57 #[ptr a.blk, ptr b.blk] w (Out (LinkT a b) w) := by
  have hax : Rep w (.leaf xb xs) := ha.leafOf (x := (xb, xs)) (by rw [hla]; simp)
  have hby : Rep w (.leaf yb ys) := hb.leafOf (x := (yb, ys)) (by rw [hlb]; simp)
  have hx64 := fa.2.1.pos (xb, xs) (by rw [hla]; simp)
  have hy64 := fb.2.1.pos (yb, ys) (by rw [hlb]; simp)
  have HQ := Lib.hid (fun (t : T) (q : Three pa xs ys pb t) => (show LinkT a b t by
    obtain ⟨n, q1, q2⟩ := q
    refine ⟨.inr ⟨pa, (xb, xs), (yb, ys), pb, n, hla, hlb, h, q1⟩, q2, ?_⟩
    rw [q1]
    have g1 := fa.2.1; rw [hla] at g1
    have g2 := fb.2.1; rw [hlb] at g2
    exact link_good g1 g2 h))
  have sa : a.size = total pa + xs.size := by rw [T.size_eq, hla, total_app]; simp [total]
  have sb : b.size = ys.size + total pb := by rw [T.size_eq, hlb, total_cons]
  have ap := Good.tree fa.2.1
  have bp := Good.tree fb.2.1
  have lpa : pa.length ≤ 100000 := by have := fa.len; rw [hla, List.length_append] at this; omega
  have lpb : pb.length ≤ 100000 := by have := fb.len; rw [hlb, List.length_cons] at this; omega
  have hsz := fa.2.2
  have hsz2 := fb.2.2
  have hf1 := Lib.hid (fun wz (r : Rep wz a) => last_any a (xb, xs) pa wz r hla)
  have hf2 := Lib.hid (fun wz (r : Rep wz b) => first_any b (yb, ys) pb wz r hlb)
  have hhd := Lib.hid (fun wz (r : Rep wz a) => (head_opt k ih a (total pa) wz (by omega) r fa (by omega)).mono fun e w' (q : OutO _ wz e w') => (show OutO (IsL pa) wz e w' by
    obtain ⟨o, q1, q2, q3, q4⟩ := q; exact ⟨o, q1, q2, ⟨q3.1.2.2.2 pa [(xb, xs)] hla rfl, q3.2⟩, q4⟩))
  have htl := Lib.hid (fun wz (r : Rep wz b) => (tail_opt k it b ys.size wz (by omega) r fb (by omega)).mono fun e w' (q : OutO _ wz e w') => (show OutO (IsL pb) wz e w' by
    obtain ⟨o, q1, q2, q3, q4⟩ := q; exact ⟨o, q1, q2, ⟨q3.1.2.2.2 [(yb, ys)] pb (by rw [hlb]; rfl) (by simp [total]), q3.2⟩, q4⟩))
  have hlf := Lib.hid (fun wz => (leaf_any (xs ++ ys) wz (by rw [ba_size]; omega)).mono fun e w' (q : Out _ wz e w') => (show OutO (fun o => ∃ c, IsL [(c, xs ++ ys)] o) wz e w' by
    obtain ⟨u, q1, q2, ⟨c, rfl⟩, q4⟩ := q
    exact ⟨some (.leaf c (xs ++ ys)), q1, q2, ⟨c, rfl, trivial⟩, q4⟩))
  have HS := Lib.hid (fun (c : Nat) => (show Small pa [(c, xs ++ ys)] ∧ Small (pa ++ [(c, xs ++ ys)]) pb by
    simp only [Small, total_app, total_cons, total_nil, ba_size, List.length_append, List.length_cons, List.length_nil]; omega))
  have HF := Lib.hid (fun (c : Nat) (o : Option T) (q : IsL (pa ++ [(c, xs ++ ys)] ++ pb) o) => (show ∃ t, o = some t ∧ LinkT a b t by
    cases o with
    | none => have := q.1; simp [lvs] at this
    | some t => exact ⟨t, rfl, HQ.out t ⟨c, by have := q.1; simpa [lvs] using this, q.2⟩⟩))
  obtain ⟨x0, x1, x2, x3, x4, x5, x6, xz⟩ := hax.1
  obtain ⟨y0, y1, y2, y3, y4, y5, y6, yz⟩ := hby.1
  obtain ⟨p_a, q_a, s_a, a0, a1, a2, a3, a4, a5, a6, az⟩ := ha.node
  have hK := Lib.hid (Kp.start (w := w) (L := [a, b]) (by intro t ht; simp at ht; rcases ht with rfl | rfl <;> assumption))
  have s2 : IntKind.i64.wrap ((a.size : Int) - (xs.size : Int)) = ((total pa : Nat) : Int) := by rw [IntWalk.i64_in _ (by omega)]; omega
  have s2' := Lib.hid s2
  have hx : xs.size ≤ 64 := hx64.2
  have hy : ys.size ≤ 64 := hy64.2
  clear ha hb fa fb hla hlb hx64 hy64 ih it hk sa sb s2 HQ ap bp
  have s1 := IntWalk.i64_in ((xs.size : Int) + ys.size) (by omega)
  have d1 : decide ((64 : Int) < (xs.size : Int) + ys.size) = false := by simp; omega
  clear x0 x1 x4 x5 x6
  clear y0 y1 y4 y5 y6
  clear a0 a1 a2 a4 a5 a6
  go_enter Try.func57, Try.ntmps57
  go_wp2_with fail
  refine (hf1.out _ (hK.out.rep (by simp))).mono ?_
  rintro _ _ ⟨rfl, rfl⟩
  go_wp2_with fail
  refine (hf2.out _ (hK.out.rep (by simp))).mono ?_
  rintro _ _ ⟨rfl, rfl⟩
  go_wp2_with fail
  go_quiet (fail)
  clear s1 d1
  go_wp2_with fail
  have hsum : ¬ 9223372036854775807 < xs.size + ys.size := by omega
  go_region_held3 (fun w' => w'.cell? ⟨xb, 2, none⟩ = some (.string xs) ∧ w'.cell? ⟨yb, 2, none⟩ = some (.string ys) ∧ xb < w'.heap.size ∧ yb < w'.heap.size ∧ Kp [a, b] w w')
    (first | assumption | exact ⟨x2, y2, xz, yz, (hK.out.drewN _).drew⟩ | exact up_txt (by assumption) hb | exact up_txt (by assumption) ((Below.refl _ _).alloc (Nat.le_refl _) _))
    (first | (go_at_call 67; refine (hlf.out _).mono ?_; rintro _ w' ⟨both, rfl, hR, ⟨c, hQ⟩, hb⟩))
  all_goals
    have hU := Lib.hid hQ
    have hK6 := Lib.hid (up_txt_k (by assumption))
    have z3 := (hK6.out.2.cell (p := ⟨xb, 3, none⟩) xz).trans x3
    have z4 := (hK6.out.2.cell (p := ⟨yb, 3, none⟩) yz).trans y3
    have z5 := (hK6.out.2.cell (p := ⟨a.blk, 3, none⟩) az).trans a3
    have z6 := Nat.lt_of_lt_of_le xz hK6.out.2.size
    have z7 := Nat.lt_of_lt_of_le yz hK6.out.2.size
    have z8 := Nat.lt_of_lt_of_le az hK6.out.2.size
    have hs1 := (HS.out c).1
    have hs2 := (HS.out c).2
    have hfin := Lib.hid (HF.out c)
    have hK7 := Lib.hid (KpO.mk (o := both) hK6.out hR)
    clear x2 x3 y2 y3 a3 hb hR hK6 hK HS HF hsum
    obtain ⟨l1, hl1⟩ : ∃ l1, [(c, xs ++ ys)] = l1 := ⟨_, rfl⟩
    rw [hl1] at hs1 hs2 hfin hQ
    clear hl1
    go_wp2_with fail
    have s2 := s2'.out
    go_region_held3 (fun w' => w'.cell? ⟨a.blk, 3, none⟩ = some (.int .i64 a.size) ∧ w'.cell? ⟨xb, 3, none⟩ = some (.int .i64 xs.size) ∧ w'.cell? ⟨yb, 3, none⟩ = some (.int .i64 ys.size) ∧ a.blk < w'.heap.size ∧ xb < w'.heap.size ∧ yb < w'.heap.size ∧ KpO both [a, b] w w')
      (first | assumption | exact ⟨z5, z3, z4, z8, z6, z7, hK7.out.drew⟩ | exact up_lk (by assumption) hb | exact up_lk (by assumption) ((Below.refl _ _).alloc (Nat.le_refl _) _))
      (first | (go_at_call 55; refine (hhd.out _ (by first | assumption | exact Rep.below (by assumption) (by assumption) | exact Rep.below (by assumption) (Below.trans (by assumption) ((by assumption : Below _ _ _).mono (by assumption))) | exact KpO.rep (up_lk_k (by assumption)) (by simp))).mono ?_; rintro _ w' ⟨o', rfl, hR, hQ', hb⟩) | (go_at_call 56; refine (htl.out _ (by first | assumption | exact Rep.below (by assumption) (by assumption) | exact Rep.below (by assumption) (Below.trans (by assumption) ((by assumption : Below _ _ _).mono (by assumption))) | exact KpO.rep (up_lk_k (by assumption)) (by simp))).mono ?_; rintro _ w' ⟨o', rfl, hR, hQ', hb⟩) | (go_at_call 73; refine (join_is _ _ _ _ _ (by assumption) (by assumption) (by assumption) (by first | assumption | exact (up_lk_k (by assumption)).1 | exact RepO.below (by assumption) (by assumption) | exact RepO.below (RepO.below (by assumption) (by assumption)) (by assumption)) (by first | assumption | exact (up_lk_k (by assumption)).1 | exact RepO.below (by assumption) (by assumption) | exact RepO.below (RepO.below (by assumption) (by assumption)) (by assumption))).mono ?_; rintro _ w' ⟨o', rfl, hR, hQ', hb⟩))
    all_goals
      clear s2
      go_wp2
      go_ret
      obtain ⟨t, rfl, ht⟩ := hfin.out _ hQ'
      exact ⟨t, rfl, hR, ht, (up_lk_k (by assumption)).2.2⟩


theorem all_at (k : Nat) : LinkAt k ∧ HeadAt k ∧ TailAt k := by
  induction k with
  | zero =>
    refine ⟨fun a b w hk ha hb fa fb => ?_, fun t n w hk hr hf h0 hn => ?_, fun t n w hk hr hf hn => ?_⟩
    · have := Good.tree fa.2.1; omega
    · omega
    · omega
  | succ k ih =>
    obtain ⟨il, ih, it⟩ := ih
    refine ⟨fun a b w hk ha hb fa fb => ?_, fun t n w hk hr hf h0 hn => ?_, fun t n w hk hr hf hn => ?_⟩
    · rcases List.eq_nil_or_concat a.leaves with h | ⟨pa, x, h⟩
      · exact absurd h a.leaves_ne
      · rw [List.concat_eq_append] at h
        cases h2 : b.leaves with
        | nil => exact absurd h2 b.leaves_ne
        | cons y pb =>
          by_cases h3 : 64 < x.2.size + y.2.size
          · exact link_join a b x.1 y.1 x.2 y.2 pa pb w ha hb fa fb h h2 h3
          · exact link_one k ih it a b x.1 y.1 x.2 y.2 pa pb w hk ha hb fa fb h h2 (by omega)
    · by_cases h : t.size ≤ n
      · have e : n = t.size := by omega
        exact (head_all t n w hr h0 h).mono fun _ _ ⟨h1, h2⟩ => by subst h2; exact ⟨t, h1, hr, ⟨headO_all hf.2.1 n (by rw [← T.size_eq]; omega), hf.1⟩, Below.refl _ _⟩
      · cases t with
        | leaf b s => exact head_leaf b n s w hr hf h0 (by simp only [T.size] at h; omega)
        | fork b l r =>
          simp only [T.size] at h hk
          by_cases h4 : n ≤ l.size
          · exact head_left k ih b n l r w hk hr hf h0 h4 (by omega)
          · exact head_right k ih il b n l r w hk hr hf (by omega) (by omega)
    · by_cases h : n = 0
      · subst h
        exact (tail_zero t.blk 0 w (by omega)).mono fun _ _ ⟨h1, h2⟩ => by subst h2; exact ⟨t, h1, hr, ⟨tailO_all hf.2.1, hf.1⟩, Below.refl _ _⟩
      · cases t with
        | leaf b s => exact tail_leaf b n s w hr hf (by omega) hn
        | fork b l r =>
          simp only [T.size] at hn hk
          by_cases h4 : l.size ≤ n
          · exact tail_right k it b n l r w hk hr hf (by omega) h4 hn
          · exact tail_left k it il b n l r w hk hr hf (by omega) (by omega)

/-- What head and tail leave of a tree that may be nothing, and link of two. -/
def FineO : Option T → Prop | none => True | some t => Fine t
theorem head_any (t : T) (n : Nat) (w : World) (hr : Rep w t) (hf : Fine t) (hn : n ≤ t.size) :
    Calls Try.prog 55 #[ptr t.blk, .int .i64 n] w (OutO (fun o => HeadO t.leaves n (lvs o) ∧ balO o) w) := head_opt t.size (all_at t.size).2.1 t n w (Nat.le_refl _) hr hf hn
theorem tail_any (t : T) (n : Nat) (w : World) (hr : Rep w t) (hf : Fine t) (hn : n ≤ t.size) :
    Calls Try.prog 56 #[ptr t.blk, .int .i64 n] w (OutO (fun o => TailO t.leaves n (lvs o) ∧ balO o) w) := tail_opt t.size (all_at t.size).2.2 t n w (Nat.le_refl _) hr hf hn
theorem link_some (a b : T) (w : World) (ha : Rep w a) (hb : Rep w b) (fa : Fine a) (fb : Fine b) : Calls Try.prog 57 #[ptr a.blk, ptr b.blk] w (Out (LinkT a b) w) := (all_at _).1 a b w (Nat.le_refl _) ha hb fa fb
theorem link_none (b : Option T) (w : World) (hb : RepO w b) : Calls Try.prog 57 #[.pointer none, topPtr b] w fun e w' => e = .returned (topPtr b) ∧ w = w' := by
  clear hb
  go_enter Try.func57, Try.ntmps57
  go_wp2_with (go_at_call 73; refine (join_none _ _).mono ?_; rintro _ _ ⟨rfl, rfl⟩)
  go_ret
  exact ⟨rfl, rfl⟩
theorem link_none2 (a : Nat) (w : World) : Calls Try.prog 57 #[ptr a, .pointer none] w fun e w' => e = .returned (ptr a) ∧ w = w' := by
  go_enter Try.func57, Try.ntmps57
  go_wp2_with (go_at_call 73; refine (join_none2 _ _).mono ?_; rintro _ _ ⟨rfl, rfl⟩)
  go_ret
  exact ⟨rfl, rfl⟩
theorem link_any (a b : Option T) (w : World) (ha : RepO w a) (hb : RepO w b) (fa : FineO a) (fb : FineO b) :
    Calls Try.prog 57 #[topPtr a, topPtr b] w (OutO (fun o => LinkO (lvs a) (lvs b) (lvs o) ∧ balO o ∧ Good (lvs o)) w) := by
  cases a with
  | none =>
    refine (link_none b w hb).mono ?_
    rintro _ _ ⟨rfl, rfl⟩
    refine ⟨b, rfl, hb, ⟨.inl (by simp [lvs]), ?_⟩, Below.refl _ _⟩
    cases b with
    | none => exact ⟨trivial, trivial⟩
    | some b => exact ⟨fb.1, fb.2.1⟩
  | some a =>
    cases b with
    | none => exact (link_none2 a.blk w).mono fun _ _ ⟨h1, h2⟩ => by subst h2; exact ⟨some a, h1, ha, ⟨.inl (by simp [lvs]), fa.1, fa.2.1⟩, Below.refl _ _⟩
    | some b => exact (link_some a b w ha hb fa fb).mono fun _ _ ⟨t, h1, h2, h3, h4⟩ => ⟨some t, h1, h2, ⟨h3.1, h3.2.1, h3.2.2⟩, h4⟩

end Go.Proofs.Ytagjeckgfjddmaa
