/- At of a rope: down to the leaf that has the place. -/
import Derived.Test.YtagjeckgfjddmaaOf2
namespace Go.Proofs.Ytagjeckgfjddmaa
set_option linter.unusedSimpArgs false
set_option linter.unusedVariables false
open Go.RowKit

/-- Whether a place is earlier than another one; a place in a text that begins at another one. -/
def earB (a b c d : Int) : Bool := decide (a < c ∨ (a = c ∧ b < d))
def sinL (a c : Int) : Int := if c = a then 0 else c - a
def sinC (a b c d : Int) : Int := if c = a then d - b else d
theorem earlier_any (a b c d : Int) (w : World) : Calls Try.prog 52 #[pl a b, pl c d] w fun r w' => r = .returned (.bool (earB a b c d)) ∧ Below w.heap.size w w' := by
  have hL := Lib.hid (((Below.refl w.heap.size w).alloc (Nat.le_refl _) (.cells #[.int .i64 a, .int .i64 b] 34)).alloc (by simp) (.cells #[.int .i64 c, .int .i64 d] 34))
  by_cases h : a = c
  · subst h
    have e : earB a b a d = decide (b < d) := by simp [earB]
    rw [e]
    have h1 : (a != a) = false := by simp
    clear e
    go_enter Try.func52, Try.ntmps52
    go_wp2
    go_ret
    exact ⟨rfl, hL.out⟩
  · have e : earB a b c d = decide (a < c) := by simp [earB, h]
    rw [e]
    have h1 : (a != c) = true := by simpa using h
    clear e h
    go_enter Try.func52, Try.ntmps52
    go_wp2
    go_ret
    exact ⟨rfl, hL.out⟩
theorem since_any (a b c d : Int) (w : World) (h0 : 0 ≤ a) (h1 : 0 ≤ b) (hc : c ≤ 9223372036854775807) (hd : d ≤ 9223372036854775807) (hd2 : -9223372036854775808 ≤ d) (h : earB c d a b = false) :
    Calls Try.prog 53 #[pl a b, pl c d] w fun r w' => r = .returned (pl (sinL a c) (sinC a b c d)) ∧ Below w.heap.size w w' := by
  have hL := Lib.hid ((((Below.refl w.heap.size w).alloc (Nat.le_refl _) (.cells #[.int .i64 a, .int .i64 b] 34)).alloc (by simp) (.cells #[.int .i64 c, .int .i64 d] 34)))
  simp only [earB, decide_eq_false_iff_not] at h
  by_cases e : c = a
  · subst e
    rw [show sinL c c = 0 by simp [sinL], show sinC c b c d = d - b by simp [sinC]]
    have t1 : (c == c) = true := by simp
    have n1 : b ≤ d := by omega
    clear h
    go_enter Try.func53, Try.ntmps53
    go_wp2
    refine bodyPost_ret (v := pl 0 (d - b)) (by simp [results, Try.results53, go_sem]) rfl ⟨rfl, ?_⟩
    exact (((Below.refl _ _).alloc (Nat.le_refl _) _).alloc (by simp) _).alloc (by simp; omega) _
  · rw [show sinL a c = c - a by simp [sinL, e], show sinC a b c d = d by simp [sinC, e]]
    have t1 : (c == a) = false := by simpa using e
    have n1 : a ≤ c := by omega
    clear h e
    go_enter Try.func53, Try.ntmps53
    go_wp2
    refine bodyPost_ret (v := pl (c - a) d) (by simp [results, Try.results53, go_sem]) rfl ⟨rfl, ?_⟩
    exact (((Below.refl _ _).alloc (Nat.le_refl _) _).alloc (by simp) _).alloc (by simp; omega) _

theorem atO_not {l : List UInt8} {L C : Int} (h : atO l L C = none) : ∀ n, n ≤ l.length → ¬ (((cntN (l.take n) : Nat) : Int) = L ∧ ((colN (l.take n) : Nat) : Int) = C) := by
  intro n hn hh
  have := atO_some l L C n hn hh.1 hh.2
  rw [h] at this; cases this
theorem at_early (l r : List UInt8) (L C : Int) (h : earB L C (cntN l) (colN l) = true) : atO (l ++ r) L C = atO l L C := by
  simp only [earB, decide_eq_true_eq] at h
  cases e : atO l L C with
  | some n =>
    obtain ⟨h1, h2, h3⟩ := atO_spec l L C n e
    exact atO_some _ L C n (by rw [List.length_append]; omega) (by rw [List.take_append_of_le_length h1]; exact h2) (by rw [List.take_append_of_le_length h1]; exact h3)
  | none =>
    refine atO_none _ L C fun n hn hh => ?_
    by_cases hl : n ≤ l.length
    · rw [List.take_append_of_le_length hl] at hh
      exact atO_not e n hl hh
    · have := rise_lt (l ++ r) l.length n (by omega) hn
      rw [List.take_left] at this
      omega
theorem at_late (l r : List UInt8) (L C : Int) (h : earB L C (cntN l) (colN l) = false) : atO (l ++ r) L C = (atO r (sinL (cntN l) L) (sinC (cntN l) (colN l) L C)).map (l.length + ·) := by
  simp only [earB, decide_eq_false_iff_not] at h
  have key : ∀ m, ((cntN ((l ++ r).take (l.length + m)) : Nat) : Int) = L ∧ ((colN ((l ++ r).take (l.length + m)) : Nat) : Int) = C ↔ ((cntN (r.take m) : Nat) : Int) = sinL (cntN l) L ∧ ((colN (r.take m) : Nat) : Int) = sinC (cntN l) (colN l) L C := by
    intro m
    rw [List.take_append, List.take_of_length_le (by omega), show l.length + m - l.length = m by omega, cnt_app, col_app]
    by_cases e : L = cntN l
    · rw [show sinL (cntN l) L = 0 by simp [sinL, e], show sinC (cntN l) (colN l) L C = C - colN l by simp [sinC, e]]
      constructor
      · rintro ⟨q1, q2⟩
        rw [if_pos (by omega)] at q2
        omega
      · rintro ⟨q1, q2⟩
        rw [if_pos (by omega)]
        omega
    · rw [show sinL (cntN l) L = L - cntN l by simp [sinL, e], show sinC (cntN l) (colN l) L C = C by simp [sinC, e]]
      constructor
      · rintro ⟨q1, q2⟩
        rw [if_neg (by omega)] at q2
        omega
      · rintro ⟨q1, q2⟩
        rw [if_neg (by omega)]
        omega
  cases e : atO r (sinL (cntN l) L) (sinC (cntN l) (colN l) L C) with
  | some m =>
    obtain ⟨h1, h2, h3⟩ := atO_spec _ _ _ m e
    obtain ⟨k1, k2⟩ := (key m).2 ⟨h2, h3⟩
    exact atO_some _ L C _ (by rw [List.length_append]; show l.length + m ≤ _; omega) k1 k2
  | none =>
    refine atO_none _ L C fun n hn hh => ?_
    by_cases hl : l.length ≤ n
    · obtain ⟨m, rfl⟩ : ∃ m, n = l.length + m := ⟨n - l.length, by omega⟩
      exact atO_not e m (by rw [List.length_append] at hn; omega) ((key m).1 hh)
    · have := rise_lt (l ++ r) n l.length (by omega) (by rw [List.length_append]; omega)
      rw [List.take_left] at this
      omega

/-- A captured place and a captured offset, each in a block of its own. -/
def AtSt (w0 : World) (pb ib : Nat) (L C : Int) (st : Nat) (w : World) : Prop :=
  Below w0.heap.size w0 w ∧ w.cell? ⟨pb, 0, none⟩ = some (.int .i64 L) ∧ w.cell? ⟨pb, 1, none⟩ = some (.int .i64 C) ∧ w.frozen? ⟨pb, 0, none⟩ = false ∧ w.frozen? ⟨pb, 1, none⟩ = false ∧ w.cell? ⟨ib, 0, none⟩ = some (.int .i64 st) ∧ w.frozen? ⟨ib, 0, none⟩ = false ∧ w0.heap.size ≤ pb ∧ pb < ib ∧ ib < w.heap.size
theorem AtSt.up {w0 w w' : World} {pb ib : Nat} {L C : Int} {st : Nat} (h : AtSt w0 pb ib L C st w) (hb : Below w.heap.size w w') : AtSt w0 pb ib L C st w' := by
  obtain ⟨h1, h2, h3, h4, h5, h6, h7, h8, h9, h10⟩ := h
  have h11 : pb < w.heap.size := by omega
  exact ⟨h1.trans (hb.mono h1.size), (hb.cell (p := ⟨pb, 0, none⟩) h11).trans h2, (hb.cell (p := ⟨pb, 1, none⟩) h11).trans h3, (hb.frozen (p := ⟨pb, 0, none⟩) h11).trans h4, (hb.frozen (p := ⟨pb, 1, none⟩) h11).trans h5, (hb.cell (p := ⟨ib, 0, none⟩) h10).trans h6, (hb.frozen (p := ⟨ib, 0, none⟩) h10).trans h7, h8, h9, Nat.lt_of_lt_of_le h10 hb.size⟩
theorem AtSt.drew {w0 w : World} {pb ib : Nat} {L C : Int} {st : Nat} (h : AtSt w0 pb ib L C st w) : AtSt w0 pb ib L C st w.drew := h.up (Below.refl _ _).drew
theorem AtSt.setI {w0 w : World} {pb ib : Nat} {L C : Int} {st : Nat} (h : AtSt w0 pb ib L C st w) (st' : Nat) : AtSt w0 pb ib L C st' (w.setCell ⟨ib, 0, none⟩ (.int .i64 st')) := by
  obtain ⟨h1, h2, h3, h4, h5, h6, h7, h8, h9, h10⟩ := h
  have hne : ib ≠ pb := by omega
  have hib : w0.heap.size ≤ ib := by omega
  exact ⟨h1.setCell hib _, (World.cell?_setCell_far _ _ _ _ hne).trans h2, (World.cell?_setCell_far _ _ _ _ hne).trans h3, by simpa using h4, by simpa using h5, World.cell?_setCell_same _ _ _ h6, by simpa using h7, h8, h9, by simpa using h10⟩
theorem AtSt.setP {w0 w : World} {pb ib : Nat} {L C : Int} {st : Nat} (h : AtSt w0 pb ib L C st w) (x' y' : Int) : AtSt w0 pb ib x' y' st ((w.setCell ⟨pb, 0, none⟩ (.int .i64 x')).setCell ⟨pb, 1, none⟩ (.int .i64 y')) := by
  obtain ⟨h1, h2, h3, h4, h5, h6, h7, h8, h9, h10⟩ := h
  have hne : pb ≠ ib := by omega
  have e1 : (w.setCell ⟨pb, 0, none⟩ (.int .i64 x')).cell? ⟨pb, 1, none⟩ = some (.int .i64 C) := (World.cell?_setCell_other _ _ _ _ (by simp)).trans h3
  have e0 : (w.setCell ⟨pb, 0, none⟩ (.int .i64 x')).cell? ⟨pb, 0, none⟩ = some (.int .i64 x') := World.cell?_setCell_same _ _ _ h2
  exact ⟨(h1.setCell h8 _).setCell h8 _, (World.cell?_setCell_other _ _ _ _ (by simp)).trans e0, World.cell?_setCell_same _ _ _ e1, by simpa using h4, by simpa using h5, ((World.cell?_setCell_far _ _ _ _ hne).trans (World.cell?_setCell_far _ _ _ _ hne)).trans h6, by simpa using h7, h8, h9, by simpa using h10⟩

theorem up_ear {v0 v1 v2 v3 : Value} {b0 b1 : Nat} {pb ib : Nat} {L C : Int} {st : Nat} {w0 w w' : World} (h : w.cell? ⟨b0, 0, none⟩ = some (v0) ∧ w.cell? ⟨b0, 1, none⟩ = some (v1) ∧ w.cell? ⟨b1, 5, none⟩ = some (v2) ∧ w.cell? ⟨b1, 6, none⟩ = some (v3) ∧ b0 < w.heap.size ∧ b1 < w.heap.size ∧ AtSt w0 pb ib L C st w) (hb : Below w.heap.size w w') : w'.cell? ⟨b0, 0, none⟩ = some (v0) ∧ w'.cell? ⟨b0, 1, none⟩ = some (v1) ∧ w'.cell? ⟨b1, 5, none⟩ = some (v2) ∧ w'.cell? ⟨b1, 6, none⟩ = some (v3) ∧ b0 < w'.heap.size ∧ b1 < w'.heap.size ∧ AtSt w0 pb ib L C st w' := by
  obtain ⟨h0, h1, h2, h3, z0, z1, K⟩ := h
  exact ⟨(hb.cell (p := ⟨b0, 0, none⟩) z0).trans h0, (hb.cell (p := ⟨b0, 1, none⟩) z0).trans h1, (hb.cell (p := ⟨b1, 5, none⟩) z1).trans h2, (hb.cell (p := ⟨b1, 6, none⟩) z1).trans h3, Nat.lt_of_lt_of_le z0 hb.size, Nat.lt_of_lt_of_le z1 hb.size, K.up hb⟩
theorem up_ear_k {v0 v1 v2 v3 : Value} {b0 b1 : Nat} {pb ib : Nat} {L C : Int} {st : Nat} {w0 w : World} (h : w.cell? ⟨b0, 0, none⟩ = some (v0) ∧ w.cell? ⟨b0, 1, none⟩ = some (v1) ∧ w.cell? ⟨b1, 5, none⟩ = some (v2) ∧ w.cell? ⟨b1, 6, none⟩ = some (v3) ∧ b0 < w.heap.size ∧ b1 < w.heap.size ∧ AtSt w0 pb ib L C st w) : AtSt w0 pb ib L C st w := h.2.2.2.2.2.2


set_option maxHeartbeats 2000000 in
set_option maxRecDepth 100000 in
theorem at_stay (w0 : World) (pb ib : Nat) (L C : Int) (st : Nat) (l : T) (w : World) (hS : AtSt w0 pb ib L C st w) (hl : Rep w0 l) (h : earB L C (cntN l.bytes) (colN l.bytes) = true) :
    Calls Try.prog 51 #[ptr l.blk, .pointer (some ⟨pb, 0, none⟩), .pointer (some ⟨ib, 0, none⟩)] w fun e w' => e = .returned (.bool false) ∧ AtSt w0 pb ib L C st w' := by
  obtain ⟨-, l5, l6, lz⟩ := (hl.below hS.1).sz
  have he := Lib.hid (fun wz => earlier_any L C (cntN l.bytes) (colN l.bytes) wz)
  rw [h] at he
  generalize cntN l.bytes = u at *
  generalize colN l.bytes = v at *
  have hS' := Lib.hid hS
  obtain ⟨-, c0, c1, -, -, -, -, -, hlt, hz⟩ := hS
  have cz : pb < w.heap.size := by omega
  clear h hl
  go_enter Try.func51, Try.ntmps51
  go_wp2_with fail

  go_region_held3 (fun w' => w'.cell? ⟨pb, 0, none⟩ = some (.int .i64 L) ∧ w'.cell? ⟨pb, 1, none⟩ = some (.int .i64 C) ∧ w'.cell? ⟨l.blk, 5, none⟩ = some (.int .i64 u) ∧ w'.cell? ⟨l.blk, 6, none⟩ = some (.int .i64 v) ∧ pb < w'.heap.size ∧ l.blk < w'.heap.size ∧ AtSt w0 pb ib L C st w')
    (first | assumption | exact ⟨c0, c1, l5, l6, cz, lz, hS'.out.drew⟩ | exact up_ear (by assumption) hb | exact up_ear (by assumption) ((Below.refl _ _).alloc (Nat.le_refl _) _))
    (first | (go_at_call 52; refine (he.out _).mono ?_; rintro _ w' ⟨rfl, hb⟩))

  all_goals
    go_wp2
    go_ret
    exact ⟨rfl, up_ear_k (by assumption)⟩
set_option maxHeartbeats 4000000 in
set_option maxRecDepth 100000 in
theorem at_go (w0 : World) (pb ib : Nat) (L C : Int) (st : Nat) (l : T) (w : World) (hS : AtSt w0 pb ib L C st w) (hl : Rep w0 l) (h : earB L C (cntN l.bytes) (colN l.bytes) = false) (hLm : L ≤ 9223372036854775807) (hC : C ≤ 9223372036854775807) (hC2 : -9223372036854775808 ≤ C) (hst : st + l.size ≤ 1000000) :
    Calls Try.prog 51 #[ptr l.blk, .pointer (some ⟨pb, 0, none⟩), .pointer (some ⟨ib, 0, none⟩)] w fun e w' => e = .returned (.bool true) ∧ AtSt w0 pb ib (sinL (cntN l.bytes) L) (sinC (cntN l.bytes) (colN l.bytes) L C) (st + l.size) w' := by
  have hsz := Lib.hid (fun wz (L' C' : Int) (st' : Nat) (h : AtSt w0 pb ib L' C' st' wz) => (hl.below h.1).sz)
  have he := Lib.hid (fun wz => earlier_any L C (cntN l.bytes) (colN l.bytes) wz)
  rw [h] at he
  have hsi := Lib.hid (fun wz => since_any (cntN l.bytes) (colN l.bytes) L C wz (by omega) (by omega) hLm hC hC2 h)
  generalize sinL (cntN l.bytes) L = L2 at *
  generalize sinC (cntN l.bytes) (colN l.bytes) L C = C2 at *
  generalize cntN l.bytes = u at *
  generalize colN l.bytes = v at *
  have hS' := Lib.hid hS
  obtain ⟨-, l5, l6, lz⟩ := hsz.out _ _ _ _ hS
  obtain ⟨-, c0, c1, -, -, -, -, -, hlt, hz⟩ := hS
  have cz : pb < w.heap.size := by omega
  have s1 : IntKind.i64.wrap ((st : Int) + (l.size : Int)) = ((st + l.size : Nat) : Int) := by rw [IntWalk.i64_in _ (by omega)]; omega
  obtain ⟨d, hd⟩ : ∃ d, st + l.size = d := ⟨_, rfl⟩
  rw [hd] at s1 ⊢
  have s1' := Lib.hid s1
  clear h hl s1 hd
  go_enter Try.func51, Try.ntmps51
  go_wp2_with fail

  go_region_held3 (fun w' => w'.cell? ⟨pb, 0, none⟩ = some (.int .i64 L) ∧ w'.cell? ⟨pb, 1, none⟩ = some (.int .i64 C) ∧ w'.cell? ⟨l.blk, 5, none⟩ = some (.int .i64 u) ∧ w'.cell? ⟨l.blk, 6, none⟩ = some (.int .i64 v) ∧ pb < w'.heap.size ∧ l.blk < w'.heap.size ∧ AtSt w0 pb ib L C st w')
    (first | assumption | exact ⟨c0, c1, l5, l6, cz, lz, hS'.out.drew⟩ | exact up_ear (by assumption) hb | exact up_ear (by assumption) ((Below.refl _ _).alloc (Nat.le_refl _) _))
    (first | (go_at_call 52; refine (he.out _).mono ?_; rintro _ w' ⟨rfl, hb⟩))

  clear c0 c1 l5 l6 cz lz hz
  have hS8 := Lib.hid (up_ear_k (by assumption))
  generalize w' = w8 at *
  go_wp2_with fail
  obtain ⟨l3, -, -, lz⟩ := hsz.out _ _ _ _ hS8.out
  obtain ⟨-, -, -, -, -, c0, cf, -, -, cz⟩ := hS8.out
  have s1 := s1'.out
  go_still_tail 6, (by kernel_rfl)
  clear s1
  change wpList _ _ _ _ _ w8.drew
  go_wp2_with fail
  have hS7 := Lib.hid ((hS8.out.drew).setI d)
  have hw7 : (w8.setCell ⟨ib, 0, none⟩ (.int .i64 d)).drew = (w8.drew).setCell ⟨ib, 0, none⟩ (.int .i64 d) := rfl
  rw [hw7]
  clear l3 lz c0 cf cz hw7 hS8 hb
  generalize (w8.drew).setCell ⟨ib, 0, none⟩ (.int .i64 d) = w7 at *
  obtain ⟨-, l5, l6, lz⟩ := hsz.out _ _ _ _ hS7.out
  obtain ⟨-, c0, c1, cf, cf1, -, -, -, -, hz⟩ := hS7.out
  have cz : pb < w7.heap.size := by omega
  go_region_with (go_at_call 53; refine (hsi.out _).mono ?_; rintro _ w' ⟨rfl, hb⟩; have hS6 := hS7.out.drew.up hb; have d0 := hS6.2.1; have d1 := hS6.2.2.1; have d2 := hS6.2.2.2.1; have d3 := hS6.2.2.2.2.1; have d4 : pb < w'.heap.size := Nat.lt_trans hS6.2.2.2.2.2.2.2.2.1 hS6.2.2.2.2.2.2.2.2.2; have hS6' := Lib.hid hS6; clear hS6 hb)
  all_goals
    go_wp2
    go_ret
    exact ⟨rfl, hS6'.out.setP _ _⟩

/-- The leaf that has a place, the place in it, and the offset at which it begins. -/
structure Sought where
  s : ByteArray
  L : Int
  C : Int
  st : Nat
def T.seek : T → Int → Int → Nat → Sought
  | .leaf _ s, L, C, st => ⟨s, L, C, st⟩
  | .fork _ l r, L, C, st => if earB L C (cntN l.bytes) (colN l.bytes) then l.seek L C st else r.seek (sinL (cntN l.bytes) L) (sinC (cntN l.bytes) (colN l.bytes) L C) (st + l.size)
theorem T.seek_spec (t : T) : ∀ L C st, ∃ k, (t.seek L C st).st = st + k ∧ k + (t.seek L C st).s.size ≤ t.size ∧ atO t.bytes L C = (atO (t.seek L C st).s.data.toList (t.seek L C st).L (t.seek L C st).C).map (k + ·) := by
  induction t with
  | leaf b s => intro L C st; exact ⟨0, rfl, by simp [T.seek, T.size], by simp [T.seek, T.bytes]⟩
  | fork b l r hl hr =>
    intro L C st
    by_cases h : earB L C (cntN l.bytes) (colN l.bytes) = true
    · simp only [T.seek, if_pos h, T.bytes]
      obtain ⟨k, h1, h2, h3⟩ := hl L C st
      exact ⟨k, h1, by simp only [T.size]; omega, by rw [at_early _ _ _ _ h, h3]⟩
    · simp only [T.seek, if_neg h, T.bytes]
      obtain ⟨k, h1, h2, h3⟩ := hr (sinL (cntN l.bytes) L) (sinC (cntN l.bytes) (colN l.bytes) L C) (st + l.size)
      refine ⟨l.size + k, by omega, by simp only [T.size]; omega, ?_⟩
      rw [at_late _ _ _ _ (by simpa using h), h3, T.len_eq, Option.map_map]
      congr 1
      funext x
      simp [Nat.add_assoc]
theorem sin_bounds (a b L C : Int) (h0 : 0 ≤ a) (h1 : 0 ≤ b) (h : earB L C a b = false) (hL : L ≤ 9223372036854775807) (hC : C ≤ 9223372036854775807) (hC2 : -9223372036854775808 ≤ C) : sinL a L ≤ 9223372036854775807 ∧ sinC a b L C ≤ 9223372036854775807 ∧ -9223372036854775808 ≤ sinC a b L C := by
  simp only [earB, decide_eq_false_iff_not] at h
  unfold sinL sinC
  split <;> omega

set_option maxHeartbeats 2000000 in
theorem at_down (w0 : World) (pb ib : Nat) (L C : Int) (t : T) (w : World) (hS : AtSt w0 pb ib L C 0 w) (ht : Rep w0 t) (hLm : L ≤ 9223372036854775807) (hC : C ≤ 9223372036854775807) (hC2 : -9223372036854775808 ≤ C) (hts : t.size ≤ 100000) :
    Calls Try.prog 45 #[ptr t.blk, .func (.func 51) #[] #[.pointer (some ⟨pb, 0, none⟩), .pointer (some ⟨ib, 0, none⟩)]] w fun e w' => e = .returned (.string (t.seek L C 0).s) ∧ AtSt w0 pb ib (t.seek L C 0).L (t.seek L C 0).C (t.seek L C 0).st w' := by
  obtain ⟨D, hD⟩ : ∃ D, t.seek L C 0 = D := ⟨_, rfl⟩
  rw [hD]
  have hD' := Lib.hid hD
  have hS' := Lib.hid hS
  have ht' := Lib.hid ht
  clear hD hS ht
  go_enter Try.func45, Try.ntmps45
  go_wp2_with fail
  go_loopg [0] t.hgt (fun k v wr => ∃ (u : T) (L' C' : Int) (st : Nat), u.hgt ≤ k ∧ v = ptr u.blk ∧ Rep w0 u ∧ AtSt w0 pb ib L' C' st wr ∧ L' ≤ 9223372036854775807 ∧ C' ≤ 9223372036854775807 ∧ -9223372036854775808 ≤ C' ∧ st + u.size ≤ 100000 ∧ u.seek L' C' st = D)
  case atStart => exact ⟨t, L, C, 0, Nat.le_refl _, rfl, ht'.out, hS'.out, hLm, hC, hC2, by omega, hD'.out⟩
  case round =>
    clear hS' ht' hD' hLm hC hC2
    obtain ⟨u, L', C', st, hu, rfl, hr, hb, hLm, hC, hC2, hx, hd⟩ := hrel
    have hd' := Lib.hid hd
    have hb' := Lib.hid hb
    have hr' := Lib.hid hr
    cases u with
    | leaf b s =>
      obtain ⟨a0, a1, a2, a3, a4, a5, a6, az⟩ := (hr.below hb.1).1
      clear hr hb hd
      have eb : (T.leaf b s).blk = b := rfl
      go_wp2
      go_ret
      have e := hd'.out
      simp only [T.seek] at e
      exact ⟨by rw [← e]; rfl, by rw [← e]; exact hb'.out⟩
    | fork b l r =>
      obtain ⟨⟨a0, a1, a2, a3, a4, a5, a6, az⟩, hl, hrr⟩ := hr.below hb.1
      have eb : (T.fork b l r).blk = b := rfl
      simp only [T.size] at hx
      clear hl hrr hr hb hd
      cases h1 : earB L' C' (cntN l.bytes) (colN l.bytes)
      · have c1 := Lib.hid (at_go w0 pb ib L' C' st l · · hr'.out.2.1 h1 hLm hC hC2 (by omega))
        have h1' := Lib.hid h1
        clear h1
        go_wp2_with fail
        refine (c1.out _ hb'.out).mono ?_
        rintro _ w2 ⟨rfl, hb2⟩
        clear a0 a1 a2 a3 a4 a5 a6 az
        obtain ⟨⟨a0, a1, a2, a3, a4, a5, a6, az⟩, hl, hrr⟩ := hr'.out.below hb2.1
        have hb2' := Lib.hid hb2
        clear hb2 hl hrr
        go_wp2
        go_roundg r.hgt
        case measure => simp only [T.hgt] at hu; omega
        case rel =>
          have e := hd'.out
          simp only [T.seek] at e
          rw [if_neg (by rw [h1'.out]; simp)] at e
          obtain ⟨b1, b2, b3⟩ := sin_bounds (cntN l.bytes) (colN l.bytes) L' C' (by omega) (by omega) h1'.out hLm hC hC2
          exact ⟨r, _, _, _, Nat.le_refl _, rfl, hr'.out.2.2, hb2'.out, b1, b2, b3, by omega, e⟩
      · have c1 := Lib.hid (at_stay w0 pb ib L' C' st l · · hr'.out.2.1 h1)
        have h1' := Lib.hid h1
        clear h1
        go_wp2_with fail
        refine (c1.out _ hb'.out).mono ?_
        rintro _ w2 ⟨rfl, hb2⟩
        clear a0 a1 a2 a3 a4 a5 a6 az
        obtain ⟨⟨a0, a1, a2, a3, a4, a5, a6, az⟩, hl, hrr⟩ := hr'.out.below hb2.1
        have hb2' := Lib.hid hb2
        clear hb2 hl hrr
        go_wp2
        go_roundg l.hgt
        case measure => simp only [T.hgt] at hu; omega
        case rel =>
          have e := hd'.out
          simp only [T.seek] at e
          rw [if_pos h1'.out] at e
          exact ⟨l, L', C', st, Nat.le_refl _, rfl, hr'.out.2.1, hb2'.out, hLm, hC, hC2, by omega, e⟩

def skO : Option T → Int → Int → Sought | none, L, C => ⟨.empty, L, C, 0⟩ | some t, L, C => t.seek L C 0
theorem at_downO (w0 : World) (pb ib : Nat) (L C : Int) (o : Option T) (w : World) (hS : AtSt w0 pb ib L C 0 w) (ht : RepO w0 o) (hLm : L ≤ 9223372036854775807) (hC : C ≤ 9223372036854775807) (hC2 : -9223372036854775808 ≤ C) (hts : total (lvs o) ≤ 100000) :
    Calls Try.prog 45 #[topPtr o, .func (.func 51) #[] #[.pointer (some ⟨pb, 0, none⟩), .pointer (some ⟨ib, 0, none⟩)]] w fun e w' => e = .returned (.string (skO o L C).s) ∧ AtSt w0 pb ib (skO o L C).L (skO o L C).C (skO o L C).st w' := by
  cases o with
  | none => exact (of_none_down _ w).mono fun _ _ ⟨h1, h2⟩ => by subst h2; exact ⟨h1, hS⟩
  | some t => exact at_down w0 pb ib L C t w hS ht hLm hC hC2 (by rw [T.size_eq]; exact hts)
theorem skO_spec (o : Option T) (L C : Int) : (skO o L C).st + (skO o L C).s.size ≤ total (lvs o) ∧ atO (flat (lvs o)) L C = (atO (skO o L C).s.data.toList (skO o L C).L (skO o L C).C).map ((skO o L C).st + ·) := by
  cases o with
  | none => exact ⟨by simp [skO, lvs, total], by simp [skO, lvs, flat]⟩
  | some t =>
    obtain ⟨k, h1, h2, h3⟩ := t.seek_spec L C 0
    simp only [Nat.zero_add] at h1
    rw [show skO (some t) L C = t.seek L C 0 from rfl, h1]
    exact ⟨by rw [show total (lvs (some t)) = t.size from by rw [T.size_eq]; rfl]; exact h2, by rw [← h3, T.bytes_eq]; rfl⟩
theorem AtSt.new (w : World) (L C : Int) : AtSt w w.heap.size (w.heap.size + 1) L C 0 ((w.alloc (.cells #[.int .i64 L, .int .i64 C] 34)).alloc (.cells #[.int .i64 0] 3)) := by
  have e1 : (w.alloc (.cells #[.int .i64 L, .int .i64 C] 34)).heap.size = w.heap.size + 1 := by simp
  have P1 := (PlAt.new w L C).alloc (.cells #[.int .i64 0] 3)
  have I := IntBox.new (w.alloc (.cells #[.int .i64 L, .int .i64 C] 34)) 0
  rw [e1] at I
  exact ⟨((Below.refl _ _).alloc (Nat.le_refl _) _).alloc (by simp) _, P1.1, P1.2.1, P1.2.2.1, P1.2.2.2.1, I.2.1, I.2.2.1, Nat.le_refl _, by omega, I.2.2.2.2⟩

set_option maxHeartbeats 2000000 in
theorem at_made (b : Nat) (o : Option T) (s : ByteArray) (L C : Int) (w : World) (hr : RopeAt w b o) (q : TreeOf s o) (hLm : L ≤ 9223372036854775807) (hC : C ≤ 9223372036854775807) (hC2 : -9223372036854775808 ≤ C) :
    Calls Try.prog 24 #[ptr b, pl L C] w fun e w' => e = .returned (.tuple #[.int .i64 (atN s.data.toList L C), .int .i64 (atE s.data.toList L C)]) ∧ Below w.heap.size w w' := by
  have hs := q.2.2
  have hN := AtSt.new w L C
  have h1 := Lib.hid (fun wz (hL : Below w.heap.size w wz) => there_made b o wz (hr.below hL))
  have hrz := Lib.hid (fun wz (hL : Below w.heap.size w wz) => (show wz.cell? ⟨b, 1, none⟩ = some (topPtr o) ∧ b < wz.heap.size from ⟨(hr.below hL).2.1, (hr.below hL).2.2.1⟩))
  have hd := Lib.hid (fun wz (h : AtSt w w.heap.size (w.heap.size + 1) L C 0 wz) => at_downO w _ _ L C o wz h hr.2.2.2 hLm hC hC2 (by rw [q.total]; omega))
  obtain ⟨p1, p2⟩ := skO_spec o L C
  rw [q.1] at p2
  rw [q.total] at p1
  generalize skO o L C = F at *
  obtain ⟨u, L', C', st⟩ := F
  simp only at p1 p2 hd
  have hol := Lib.hid (fun wz => at_any u L' C' wz (by omega))
  have hbn := at_bounds u.data.toList L' C'
  rw [ba_len] at hbn
  have hN' := Lib.hid hN
  have hmf : ∀ (fn : Fn) (first cap : Array Value) (w : World), (Instr.makeFunc fn first cap).run Try.prog w = .ok (.func fn first cap) w := fun _ _ _ _ => rfl
  cases e : atO u.data.toList L' C' with
  | some m =>
    have f1 : atN u.data.toList L' C' = m ∧ atE u.data.toList L' C' = 0 := by simp [atN, atE, e]
    have f2 : atN s.data.toList L C = ((st + m : Nat) : Int) ∧ atE s.data.toList L C = 0 := by simp [atN, atE, p2, e]
    rw [f1.1, f1.2] at hol
    rw [f1.1] at hbn
    rw [f2.1, f2.2]
    have hfin := Lib.hid (show (st : Int) + (m : Int) = ((st + m : Nat) : Int) by omega)
    clear hr q hN p2 f1 f2 e
    go_enter Try.func24, Try.ntmps24
    go_wp2_with fail
    refine (h1.out _ ((Below.refl _ _).alloc (Nat.le_refl _) _)).mono ?_
    rintro _ _ ⟨rfl, rfl⟩
    obtain ⟨r1, rz⟩ := hrz.out _ hN'.out.1
    go_wp2_with fail
    refine (hd.out _ hN'.out).mono ?_
    rintro _ w3 ⟨rfl, hS3⟩
    have hS3' := Lib.hid hS3
    obtain ⟨-, c0, c1, -, -, -, -, -, -, cz⟩ := hS3
    have cz0 : w.heap.size < w3.heap.size := by omega
    clear r1 rz hN'
    go_wp2_with fail
    refine (hol.out _).mono ?_
    rintro _ w4 ⟨rfl, hb4⟩
    have hS4 := Lib.hid (hS3'.out.up hb4)
    clear c0 c1 cz hb4 hS3' cz0
    obtain ⟨-, -, -, -, -, c0, -, -, -, cz⟩ := hS4.out
    go_wp2
    go_ret2
    exact ⟨tup2 hfin.out rfl, hS4.out.1⟩
  | none =>
    have f1 : atN u.data.toList L' C' = 0 ∧ atE u.data.toList L' C' = 4 := by simp [atN, atE, e]
    have f2 : atN s.data.toList L C = 0 ∧ atE s.data.toList L C = 4 := by simp [atN, atE, p2, e]
    rw [f1.1, f1.2] at hol
    rw [f2.1, f2.2]
    clear hr q hN p2 f1 f2 e
    go_enter Try.func24, Try.ntmps24
    go_wp2_with fail
    refine (h1.out _ ((Below.refl _ _).alloc (Nat.le_refl _) _)).mono ?_
    rintro _ _ ⟨rfl, rfl⟩
    obtain ⟨r1, rz⟩ := hrz.out _ hN'.out.1
    go_wp2_with fail
    refine (hd.out _ hN'.out).mono ?_
    rintro _ w3 ⟨rfl, hS3⟩
    have hS3' := Lib.hid hS3
    obtain ⟨-, c0, c1, -, -, -, -, -, -, cz⟩ := hS3
    have cz0 : w.heap.size < w3.heap.size := by omega
    clear r1 rz hN'
    go_wp2_with fail
    refine (hol.out _).mono ?_
    rintro _ w4 ⟨rfl, hb4⟩
    go_wp2
    go_ret2
    exact ⟨rfl, hS3'.out.1.trans (hb4.mono hS3'.out.1.size)⟩
end Go.Proofs.Ytagjeckgfjddmaa
