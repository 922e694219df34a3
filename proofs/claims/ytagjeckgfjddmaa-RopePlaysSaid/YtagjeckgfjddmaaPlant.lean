/- plant: a text as a tree whose leaves are full, but for the last one. -/
import Derived.Test.YtagjeckgfjddmaaLink
namespace Go.Proofs.Ytagjeckgfjddmaa
set_option linter.unusedSimpArgs false
set_option linter.unusedVariables false
open Go.RowKit

/-- What plant makes of a text that has bytes. -/
def PlantQ (s : ByteArray) (t : T) : Prop := flat t.leaves = s.data.toList ∧ Good t.leaves ∧ t.bal ∧ t.leaves.length = (s.size + 63) / 64 ∧ t.leaves.length ≤ 2 ^ t.hgt ∧ 2 ^ t.hgt < 2 * t.leaves.length ∧ (s.size % 64 = 0 → ∀ x ∈ t.leaves, x.2.size = 64)
theorem ba_len (s : ByteArray) : s.data.toList.length = s.size := by simp
theorem ext0_size (s : ByteArray) (h : Nat) (hh : h ≤ s.size) : (s.extract 0 h).size = h := by simp; omega
theorem ext1_size (s : ByteArray) (h : Nat) (hh : h ≤ s.size) : (s.extract h s.size).size = s.size - h := by simp
theorem PlantQ.size {s : ByteArray} {t : T} (h : PlantQ s t) : t.size = s.size := by rw [T.size_eq, ← flat_len, h.1, ba_len]
theorem plant_leaf (s : ByteArray) (c : Nat) (h0 : 0 < s.size) (h1 : s.size ≤ 64) : PlantQ s (.leaf c s) := by
  refine ⟨by simp [T.leaves, flat], by simp [T.leaves, Good]; omega, trivial, by simp [T.leaves]; omega, by simp [T.leaves, T.hgt], by simp [T.leaves, T.hgt], ?_⟩
  intro hm x hx
  simp [T.leaves] at hx
  subst hx
  show s.size = 64
  omega
theorem pow_near {a b m n : Nat} (h1 : m ≤ 2 ^ a) (h2 : 2 ^ a < 2 * m) (h3 : n ≤ 2 ^ b) (h4 : 2 ^ b < 2 * n) (h5 : m ≤ n) (h6 : n ≤ m + 1) : a ≤ b ∧ b ≤ a + 1 := by
  constructor
  · rcases Nat.lt_or_ge b a with h | h
    · have := Nat.pow_le_pow_right (n := 2) (by omega) (show b + 1 ≤ a from h)
      rw [Nat.pow_succ] at this; omega
    · exact h
  · rcases Nat.lt_or_ge (a + 1) b with h | h
    · have := Nat.pow_le_pow_right (n := 2) (by omega) (show a + 2 ≤ b from h)
      rw [Nat.pow_add] at this; omega
    · exact h
theorem plant_fork {s : ByteArray} {h : Nat} {l r t : T} (h1 : 64 < s.size) (hh : (s.size + 63) / 64 / 2 * 64 = h) (ql : PlantQ (s.extract 0 h) l) (qr : PlantQ (s.extract h s.size) r) (q : IsFork l r t) : PlantQ s t := by
  have hle : h < s.size := by omega
  obtain ⟨l1, l2, l3, l4, l5, l6, l7⟩ := ql
  obtain ⟨r1, r2, r3, r4, r5, r6, r7⟩ := qr
  rw [ext0_size s h (by omega)] at l4 l7
  rw [ext1_size s h (by omega)] at r4 r7
  obtain ⟨n1, n2⟩ := pow_near l5 l6 r5 r6 (by omega) (by omega)
  have hlast := l7 (by omega)
  have e := q.hgt
  have em : t.hgt = r.hgt + 1 := by omega
  refine ⟨?_, ?_, q.bal l3 r3 (by omega) (by omega), ?_, ?_, ?_, ?_⟩
  · rw [q.leaves, flat_app, l1, r1, sub_head s h (by omega), sz_drop, List.take_append_drop]
  · rw [q.leaves, Good.app_iff]
    refine ⟨l2, r2, fun x y hx hy => ?_⟩
    have := hlast x (List.mem_of_getLast? hx)
    have := (r2.pos y (List.mem_of_head? hy)).1
    omega
  · rw [q.leaves, List.length_append, l4, r4]; omega
  · rw [q.leaves, List.length_append, em, Nat.pow_succ]; omega
  · rw [q.leaves, List.length_append, em, Nat.pow_succ]
    cases h8 : r.hgt with
    | zero => simp; omega
    | succ k => rw [h8, Nat.pow_succ] at r6; rw [Nat.pow_succ]; omega
  · intro hm x hx
    rw [q.leaves, List.mem_append] at hx
    rcases hx with hx | hx
    · exact hlast x hx
    · exact r7 (by omega) x hx

theorem up_pl {L : List T} {w0 w w' : World} (h : Kp L w0 w) (hb : Below w.heap.size w w') : Kp L w0 w' := by
  skip
  exact h.up hb
theorem up_pl_k {L : List T} {w0 w : World} (h : Kp L w0 w) : Kp L w0 w := h

def PlOk (k : Nat) (s : ByteArray) : Prop := s.size ≤ k ∧ 0 < s.size ∧ s.size ≤ 100000
def PlantAt (k : Nat) : Prop := ∀ (s : ByteArray) (w : World), s.size ≤ k → 0 < s.size → s.size ≤ 100000 → Calls Try.prog 40 #[.string s] w (Out (PlantQ s) w)
set_option maxHeartbeats 2000000 in
set_option maxRecDepth 100000 in
theorem plant_many (k : Nat) (ih : PlantAt k) (s : ByteArray) (w : World) (hk : s.size ≤ k + 1) (h1 : 64 < s.size) (hs : s.size ≤ 100000) :
    Calls Try.prog 40 #[.string s] w (Out (PlantQ s) w) := by
  obtain ⟨h, hh⟩ : ∃ h, (s.size + 63) / 64 / 2 * 64 = h := ⟨_, rfl⟩
  have e : ((s.size : Int) + 64 - 1) / 64 / 2 * 64 = (h : Int) := by omega
  have hlt : h < s.size := by omega
  have hpos : 0 < h := by omega
  have d0 : (((s.size : Int) + 64 - 1) / 64 == 0) = false := by simp; omega
  have d1 : (((s.size : Int) + 64 - 1) / 64 == 1) = false := by simp; omega
  have hih := Lib.hid (fun (x : ByteArray) (wz : World) (q : PlOk k x) => ih x wz q.1 q.2.1 q.2.2)
  have hL : PlOk k (s.extract 0 h) := by unfold PlOk; rw [ext0_size s h (by omega)]; omega
  have hR : PlOk k (s.extract h s.size) := by unfold PlOk; rw [ext1_size s h (by omega)]; omega
  have HQ := Lib.hid (fun (l r t : T) (ql : PlantQ (s.extract 0 h) l) (qr : PlantQ (s.extract h s.size) r) (q : IsFork l r t) => plant_fork h1 hh ql qr q)
  have HZ := Lib.hid (fun (l r : T) (ql : PlantQ (s.extract 0 h) l) (qr : PlantQ (s.extract h s.size) r) => (show l.size + r.size ≤ 1000000 ∧ l.hgt ≤ 1000000 ∧ r.hgt ≤ 1000000 by
    have a1 := ql.size
    have a2 := qr.size
    have a3 := l.hgt_lt
    have a4 := r.hgt_lt
    have a5 := ql.2.2.2.1
    have a6 := qr.2.2.2.1
    rw [ext0_size s h (by omega)] at a1 a5
    rw [ext1_size s h (by omega)] at a2 a6
    omega))
  obtain ⟨u, hu⟩ : ∃ u, s.extract 0 h = u := ⟨_, rfl⟩
  obtain ⟨v, hv⟩ : ∃ v, s.extract h s.size = v := ⟨_, rfl⟩
  rw [hu] at hL HQ HZ
  rw [hv] at hR HQ HZ
  have e' := Lib.hid e
  have hu' := Lib.hid hu
  have hv' := Lib.hid hv
  have h1' := Lib.hid h1
  have hK := Lib.hid (Kp.start (w := w) (L := []) (by simp))
  clear hh e ih hk hu hv h1
  go_enter Try.func40, Try.ntmps40
  go_wp2_with fail
  rw [e'.out]
  have hu := hu'.out
  have hv := hv'.out
  have i0 : (0 : Int) ≤ (h : Int) := by omega
  have i1 : (h : Int) ≤ (s.size : Int) := by omega
  go_region_held3 (fun w' => Kp [] w w')
    (first | assumption | exact hK.out.drew | exact up_pl (by assumption) hb | exact up_pl (by assumption) ((Below.refl _ _).alloc (Nat.le_refl _) _))
    (first | (go_at_call 40; refine (hih.out _ _ (by assumption)).mono ?_; rintro _ w' ⟨t', rfl, hRp, hQ, hb⟩) | (go_at_call 68; refine (fork_is _ _ _ (by first | assumption | exact Rep.below (by assumption) (by assumption)) (by first | assumption | exact Rep.below (by assumption) (by assumption)) (HZ.out _ _ (by assumption) (by assumption)).1 (HZ.out _ _ (by assumption) (by assumption)).2.1 (HZ.out _ _ (by assumption) (by assumption)).2.2).mono ?_; rintro _ w' ⟨t', rfl, hRp, hQ, hb⟩))
  all_goals
    clear hu hv d0 d1 i0 i1
    go_wp2
    go_ret
    exact ⟨_, rfl, by assumption, HQ.out _ _ _ (by assumption) (by assumption) hQ, (up_pl_k (by assumption)).2⟩
theorem plant_one (s : ByteArray) (w : World) (h0 : 0 < s.size) (h1 : s.size ≤ 64) : Calls Try.prog 40 #[.string s] w (Out (PlantQ s) w) := by
  have d0 : (((s.size : Int) + 64 - 1) / 64 == 0) = false := by simp; omega
  have d1 : (((s.size : Int) + 64 - 1) / 64 == 1) = true := by simp; omega
  have HQ := Lib.hid (fun (t : T) (q : ∃ c, t = .leaf c s) => (show PlantQ s t by obtain ⟨c, rfl⟩ := q; exact plant_leaf s c h0 h1))
  go_enter Try.func40, Try.ntmps40
  go_wp2_with (go_at_call 67; refine (leaf_any _ _ (by omega)).mono ?_; rintro _ w' ⟨t', rfl, hR, hQ, hb⟩)
  go_ret
  exact ⟨_, rfl, hR, HQ.out _ hQ, hb⟩
theorem plant_at (k : Nat) : PlantAt k := by
  induction k with
  | zero => intro s w hk h0 hs; omega
  | succ k ih =>
    intro s w hk h0 hs
    by_cases h1 : s.size ≤ 64
    · exact plant_one s w h0 h1
    · exact plant_many k ih s w hk (by omega) hs
theorem plant_none (s : ByteArray) (w : World) (h0 : s.size = 0) : Calls Try.prog 40 #[.string s] w fun e w' => e = .returned (.pointer none) ∧ w = w' := by
  obtain rfl : s = ⟨#[]⟩ := by
    obtain ⟨⟨l⟩⟩ := s
    have : l.length = 0 := h0
    rw [List.length_eq_zero_iff.1 this]
  clear h0
  go_enter Try.func40, Try.ntmps40
  go_wp2_with fail
  go_ret
  exact ⟨rfl, rfl⟩
/-- What plant makes. -/
def PlantO (s : ByteArray) (o : Option T) : Prop := flat (lvs o) = s.data.toList ∧ FineO o ∧ (lvs o).length = (s.size + 63) / 64
theorem plant_any (s : ByteArray) (w : World) (hs : s.size ≤ 100000) : Calls Try.prog 40 #[.string s] w (OutO (PlantO s) w) := by
  by_cases h0 : s.size = 0
  · refine (plant_none s w h0).mono ?_
    rintro _ _ ⟨rfl, rfl⟩
    refine ⟨none, rfl, trivial, ⟨?_, trivial, by simp [lvs]; omega⟩, Below.refl _ _⟩
    have : s.data.toList.length = 0 := by rw [ba_len, h0]
    rw [List.length_eq_zero_iff.1 this]; rfl
  · refine (plant_at s.size s w (Nat.le_refl _) (by omega) hs).mono ?_
    rintro _ _ ⟨t, rfl, h1, h2, h3⟩
    exact ⟨some t, rfl, h1, ⟨h2.1, ⟨h2.2.2.1, h2.2.1, by rw [h2.size]; exact hs⟩, h2.2.2.2.1⟩, h3⟩

end Go.Proofs.Ytagjeckgfjddmaa
