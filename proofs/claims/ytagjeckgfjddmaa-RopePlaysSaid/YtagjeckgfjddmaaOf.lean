/- Of of a rope: down to the leaf that has the offset, the lines and columns ahead of it added up. -/
import Derived.Test.YtagjeckgfjddmaaByte2
import Derived.RegionTactic
namespace Go.Proofs.Ytagjeckgfjddmaa
set_option linter.unusedSimpArgs false
set_option linter.unusedVariables false
open Go.RowKit

/-- A captured offset and a captured place, each in a block of its own. -/
def OfSt (w0 : World) (ab rb sb : Nat) (a x y : Int) (w : World) : Prop :=
  Below w0.heap.size w0 w ∧ w.cell? ⟨ab, 0, none⟩ = some (.int .i64 a) ∧ w.frozen? ⟨ab, 0, none⟩ = false ∧ w.cell? ⟨sb, 0, none⟩ = some (.int .i64 x) ∧ w.cell? ⟨sb, 1, none⟩ = some (.int .i64 y) ∧ w.frozen? ⟨sb, 0, none⟩ = false ∧ w.frozen? ⟨sb, 1, none⟩ = false ∧ w0.heap.size ≤ ab ∧ ab < sb ∧ sb < w.heap.size ∧ ab < rb ∧ rb < sb ∧ PlAt rb 0 0 w
theorem PlAt.far {b : Nat} {x y : Int} {w : World} (h : PlAt b x y w) {p : Nat} {k : Nat} {v : Value} (hne : p ≠ b) : PlAt b x y (w.setCell ⟨p, k, none⟩ v) :=
  ⟨(World.cell?_setCell_far _ _ _ _ hne).trans h.1, (World.cell?_setCell_far _ _ _ _ hne).trans h.2.1, by simpa using h.2.2.1, by simpa using h.2.2.2.1, by simpa using h.2.2.2.2⟩
theorem OfSt.drewN {w0 w : World} {ab rb sb : Nat} {a x y : Int} (h : OfSt w0 ab rb sb a x y w) (n : Nat) : OfSt w0 ab rb sb a x y (w.drewN n) := ⟨below_drewN h.1 n, h.2⟩
theorem OfSt.drew {w0 w : World} {ab rb sb : Nat} {a x y : Int} (h : OfSt w0 ab rb sb a x y w) : OfSt w0 ab rb sb a x y w.drew := h.drewN 1
theorem OfSt.up {w0 w w' : World} {ab rb sb : Nat} {a x y : Int} (h : OfSt w0 ab rb sb a x y w) (hb : Below w.heap.size w w') : OfSt w0 ab rb sb a x y w' := by
  obtain ⟨h1, h2, h3, h4, h5, h6, h7, h8, h9, h10, h12, h13, h14⟩ := h
  have h11 : ab < w.heap.size := by omega
  exact ⟨h1.trans (hb.mono h1.size), (hb.cell (p := ⟨ab, 0, none⟩) h11).trans h2, (hb.frozen (p := ⟨ab, 0, none⟩) h11).trans h3, (hb.cell (p := ⟨sb, 0, none⟩) h10).trans h4, (hb.cell (p := ⟨sb, 1, none⟩) h10).trans h5, (hb.frozen (p := ⟨sb, 0, none⟩) h10).trans h6, (hb.frozen (p := ⟨sb, 1, none⟩) h10).trans h7, h8, h9, Nat.lt_of_lt_of_le h10 hb.size, h12, h13, h14.below hb⟩
theorem OfSt.setA {w0 w : World} {ab rb sb : Nat} {a x y : Int} (h : OfSt w0 ab rb sb a x y w) (a' : Int) : OfSt w0 ab rb sb a' x y (w.setCell ⟨ab, 0, none⟩ (.int .i64 a')) := by
  obtain ⟨h1, h2, h3, h4, h5, h6, h7, h8, h9, h10, h12, h13, h14⟩ := h
  have hne2 : ab ≠ rb := by omega
  have hne : ab ≠ sb := by omega
  exact ⟨h1.setCell h8 _, World.cell?_setCell_same _ _ _ h2, by simpa using h3, (World.cell?_setCell_far _ _ _ _ hne).trans h4, (World.cell?_setCell_far _ _ _ _ hne).trans h5, by simpa using h6, by simpa using h7, h8, h9, by simpa using h10, h12, h13, h14.far hne2⟩
theorem OfSt.setP {w0 w : World} {ab rb sb : Nat} {a x y : Int} (h : OfSt w0 ab rb sb a x y w) (x' y' : Int) : OfSt w0 ab rb sb a x' y' ((w.setCell ⟨sb, 0, none⟩ (.int .i64 x')).setCell ⟨sb, 1, none⟩ (.int .i64 y')) := by
  obtain ⟨h1, h2, h3, h4, h5, h6, h7, h8, h9, h10, h12, h13, h14⟩ := h
  have hne2 : sb ≠ rb := by omega
  have hne : sb ≠ ab := by omega
  have hsb : w0.heap.size ≤ sb := by omega
  have e1 : (w.setCell ⟨sb, 0, none⟩ (.int .i64 x')).cell? ⟨sb, 1, none⟩ = some (.int .i64 y) := (World.cell?_setCell_other _ _ _ _ (by simp)).trans h5
  have e0 : (w.setCell ⟨sb, 0, none⟩ (.int .i64 x')).cell? ⟨sb, 0, none⟩ = some (.int .i64 x') := World.cell?_setCell_same _ _ _ h4
  exact ⟨(h1.setCell hsb _).setCell hsb _, ((World.cell?_setCell_far _ _ _ _ hne).trans (World.cell?_setCell_far _ _ _ _ hne)).trans h2, by simpa using h3, (World.cell?_setCell_other _ _ _ _ (by simp)).trans e0, World.cell?_setCell_same _ _ _ e1, by simpa using h6, by simpa using h7, h8, h9, by simpa using h10, h12, h13, (h14.far hne2).far hne2⟩

theorem of_stay (w0 : World) (ab rb sb : Nat) (a x y : Int) (l : T) (w : World) (hS : OfSt w0 ab rb sb a x y w) (hl : Rep w0 l) (h : a < l.size) :
    Calls Try.prog 49 #[ptr l.blk, .pointer (some ⟨ab, 0, none⟩), .pointer (some ⟨sb, 0, none⟩)] w fun e w' => e = .returned (.bool false) ∧ OfSt w0 ab rb sb a x y w' := by
  obtain ⟨p_l, q_l, s_l, l0, l1, l2, l3, l4, l5, l6, lz⟩ := (hl.below hS.1).node
  have hS' := Lib.hid hS
  obtain ⟨-, c0, cf, -, -, -, -, -, hlt, hz, -⟩ := hS
  have cz : ab < w.heap.size := by omega
  clear hl l0 l1 l2 l4 l5 l6
  go_enter Try.func49, Try.ntmps49
  go_wp2_with fail
  go_quiet (fail)
  go_wp2
  go_ret
  exact ⟨rfl, hS'.out.drewN _⟩
theorem Rep.sz {w : World} {t : T} (h : Rep w t) : w.cell? ⟨t.blk, 3, none⟩ = some (.int .i64 t.size) ∧ w.cell? ⟨t.blk, 5, none⟩ = some (.int .i64 (cntN t.bytes)) ∧ w.cell? ⟨t.blk, 6, none⟩ = some (.int .i64 (colN t.bytes)) ∧ t.blk < w.heap.size := by
  obtain ⟨p, q, s, -, -, -, a3, -, a5, a6, az⟩ := h.node
  exact ⟨a3, a5, a6, az⟩
set_option maxHeartbeats 2000000 in
set_option maxRecDepth 100000 in
theorem of_go (w0 : World) (ab rb sb : Nat) (a : Int) (x y : Nat) (l : T) (w : World) (hS : OfSt w0 ab rb sb a x y w) (hl : Rep w0 l) (h : l.size ≤ a) (ha : a ≤ 9223372036854775807) (hx : x ≤ 1000000) (hy : y ≤ 1000000) (hls : l.size ≤ 1000000) :
    Calls Try.prog 49 #[ptr l.blk, .pointer (some ⟨ab, 0, none⟩), .pointer (some ⟨sb, 0, none⟩)] w fun e w' => e = .returned (.bool true) ∧ OfSt w0 ab rb sb (a - l.size) ((x + cntN l.bytes : Nat) : Int) ((if cntN l.bytes = 0 then y + colN l.bytes else colN l.bytes : Nat) : Int) w' := by
  have q1 : cntN l.bytes ≤ l.size := by rw [← T.len_eq]; exact cnt_le _
  have q2 : colN l.bytes ≤ l.size := by rw [← T.len_eq]; exact col_le _
  have hsz := Lib.hid (fun wz (h : OfSt w0 ab rb sb a x y wz) => (hl.below h.1).sz)
  have hsz2 := Lib.hid (fun wz (h : OfSt w0 ab rb sb (a - l.size) x y wz) => (hl.below h.1).sz)
  obtain ⟨u, hu⟩ : ∃ u, cntN l.bytes = u := ⟨_, rfl⟩
  obtain ⟨v, hv⟩ : ∃ v, colN l.bytes = v := ⟨_, rfl⟩
  rw [hu] at q1 hsz hsz2 ⊢
  rw [hv] at q2 hsz hsz2 ⊢
  have hon := Lib.hid (fun wz => onward_any x y u v wz (by omega) (by omega) (by omega) (by omega))
  obtain ⟨r, hr⟩ : ∃ r, (if u = 0 then y + v else v) = r := ⟨_, rfl⟩
  simp only [hr] at hon ⊢
  have hS' := Lib.hid hS
  obtain ⟨l3, -, -, lz⟩ := hsz.out _ hS
  obtain ⟨-, c0, cf, -, -, -, -, -, hlt, hz, -⟩ := hS
  have cz : ab < w.heap.size := by omega
  have s1' := Lib.hid (IntWalk.i64_in (a - (l.size : Int)) (by omega))
  have n1 : ¬ a < (l.size : Int) := by omega
  clear hl hr hu hv
  go_enter Try.func49, Try.ntmps49
  go_wp2_with fail
  go_quiet (fail)
  go_wp2_with fail
  have s1 := s1'.out
  have hS9 := Lib.hid (hS'.out.drewN nq)
  clear l3 lz c0 cf cz hS' hz
  generalize w.drewN nq = w9 at *
  obtain ⟨l3, -, -, lz⟩ := hsz.out _ hS9.out
  obtain ⟨-, c0, cf, -, -, -, -, -, -, hz, -⟩ := hS9.out
  have cz : ab < w9.heap.size := by omega
  go_still_tail 6, (by kernel_rfl)
  clear s1
  change wpList _ _ _ _ _ w9.drew
  go_wp2_with fail
  have hS8 := Lib.hid ((hS9.out.drew).setA (a - l.size))
  clear l3 lz c0 cf cz hS9 hz
  have hw8 : (w9.setCell ⟨ab, 0, none⟩ (.int .i64 (a - l.size))).drew = (w9.drew).setCell ⟨ab, 0, none⟩ (.int .i64 (a - l.size)) := rfl
  rw [hw8]
  clear hw8
  generalize (w9.drew).setCell ⟨ab, 0, none⟩ (.int .i64 (a - l.size)) = w8 at *
  obtain ⟨-, l5, l6, lz⟩ := hsz2.out _ hS8.out
  obtain ⟨-, -, -, c0, c1, cf, cf1, -, -, hz, -⟩ := hS8.out
  go_region_with (go_at_call 50; refine (hon.out _).mono ?_; rintro _ w' ⟨rfl, hb⟩; have hS7 := hS8.out.drew.up hb; have d0 := hS7.2.2.2.1; have d1 := hS7.2.2.2.2.1; have d2 := hS7.2.2.2.2.2.1; have d3 := hS7.2.2.2.2.2.2.1; have d4 := hS7.2.2.2.2.2.2.2.2.2.1; have hS7' := Lib.hid hS7; clear hS7 hb)
  all_goals
    go_wp2
    go_ret
    exact ⟨rfl, hS7'.out.setP _ _⟩

/-- The leaf that has an offset, where in it, and the place at which it begins. -/
structure Found where
  s : ByteArray
  a : Int
  x : Nat
  y : Nat
def T.place : T → Int → Nat → Nat → Found
  | .leaf _ s, a, x, y => ⟨s, a, x, y⟩
  | .fork _ l r, a, x, y => if a < l.size then l.place a x y else r.place (a - l.size) (x + cntN l.bytes) (if cntN l.bytes = 0 then y + colN l.bytes else colN l.bytes)
theorem T.place_spec (t : T) : ∀ a x y, ∃ pre post, t.bytes = pre ++ (t.place a x y).s.data.toList ++ post ∧ a = pre.length + (t.place a x y).a ∧ (t.place a x y).x = x + cntN pre ∧ (t.place a x y).y = (if cntN pre = 0 then y + colN pre else colN pre) ∧ (pre = [] ∨ 0 ≤ (t.place a x y).a) ∧ (post = [] ∨ (t.place a x y).a ≤ (t.place a x y).s.size) := by
  induction t with
  | leaf b s => intro a x y; exact ⟨[], [], by simp [T.bytes, T.place], by simp [T.place], by simp [T.place, cnt_nil], by simp [T.place, cnt_nil, col_nil], .inl rfl, .inl rfl⟩
  | fork b l r hl hr =>
    intro a x y
    by_cases h : a < l.size
    · simp only [T.place, if_pos h]
      obtain ⟨pre, post, h1, h2, h3, h4, h5, h6⟩ := hl a x y
      refine ⟨pre, post ++ r.bytes, by simp only [T.bytes, h1, List.append_assoc], h2, h3, h4, h5, .inr ?_⟩
      rcases h6 with rfl | h6
      · have e := l.len_eq
        rw [h1] at e
        simp only [List.length_append, List.length_nil, ba_len] at e
        omega
      · exact h6
    · simp only [T.place, if_neg h]
      obtain ⟨pre, post, h1, h2, h3, h4, h5, h6⟩ := hr (a - l.size) (x + cntN l.bytes) (if cntN l.bytes = 0 then y + colN l.bytes else colN l.bytes)
      refine ⟨l.bytes ++ pre, post, by simp only [T.bytes, h1, List.append_assoc], ?_, ?_, ?_, .inr ?_, h6⟩
      · rw [List.length_append, T.len_eq]; omega
      · rw [h3, cnt_app]; omega
      · rw [h4, cnt_app, col_app]
        by_cases c1 : cntN pre = 0
        · by_cases c2 : cntN l.bytes = 0
          · rw [if_pos c1, if_pos c2, if_pos (by omega), if_pos c1]; omega
          · rw [if_pos c1, if_neg c2, if_neg (by omega), if_pos c1]
        · rw [if_neg c1, if_neg (by omega), if_neg c1]
      · rcases h5 with rfl | h5
        · simp at h2; omega
        · exact h5
theorem of_found {l pre m post : List UInt8} {n a : Int} (h1 : l = pre ++ m ++ post) (h2 : n = pre.length + a) (h3 : pre = [] ∨ 0 ≤ a) (h4 : post = [] ∨ a ≤ m.length) :
    (ofE m a = 0 → ofL l n = cntN pre + ofL m a ∧ ofC l n = (if ofL m a = 0 then colN pre + ofC m a else ofC m a)) ∧ ofE l n = ofE m a ∧ (ofE m a ≠ 0 → ofL l n = 0 ∧ ofC l n = 0) := by
  by_cases h : 0 ≤ a ∧ a ≤ m.length
  · obtain ⟨e1, e2, e3⟩ := of_in m a h
    have hl : 0 ≤ n ∧ n ≤ l.length := by rw [h1]; simp only [List.length_append]; omega
    obtain ⟨d1, d2, d3⟩ := of_in l n hl
    have ht : l.take n.toNat = pre ++ m.take a.toNat := by
      rw [h1, List.append_assoc, show n.toNat = pre.length + a.toNat by omega, List.take_append, List.take_of_length_le (by omega), show pre.length + a.toNat - pre.length = a.toNat by omega, List.take_append_of_le_length (by omega)]
    rw [e1, e2, e3, d1, d2, d3, ht, cnt_app, col_app]
    refine ⟨fun _ => ⟨by omega, ?_⟩, rfl, fun h => absurd rfl h⟩
    by_cases c : cntN (m.take a.toNat) = 0
    · rw [if_pos c, if_pos (by omega)]; omega
    · rw [if_neg c, if_neg (by omega)]
  · obtain ⟨e1, e2, e3⟩ := of_out m a h
    have hl : ¬ (0 ≤ n ∧ n ≤ l.length) := by
      rw [h1]; simp only [List.length_append]
      intro hh
      rcases h3 with rfl | h3
      · rcases h4 with rfl | h4
        · simp at h2 hh; omega
        · simp at h2 hh; omega
      · rcases h4 with rfl | h4
        · simp at hh; omega
        · omega
    obtain ⟨d1, d2, d3⟩ := of_out l n hl
    rw [e3, d1, d2, d3]
    exact ⟨fun h => by omega, rfl, fun _ => ⟨rfl, rfl⟩⟩

set_option maxHeartbeats 2000000 in
theorem of_down (w0 : World) (ab rb sb : Nat) (a : Int) (t : T) (w : World) (hS : OfSt w0 ab rb sb a 0 0 w) (ht : Rep w0 t) (ha : a ≤ 9223372036854775807) (hts : t.size ≤ 100000) :
    Calls Try.prog 45 #[ptr t.blk, .func (.func 49) #[] #[.pointer (some ⟨ab, 0, none⟩), .pointer (some ⟨sb, 0, none⟩)]] w fun e w' => e = .returned (.string (t.place a 0 0).s) ∧ OfSt w0 ab rb sb (t.place a 0 0).a (t.place a 0 0).x (t.place a 0 0).y w' := by
  obtain ⟨D, hD⟩ : ∃ D, t.place a 0 0 = D := ⟨_, rfl⟩
  rw [hD]
  have hD' := Lib.hid hD
  have hS' := Lib.hid hS
  have ht' := Lib.hid ht
  clear hD hS ht
  go_enter Try.func45, Try.ntmps45
  go_wp2_with fail
  go_loopg [0] t.hgt (fun k v wr => ∃ (u : T) (a' : Int) (x y : Nat), u.hgt ≤ k ∧ v = ptr u.blk ∧ Rep w0 u ∧ OfSt w0 ab rb sb a' x y wr ∧ a' ≤ 9223372036854775807 ∧ x + u.size ≤ 100000 ∧ y + u.size ≤ 100000 ∧ u.place a' x y = D)
  case atStart => exact ⟨t, a, 0, 0, Nat.le_refl _, rfl, ht'.out, hS'.out, ha, by omega, by omega, hD'.out⟩
  case round =>
    clear hS' ht' hD'
    obtain ⟨u, a', x, y, hu, rfl, hr, hb, ha', hx, hy, hd⟩ := hrel
    have hd' := Lib.hid hd
    have hb' := Lib.hid hb
    have hr' := Lib.hid hr
    cases u with
    | leaf b s =>
      obtain ⟨a0, a1, a2, a3, a4, a5, a6, az⟩ := (hr.below hb.1).1
      clear hr hb hd
      have eb : (T.leaf b s).blk = b := rfl
      go_wp2
      go_ret
      have e := hd'.out
      simp only [T.place] at e
      exact ⟨by rw [← e]; rfl, by rw [← e]; exact hb'.out⟩
    | fork b l r =>
      obtain ⟨⟨a0, a1, a2, a3, a4, a5, a6, az⟩, hl, hrr⟩ := hr.below hb.1
      have eb : (T.fork b l r).blk = b := rfl
      simp only [T.size] at hx hy
      clear hl hrr hr hb hd
      by_cases h1 : a' < l.size
      · have c1 := Lib.hid (of_stay w0 ab rb sb a' x y l · · hr'.out.2.1 h1)
        go_wp2_with fail
        refine (c1.out _ hb'.out).mono ?_
        rintro _ w2 ⟨rfl, hb2⟩
        clear a0 a1 a2 a3 a4 a5 a6 az
        obtain ⟨⟨a0, a1, a2, a3, a4, a5, a6, az⟩, hl, hrr⟩ := hr'.out.below hb2.1
        have hb2' := Lib.hid hb2
        clear hb2 hl hrr
        go_wp2
        go_roundg l.hgt
        case measure => simp only [T.hgt] at hu; omega
        case rel =>
          have e := hd'.out
          simp only [T.place, if_pos h1] at e
          exact ⟨l, a', x, y, Nat.le_refl _, rfl, hr'.out.2.1, hb2'.out, ha', by omega, by omega, e⟩
      · have c1 := Lib.hid (of_go w0 ab rb sb a' x y l · · hr'.out.2.1 (by omega) ha' (by omega) (by omega) (by omega))
        go_wp2_with fail
        refine (c1.out _ hb'.out).mono ?_
        rintro _ w2 ⟨rfl, hb2⟩
        clear a0 a1 a2 a3 a4 a5 a6 az
        obtain ⟨⟨a0, a1, a2, a3, a4, a5, a6, az⟩, hl, hrr⟩ := hr'.out.below hb2.1
        have hb2' := Lib.hid hb2
        clear hb2 hl hrr
        go_wp2
        go_roundg r.hgt
        case measure => simp only [T.hgt] at hu; omega
        case rel =>
          have e := hd'.out
          simp only [T.place, if_neg (Int.not_lt.mpr h1)] at e
          have q1 : cntN l.bytes ≤ l.size := by rw [← T.len_eq]; exact cnt_le _
          have q2 : colN l.bytes ≤ l.size := by rw [← T.len_eq]; exact col_le _
          exact ⟨r, a' - l.size, _, _, Nat.le_refl _, rfl, hr'.out.2.2, hb2'.out, by omega, by omega, by split <;> omega, e⟩
end Go.Proofs.Ytagjeckgfjddmaa
