/- Byte of a rope: down to the leaf that has it. -/
import Derived.Test.YtagjeckgfjddmaaRead
namespace Go.Proofs.Ytagjeckgfjddmaa
set_option linter.unusedSimpArgs false
set_option linter.unusedVariables false
open Go.RowKit

/-- A captured number lies in a block of its own, beyond what was there, and what was there is as it was. -/
def IntBox (w0 : World) (ab : Nat) (a : Int) (w : World) : Prop := Below w0.heap.size w0 w ∧ w.cell? ⟨ab, 0, none⟩ = some (.int .i64 a) ∧ w.frozen? ⟨ab, 0, none⟩ = false ∧ w0.heap.size ≤ ab ∧ ab < w.heap.size
theorem IntBox.new (w : World) (a : Int) : IntBox w w.heap.size a (w.alloc (.cells #[.int .i64 a] 3)) := ⟨(Below.refl _ _).alloc (Nat.le_refl _) _, by simp, by simp, Nat.le_refl _, by simp⟩
theorem IntBox.drewN {w0 w : World} {ab : Nat} {a : Int} (h : IntBox w0 ab a w) (n : Nat) : IntBox w0 ab a (w.drewN n) := ⟨below_drewN h.1 n, h.2⟩
theorem IntBox.set {w0 w : World} {ab : Nat} {a : Int} (h : IntBox w0 ab a w) (a' : Int) : IntBox w0 ab a' (w.setCell ⟨ab, 0, none⟩ (.int .i64 a')) := by
  obtain ⟨h1, h2, h3, h4, h5⟩ := h
  exact ⟨h1.setCell h4 _, World.cell?_setCell_same _ _ _ h2, by simpa using h3, h4, by simpa using h5⟩

theorem byte_stay (w0 : World) (ab : Nat) (a : Nat) (l : T) (w : World) (hS : IntBox w0 ab a w) (hl : Rep w0 l) (h : a < l.size) :
    Calls Try.prog 46 #[ptr l.blk, .pointer (some ⟨ab, 0, none⟩)] w fun e w' => e = .returned (.bool false) ∧ IntBox w0 ab a w' := by
  obtain ⟨p_l, q_l, s_l, l0, l1, l2, l3, l4, l5, l6, lz⟩ := (hl.below hS.1).node
  have hS' := Lib.hid hS
  obtain ⟨-, c0, cf, -, cz⟩ := hS
  clear hl l0 l1 l2 l4 l5 l6
  go_enter Try.func46, Try.ntmps46
  go_wp2_with fail
  go_quiet (fail)
  go_wp2
  go_ret
  exact ⟨rfl, hS'.out.drewN _⟩
set_option maxRecDepth 100000 in
theorem byte_go (w0 : World) (ab : Nat) (a : Nat) (l : T) (w : World) (hS : IntBox w0 ab a w) (hl : Rep w0 l) (h : l.size ≤ a) (ha : a ≤ 1000000) :
    Calls Try.prog 46 #[ptr l.blk, .pointer (some ⟨ab, 0, none⟩)] w fun e w' => e = .returned (.bool true) ∧ IntBox w0 ab ((a - l.size : Nat) : Int) w' := by
  obtain ⟨p_l, q_l, s_l, l0, l1, l2, l3, l4, l5, l6, lz⟩ := (hl.below hS.1).node
  have hS' := Lib.hid hS
  obtain ⟨-, c0, cf, -, cz⟩ := hS
  have s1 : IntKind.i64.wrap ((a : Int) - (l.size : Int)) = ((a - l.size : Nat) : Int) := by rw [IntWalk.i64_in _ (by omega)]; omega
  obtain ⟨d, hd⟩ : ∃ d, a - l.size = d := ⟨_, rfl⟩
  rw [hd] at s1 ⊢
  have s1' := Lib.hid s1
  clear hl l0 l1 l2 l4 l5 l6 s1 hd
  go_enter Try.func46, Try.ntmps46
  go_wp2_with fail
  go_quiet (fail)
  go_wp2_with fail
  have s1 := s1'.out
  have l3' : (w.drewN nq).cell? ⟨l.blk, 3, none⟩ = some (.int .i64 l.size) := l3
  have lz' : l.blk < (w.drewN nq).heap.size := lz
  have hS9 := Lib.hid (hS'.out.drewN nq)
  obtain ⟨-, c0', cf', -, cz'⟩ := hS9.out
  clear l3 lz c0 cf cz hS'
  generalize w.drewN nq = w9 at *
  go_still_tail 6, (by kernel_rfl)
  clear s1
  change wpList _ _ _ _ _ w9.drew
  go_wp2
  go_ret
  exact ⟨rfl, IntBox.set (w := w9.drew) (hS9.out.drewN 1) _⟩

/-- The leaf that has a byte, and where in it. -/
def T.pick : T → Nat → ByteArray × Nat
  | .leaf _ s, a => (s, a)
  | .fork _ l r, a => if a < l.size then l.pick a else r.pick (a - l.size)
theorem T.pick_spec (t : T) : ∀ a, a < t.size → (t.pick a).2 < (t.pick a).1.size ∧ (t.pick a).1.data.toList[(t.pick a).2]? = t.bytes[a]? := by
  induction t with
  | leaf b s => intro a h; exact ⟨h, rfl⟩
  | fork b l r hl hr =>
    intro a h
    simp only [T.size] at h
    by_cases h1 : a < l.size
    · simp only [T.pick, if_pos h1, T.bytes]
      rw [List.getElem?_append_left (by rw [T.len_eq]; exact h1)]
      exact hl a h1
    · simp only [T.pick, if_neg h1, T.bytes]
      rw [List.getElem?_append_right (by rw [T.len_eq]; omega), T.len_eq]
      exact hr (a - l.size) (by omega)

set_option maxHeartbeats 1000000 in
theorem byte_down (w0 : World) (ab a : Nat) (t : T) (w : World) (hS : IntBox w0 ab a w) (ht : Rep w0 t) (ha : a ≤ 1000000) :
    Calls Try.prog 45 #[ptr t.blk, .func (.func 46) #[] #[.pointer (some ⟨ab, 0, none⟩)]] w fun e w' => e = .returned (.string (t.pick a).1) ∧ IntBox w0 ab ((t.pick a).2 : Nat) w' := by
  obtain ⟨D, hD⟩ : ∃ D, t.pick a = D := ⟨_, rfl⟩
  rw [hD]
  have hD' := Lib.hid hD
  have hS' := Lib.hid hS
  have ht' := Lib.hid ht
  clear hD hS ht
  go_enter Try.func45, Try.ntmps45
  go_wp2_with fail
  go_loopg [0] t.hgt (fun k v wr => ∃ (u : T) (a' : Nat), u.hgt ≤ k ∧ v = ptr u.blk ∧ Rep w0 u ∧ IntBox w0 ab a' wr ∧ a' ≤ 1000000 ∧ u.pick a' = D)
  case atStart => exact ⟨t, a, Nat.le_refl _, rfl, ht'.out, hS'.out, ha, hD'.out⟩
  case round =>
    clear hS' ht' hD'
    obtain ⟨u, a', hu, rfl, hr, hb, ha', hd⟩ := hrel
    have hd' := Lib.hid hd
    have hb' := Lib.hid hb
    have hr' := Lib.hid hr
    cases u with
    | leaf b s =>
      obtain ⟨a0, a1, a2, a3, a4, a5, a6, az⟩ := (hr.below hb.1).1
      clear hr hb hd
      have eb : (T.leaf b s).blk = b := rfl
      go_wp2
      go_ret
      have e := hd'.out
      simp only [T.pick] at e
      exact ⟨by rw [← e]; rfl, by rw [← e]; exact hb'.out⟩
    | fork b l r =>
      obtain ⟨⟨a0, a1, a2, a3, a4, a5, a6, az⟩, hl, hrr⟩ := hr.below hb.1
      have eb : (T.fork b l r).blk = b := rfl
      clear hl hrr hr hb hd
      by_cases h1 : a' < l.size
      · have c1 := Lib.hid (byte_stay w0 ab a' l · · hr'.out.2.1 h1)
        go_wp2_with fail
        refine (c1.out _ hb'.out).mono ?_
        rintro _ w2 ⟨rfl, hb2⟩
        clear a0 a1 a2 a3 a4 a5 a6 az
        obtain ⟨⟨a0, a1, a2, a3, a4, a5, a6, az⟩, hl, hrr⟩ := hr'.out.below hb2.1
        have hb2' := Lib.hid hb2
        clear hb2 hl hrr
        go_wp2
        go_roundg l.hgt
        case measure => simp only [T.hgt] at hu; omega
        case rel =>
          have e := hd'.out
          simp only [T.pick, if_pos h1] at e
          exact ⟨l, a', Nat.le_refl _, rfl, hr'.out.2.1, hb2'.out, ha', e⟩
      · have c1 := Lib.hid (byte_go w0 ab a' l · · hr'.out.2.1 (by omega) ha')
        go_wp2_with fail
        refine (c1.out _ hb'.out).mono ?_
        rintro _ w2 ⟨rfl, hb2⟩
        clear a0 a1 a2 a3 a4 a5 a6 az
        obtain ⟨⟨a0, a1, a2, a3, a4, a5, a6, az⟩, hl, hrr⟩ := hr'.out.below hb2.1
        have hb2' := Lib.hid hb2
        clear hb2 hl hrr
        go_wp2
        go_roundg r.hgt
        case measure => simp only [T.hgt] at hu; omega
        case rel =>
          have e := hd'.out
          simp only [T.pick, if_neg h1] at e
          exact ⟨r, a' - l.size, Nat.le_refl _, rfl, hr'.out.2.2, hb2'.out, by omega, e⟩
end Go.Proofs.Ytagjeckgfjddmaa
