/- What Image answers: the program's and the document's. -/
import Derived.Test.YtejllankcgcclaaUndo
namespace Go.Proofs.Ytejllankcgcclaa
open Go.RowKit
set_option linter.unusedVariables false

abbrev sp (f g : Int) : Value := .agg #[.int .i64 f, .int .i64 g]
def imF (s e : Int) (t : ByteArray) (f g : Int) : Int := if upB s e t && withinB f g 65536 then atZ s e t f else 0
def imG (s e : Int) (t : ByteArray) (f g : Int) : Int := if upB s e t && withinB f g 65536 then atZ s e t g else 0

/-- The boxed edit, the boxed span, and the result's memory, behind the call's first steps. -/
def ImAt (b : Nat) (s e : Int) (t : ByteArray) (f g : Int) (w0 w : World) : Prop :=
  EdAt b s e t w ∧ w.cell? ⟨b + 1, 0, none⟩ = some (.int .i64 f) ∧ w.cell? ⟨b + 1, 1, none⟩ = some (.int .i64 g) ∧
    w.cell? ⟨b + 2, 0, none⟩ = some (.int .i64 0) ∧ w.cell? ⟨b + 2, 1, none⟩ = some (.int .i64 0) ∧ w.frozen? ⟨b + 2, 0, none⟩ = false ∧ w.frozen? ⟨b + 2, 1, none⟩ = false ∧ b + 2 < w.heap.size ∧ Below b w0 w
theorem ImAt.below {b : Nat} {s e : Int} {t : ByteArray} {f g : Int} {w0 w w' : World} (h : ImAt b s e t f g w0 w) (hb : Below w.heap.size w w') : ImAt b s e t f g w0 w' := by
  obtain ⟨h1, h2, h3, h4, h5, h6, h7, h8, h9⟩ := h
  exact ⟨h1.below hb h1.2.2.2, (hb.cell (p := ⟨b + 1, 0, none⟩) (by show b + 1 < _; omega)).trans h2, (hb.cell (p := ⟨b + 1, 1, none⟩) (by show b + 1 < _; omega)).trans h3,
    (hb.cell (p := ⟨b + 2, 0, none⟩) h8).trans h4, (hb.cell (p := ⟨b + 2, 1, none⟩) h8).trans h5, (hb.frozen (p := ⟨b + 2, 0, none⟩) h8).trans h6, (hb.frozen (p := ⟨b + 2, 1, none⟩) h8).trans h7,
    Nat.lt_of_lt_of_le h8 hb.size, h9.trans (hb.mono (by omega))⟩
theorem frozen_new2 (w : World) (o1 o2 : Obj) (c : Array Value) (T : TypeId) (i : Nat) : (((w.alloc o1).alloc o2).alloc (.cells c T)).frozen? ⟨w.heap.size + 2, i, none⟩ = false := by
  have h : ∀ W : World, (W.alloc (.cells c T)).frozen? ⟨W.heap.size, i, none⟩ = false := fun W => by simp
  have h2 := h ((w.alloc o1).alloc o2)
  rwa [World.size_alloc, World.size_alloc] at h2
theorem ImAt.new (w : World) (s e : Int) (t : ByteArray) (f g : Int) :
    ImAt w.heap.size s e t f g w (((w.alloc (.cells #[.int .i64 s, .int .i64 e, .string t] 23)).alloc (.cells #[.int .i64 f, .int .i64 g] 40)).alloc (.cells #[.int .i64 0, .int .i64 0] 40)) := by
  refine ⟨((EdAt.new w s e t).alloc _).alloc _, ?_, ?_, ?_, ?_, ?_, ?_, ?_, ?_⟩
  · rw [World.cell?_alloc_past _ _ _ (by simp), World.cell?_alloc_at _ _ _ _ (by simp)]; rfl
  · rw [World.cell?_alloc_past _ _ _ (by simp), World.cell?_alloc_at _ _ _ _ (by simp)]; rfl
  · rw [World.cell?_alloc_at _ _ _ _ (by simp)]; rfl
  · rw [World.cell?_alloc_at _ _ _ _ (by simp)]; rfl
  · exact frozen_new2 w _ _ _ _ 0
  · exact frozen_new2 w _ _ _ _ 1
  · simp
  · exact (((Below.refl _ _).alloc (Nat.le_refl _) _).alloc (by simp) _).alloc (by simp; omega) _

theorem ImAt.drew {b : Nat} {s e : Int} {t : ByteArray} {f g : Int} {w0 w : World} (h : ImAt b s e t f g w0 w) : ImAt b s e t f g w0 w.drew :=
  h.below ((Below.refl _ _).drew)

theorem image_bad (s e : Int) (t : ByteArray) (f g : Int) (w : World) (ht : t.size ≤ 9223372036854775807) (h : (upB s e t && withinB f g 65536) = false) :
    Calls Try.prog 26 #[ed s e t, sp f g] w fun r w' => r = .returned (sp (imF s e t f g) (imG s e t f g)) ∧ Below w.heap.size w w' := by
  rw [show imF s e t f g = 0 by simp [imF, h], show imG s e t f g = 0 by simp [imG, h]]
  have I0 := ImAt.new w s e t f g
  cases hu : upB s e t
  · have hu' := Lib.hid hu; clear hu h
    have I0' := Lib.hid I0; clear I0
    go_enter Try.func26, Try.ntmps26
    go_wp2_with fail
    refine (upright_is _ _ _ _ ht _ hu'.out).mono ?_
    rintro _ w1 ⟨rfl, hb1⟩
    have I1 := Lib.hid (I0'.out.below hb1)
    obtain ⟨-, -, -, q0, q1, f0, f1, -, L⟩ := I1.out
    have L' := Lib.hid L; clear L
    go_wp2
    refine bodyPost_ret (v := sp 0 0) (by simp [results, Try.results26, go_sem, q0, q1]) rfl ⟨rfl, ?_⟩
    exact (L'.out.setCell (by simp; omega) _).setCell (by simp; omega) _
  · have hw : withinB f g 65536 = false := by rw [hu] at h; simpa using h
    have hu' := Lib.hid hu; clear hu h
    have hw' := Lib.hid hw; clear hw
    have I0' := Lib.hid I0; clear I0
    go_enter Try.func26, Try.ntmps26
    go_wp2_with fail
    refine (upright_is _ _ _ _ ht _ hu'.out).mono ?_
    rintro _ w1 ⟨rfl, hb1⟩
    have I1 := Lib.hid (I0'.out.below hb1)
    obtain ⟨-, b0, b1, q0, q1, f0, f1, -, L⟩ := I1.out
    have L' := Lib.hid L; clear L
    go_wp2_with (go_at_call 30; refine (within_no _ _ _ _ hw'.out).mono ?_; rintro e w' ⟨rfl, rfl⟩)
    refine bodyPost_ret (v := sp 0 0) (by simp [results, Try.results26, go_sem, q0, q1]) rfl ⟨rfl, ?_⟩
    exact (L'.out.setCell (by simp; omega) _).setCell (by simp; omega) _
theorem keepIm {b : Nat} {s e : Int} {t : ByteArray} {f g : Int} {w w' : World} (h : w.cell? ⟨b, 0, none⟩ = some (.int .i64 s) ∧ w.cell? ⟨b, 1, none⟩ = some (.int .i64 e) ∧ w.cell? ⟨b, 2, none⟩ = some (.string t) ∧ w.cell? ⟨b + 1, 0, none⟩ = some (.int .i64 f) ∧ w.cell? ⟨b + 1, 1, none⟩ = some (.int .i64 g))
    (hb : Below (b + 2) w w') : w'.cell? ⟨b, 0, none⟩ = some (.int .i64 s) ∧ w'.cell? ⟨b, 1, none⟩ = some (.int .i64 e) ∧ w'.cell? ⟨b, 2, none⟩ = some (.string t) ∧ w'.cell? ⟨b + 1, 0, none⟩ = some (.int .i64 f) ∧ w'.cell? ⟨b + 1, 1, none⟩ = some (.int .i64 g) :=
  ⟨(hb.cell (p := ⟨b, 0, none⟩) (by show b < _; omega)).trans h.1, (hb.cell (p := ⟨b, 1, none⟩) (by show b < _; omega)).trans h.2.1, (hb.cell (p := ⟨b, 2, none⟩) (by show b < _; omega)).trans h.2.2.1,
    (hb.cell (p := ⟨b + 1, 0, none⟩) (by show b + 1 < _; omega)).trans h.2.2.2.1, (hb.cell (p := ⟨b + 1, 1, none⟩) (by show b + 1 < _; omega)).trans h.2.2.2.2⟩

theorem keepIm2 {b : Nat} {s e : Int} {t : ByteArray} {f g : Int} {w : World} {u v : Value} (h : w.cell? ⟨b, 0, none⟩ = some (.int .i64 s) ∧ w.cell? ⟨b, 1, none⟩ = some (.int .i64 e) ∧ w.cell? ⟨b, 2, none⟩ = some (.string t) ∧ w.cell? ⟨b + 1, 0, none⟩ = some (.int .i64 f) ∧ w.cell? ⟨b + 1, 1, none⟩ = some (.int .i64 g)) :
    ((w.setCell ⟨b + 1 + 1, 0, none⟩ u).setCell ⟨b + 1 + 1, 1, none⟩ v).cell? ⟨b, 0, none⟩ = some (.int .i64 s) ∧ ((w.setCell ⟨b + 1 + 1, 0, none⟩ u).setCell ⟨b + 1 + 1, 1, none⟩ v).cell? ⟨b, 1, none⟩ = some (.int .i64 e) ∧ ((w.setCell ⟨b + 1 + 1, 0, none⟩ u).setCell ⟨b + 1 + 1, 1, none⟩ v).cell? ⟨b, 2, none⟩ = some (.string t) ∧ ((w.setCell ⟨b + 1 + 1, 0, none⟩ u).setCell ⟨b + 1 + 1, 1, none⟩ v).cell? ⟨b + 1, 0, none⟩ = some (.int .i64 f) ∧ ((w.setCell ⟨b + 1 + 1, 0, none⟩ u).setCell ⟨b + 1 + 1, 1, none⟩ v).cell? ⟨b + 1, 1, none⟩ = some (.int .i64 g) :=
  keepIm h (((Below.refl _ _).setCell (p := ⟨b + 1 + 1, 0, none⟩) (Nat.le_refl (b + 2)) _).setCell (p := ⟨b + 1 + 1, 1, none⟩) (Nat.le_refl (b + 2)) _)

theorem image_ok (s e : Int) (t : ByteArray) (f g : Int) (w : World) (ht : t.size ≤ 9223372036854775807) (h : (upB s e t && withinB f g 65536) = true) :
    Calls Try.prog 26 #[ed s e t, sp f g] w fun r w' => r = .returned (sp (imF s e t f g) (imG s e t f g)) ∧ Below w.heap.size w w' := by
  rw [show imF s e t f g = atZ s e t f by simp [imF, h], show imG s e t f g = atZ s e t g by simp [imG, h]]
  have I0 := ImAt.new w s e t f g
  obtain ⟨hu, hw⟩ : upB s e t = true ∧ withinB f g 65536 = true := by simpa using h
  have hu' := Lib.hid hu; clear hu h
  have hw' := Lib.hid hw; clear hw
  have I0' := Lib.hid I0; clear I0
  go_enter Try.func26, Try.ntmps26
  go_wp2_with fail
  refine (upright_is _ _ _ _ ht _ hu'.out).mono ?_
  rintro _ w1 ⟨rfl, hb1⟩
  have I1 := Lib.hid (I0'.out.below hb1)
  obtain ⟨⟨a0, a1, a2, -⟩, b0, b1, q0, q1, f0, f1, -, -⟩ := I1.out
  go_wp2_with (go_at_call 30; refine (within_yes _ _ _ _ hw'.out).mono ?_; rintro e w' ⟨rfl, rfl⟩)
  clear q0 q1 f0 f1
  have I : ImAt w.heap.size s e t f g w w1.drew := I1.out.drew
  go_region_held3 (fun w' => w'.cell? ⟨w.heap.size, 0, none⟩ = some (.int .i64 s) ∧ w'.cell? ⟨w.heap.size, 1, none⟩ = some (.int .i64 e) ∧ w'.cell? ⟨w.heap.size, 2, none⟩ = some (.string t) ∧ w'.cell? ⟨w.heap.size + 1, 0, none⟩ = some (.int .i64 f) ∧ w'.cell? ⟨w.heap.size + 1, 1, none⟩ = some (.int .i64 g))
    (first | exact ⟨a0, a1, a2, b0, b1⟩ | exact ⟨I.1.1, I.1.2.1, I.1.2.2.1, I.2.1, I.2.2.1⟩ | exact keepIm2 (by assumption))
    (first | (go_at_call 24; refine (at_any _ _ _ _ _ ht).mono ?_; rintro _ w' ⟨rfl, hb⟩; have I := I.below hb; have q0 := I.2.2.2.1; have q1 := I.2.2.2.2.1; have f0 := I.2.2.2.2.2.1; have f1 := I.2.2.2.2.2.2.1))
  go_wp2
  refine bodyPost_ret (v := sp (atZ s e t f) (atZ s e t g)) (by simp [results, Try.results26, go_sem, q0, q1]) rfl ⟨rfl, ?_⟩
  exact (I.2.2.2.2.2.2.2.2.setCell (by simp; omega) _).setCell (by simp; omega) _
theorem rimage_ok (s e : Int) (t : ByteArray) (f g : Int) (w : World) (ht : t.size ≤ 9223372036854775807) (h : (upB s e t && withinB f g 65536) = true) :
    Calls Try.prog 27 #[ed s e t, sp f g] w fun r w' => r = .returned (sp (imF s e t f g) (imG s e t f g)) ∧ Below w.heap.size w w' := by
  rw [show imF s e t f g = atZ s e t f by simp [imF, h], show imG s e t f g = atZ s e t g by simp [imG, h]]
  have I0 := ImAt.new w s e t f g
  obtain ⟨hu, hw⟩ : upB s e t = true ∧ withinB f g 65536 = true := by simpa using h
  have hu' := Lib.hid hu; clear hu h
  have hwb : 0 ≤ f ∧ f ≤ g ∧ g ≤ 65536 := by simpa [withinB] using hw
  clear hw
  obtain ⟨k1, k2, k3⟩ := hwb
  have I0' := Lib.hid I0; clear I0
  go_enter Try.func27, Try.ntmps27
  go_wp2_with fail
  refine (rupright_is _ _ _ _ _ hu'.out).mono ?_
  rintro _ w1 ⟨rfl, hb1⟩
  have I1 := Lib.hid (I0'.out.below hb1)
  obtain ⟨⟨a0, a1, a2, -⟩, b0, b1, q0, q1, f0, f1, -, -⟩ := I1.out
  go_wp2_with fail
  clear q0 q1 f0 f1
  have I : ImAt w.heap.size s e t f g w w1.drew := I1.out.drew
  go_region_held3 (fun w' => w'.cell? ⟨w.heap.size, 0, none⟩ = some (.int .i64 s) ∧ w'.cell? ⟨w.heap.size, 1, none⟩ = some (.int .i64 e) ∧ w'.cell? ⟨w.heap.size, 2, none⟩ = some (.string t) ∧ w'.cell? ⟨w.heap.size + 1, 0, none⟩ = some (.int .i64 f) ∧ w'.cell? ⟨w.heap.size + 1, 1, none⟩ = some (.int .i64 g))
    (first | exact ⟨a0, a1, a2, b0, b1⟩ | exact ⟨I.1.1, I.1.2.1, I.1.2.2.1, I.2.1, I.2.2.1⟩ | exact keepIm2 (by assumption))
    (first | (go_at_call 25; refine (rat_any _ _ _ _ _ ht).mono ?_; rintro _ w' ⟨rfl, hb⟩; have I := I.below hb; have q0 := I.2.2.2.1; have q1 := I.2.2.2.2.1; have f0 := I.2.2.2.2.2.1; have f1 := I.2.2.2.2.2.2.1))
  go_wp2
  refine bodyPost_ret (v := sp (atZ s e t f) (atZ s e t g)) (by simp [results, Try.results27, go_sem, q0, q1]) rfl ⟨rfl, ?_⟩
  exact (I.2.2.2.2.2.2.2.2.setCell (by simp; omega) _).setCell (by simp; omega) _

theorem rimage_bad (s e : Int) (t : ByteArray) (f g : Int) (w : World) (ht : t.size ≤ 9223372036854775807) (h : (upB s e t && withinB f g 65536) = false) :
    Calls Try.prog 27 #[ed s e t, sp f g] w fun r w' => r = .returned (sp (imF s e t f g) (imG s e t f g)) ∧ Below w.heap.size w w' := by
  rw [show imF s e t f g = 0 by simp [imF, h], show imG s e t f g = 0 by simp [imG, h]]
  have I0 := ImAt.new w s e t f g
  cases hu : upB s e t
  · have hu' := Lib.hid hu; clear hu h
    have I0' := Lib.hid I0; clear I0
    go_enter Try.func27, Try.ntmps27
    go_wp2_with fail
    refine (rupright_is _ _ _ _ _ hu'.out).mono ?_
    rintro _ w1 ⟨rfl, hb1⟩
    have I1 := Lib.hid (I0'.out.below hb1)
    obtain ⟨-, -, -, q0, q1, f0, f1, -, L⟩ := I1.out
    have L' := Lib.hid L; clear L
    go_wp2
    refine bodyPost_ret (v := sp 0 0) (by simp [results, Try.results27, go_sem, q0, q1]) rfl ⟨rfl, ?_⟩
    exact (L'.out.setCell (by simp; omega) _).setCell (by simp; omega) _
  · have hw : withinB f g 65536 = false := by rw [hu] at h; simpa using h
    have hu' := Lib.hid hu; clear hu h
    have I0' := Lib.hid I0; clear I0
    have hk : f < 0 ∨ (0 ≤ f ∧ g < f) ∨ (0 ≤ f ∧ f ≤ g ∧ 65536 < g) := by simp [withinB] at hw; omega
    clear hw
    rcases hk with k1 | ⟨k1, k2⟩ | ⟨k1, k2, k3⟩
    all_goals
      go_enter Try.func27, Try.ntmps27
      go_wp2_with fail
      refine (rupright_is _ _ _ _ _ hu'.out).mono ?_
      rintro _ w1 ⟨rfl, hb1⟩
      have I1 := Lib.hid (I0'.out.below hb1)
      obtain ⟨-, b0, b1, q0, q1, f0, f1, -, L⟩ := I1.out
      have L' := Lib.hid L; clear L
      go_wp2
      refine bodyPost_ret (v := sp 0 0) (by simp [results, Try.results27, go_sem, q0, q1]) rfl ⟨rfl, ?_⟩
      exact (L'.out.setCell (by simp; omega) _).setCell (by simp; omega) _

theorem image_any (s e : Int) (t : ByteArray) (f g : Int) (w : World) (ht : t.size ≤ 9223372036854775807) :
    Calls Try.prog 26 #[ed s e t, sp f g] w fun r w' => r = .returned (sp (imF s e t f g) (imG s e t f g)) ∧ Below w.heap.size w w' := by
  cases h : (upB s e t && withinB f g 65536)
  · exact image_bad s e t f g w ht h
  · exact image_ok s e t f g w ht h
theorem rimage_any (s e : Int) (t : ByteArray) (f g : Int) (w : World) (ht : t.size ≤ 9223372036854775807) :
    Calls Try.prog 27 #[ed s e t, sp f g] w fun r w' => r = .returned (sp (imF s e t f g) (imG s e t f g)) ∧ Below w.heap.size w w' := by
  cases h : (upB s e t && withinB f g 65536)
  · exact rimage_bad s e t f g w ht h
  · exact rimage_ok s e t f g w ht h
end Go.Proofs.Ytejllankcgcclaa
