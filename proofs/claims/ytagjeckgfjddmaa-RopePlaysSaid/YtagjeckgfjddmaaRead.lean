/- Text and Slice of a rope; those of the document. -/
import Derived.Test.YtagjeckgfjddmaaSpan
namespace Go.Proofs.Ytagjeckgfjddmaa
set_option linter.unusedSimpArgs false
set_option linter.unusedVariables false
open Go.RowKit

theorem KR.mk {b : Nat} {o : Option T} {w0 w : World} (h : RopeAt w b o) (h2 : Below w0.heap.size w0 w) : KR b o w0 w := ⟨h, h2⟩
theorem quiet_eq {P : Program} {f : FuncId} {args : Array Value} {w : World} {n : Nat} {v : Value} (h : Calls P f args (w.drewN n) fun e w' => e = .returned v ∧ w.drewN n = w') :
    Calls P f args (w.drewN n) fun e w'' => e = .returned v ∧ ∃ m, w'' = w.drewN m := h.mono fun _ _ ⟨he, hm⟩ => ⟨he, n, hm.symm⟩
theorem RopeAt.drewN {w : World} {b : Nat} {o : Option T} (h : RopeAt w b o) (n : Nat) : RopeAt (w.drewN n) b o := h.below (below_drewN (Below.refl _ _) n)
theorem TreeOf.cut {s : ByteArray} {o : Option T} (q : TreeOf s o) (a c : Nat) (h : a ≤ c) (hc : c ≤ s.size) : (⟨(Go.Proofs.Ytagjeckgfjddmaa.cut (flat (lvs o)) a c).toArray⟩ : ByteArray) = s.extract a c := by
  rw [q.1, ← cut_ext s a c a c (by omega) (by omega)]
theorem ext_all (s : ByteArray) : s.extract 0 s.size = s := by simp
theorem text_made (b : Nat) (o : Option T) (s : ByteArray) (w : World) (hr : RopeAt w b o) (q : TreeOf s o) :
    Calls Try.prog 30 #[ptr b] w fun e w' => e = .returned (.string s) ∧ Below w.heap.size w w' := by
  have h1 := Lib.hid (top_made b o w hr)
  have h2 := Lib.hid (len_is b o s w hr q)
  have h3 := Lib.hid (span_any o 0 s.size w hr.2.2.2 (by omega) (by omega) (by rw [q.total]; omega) (by rw [q.total]; have := q.2.2; omega))
  have he := Lib.hid (show (⟨(cut (flat (lvs o)) 0 s.size).toArray⟩ : ByteArray) = s by have := q.cut 0 s.size (by omega) (by omega); rw [ext_all] at this; exact this)
  clear hr q
  go_enter Try.func30, Try.ntmps30
  go_wp2_with fail
  refine h1.out.mono ?_
  rintro _ _ ⟨rfl, rfl⟩
  go_wp2_with fail
  refine h2.out.mono ?_
  rintro _ _ ⟨rfl, rfl⟩
  go_wp2_with fail
  refine h3.out.mono ?_
  rintro _ w' ⟨rfl, hb⟩
  rw [he.out]
  go_wp2
  go_ret
  exact ⟨rfl, hb⟩

abbrev sp (a c : Int) : Value := .agg #[.int .i64 a, .int .i64 c]
/-- Whether a span lies within so many bytes. -/
def inS (n : Nat) (f g : Int) : Bool := decide (0 ≤ f ∧ f ≤ g ∧ g ≤ n)
def slS (s : ByteArray) (f g : Int) : ByteArray := if inS s.size f g then s.extract f.toNat g.toNat else .empty
def slE (s : ByteArray) (f g : Int) : Int := if inS s.size f g then 0 else 4
theorem slS_in {s : ByteArray} {f g : Int} (h : 0 ≤ f ∧ f ≤ g ∧ g ≤ s.size) : slS s f g = s.extract f.toNat g.toNat ∧ slE s f g = 0 := by
  have : inS s.size f g = true := by simpa [inS] using h
  simp [slS, slE, this]
theorem slS_out {s : ByteArray} {f g : Int} (h : ¬ (0 ≤ f ∧ f ≤ g ∧ g ≤ s.size)) : slS s f g = .empty ∧ slE s f g = 4 := by
  have : inS s.size f g = false := by simpa [inS] using h
  simp [slS, slE, this]

theorem SpAt (w : World) (f g : Int) : (w.alloc (.cells #[.int .i64 f, .int .i64 g] 32)).cell? ⟨w.heap.size, 0, none⟩ = some (.int .i64 f) ∧ (w.alloc (.cells #[.int .i64 f, .int .i64 g] 32)).cell? ⟨w.heap.size, 1, none⟩ = some (.int .i64 g) ∧ w.heap.size < (w.alloc (.cells #[.int .i64 f, .int .i64 g] 32)).heap.size := ⟨by simp, by simp, by simp⟩

set_option maxHeartbeats 2000000 in
set_option maxRecDepth 100000 in
theorem slice_out (b : Nat) (o : Option T) (s : ByteArray) (f g : Int) (w : World) (hr : RopeAt w b o) (q : TreeOf s o) (h : ¬ (0 ≤ f ∧ f ≤ g ∧ g ≤ s.size)) :
    Calls Try.prog 18 #[ptr b, sp f g] w fun e w' => e = .returned (.tuple #[.string .empty, .int .i64 4]) ∧ Below w.heap.size w w' := by
  have hL0 := (Below.refl w.heap.size w).alloc (Nat.le_refl _) (.cells #[.int .i64 f, .int .i64 g] 32)
  have h1 := Lib.hid (there_made b o _ (hr.below hL0))
  have h2 := Lib.hid (fun wz (h : RopeAt wz b o) => len_is b o s wz h q)
  have hr2 := Lib.hid (hr.below hL0)
  have hL := Lib.hid hL0
  obtain ⟨e0, e1, ez⟩ := SpAt w f g
  clear hr q hL0
  have key : ∀ (p1 p2 p3 : Bool), decide (f < 0) = p1 → decide (g < f) = p2 → decide ((s.size : Int) < g) = p3 → (p1 || p2 || p3) = true →
      Calls Try.prog 18 #[ptr b, sp f g] w fun e w' => e = .returned (.tuple #[.string .empty, .int .i64 4]) ∧ Below w.heap.size w w' := by
    intro p1 p2 p3 d1 d2 d3 hp
    clear h
    cases p1 <;> cases p2 <;> cases p3 <;> first
      | (exfalso; revert hp; decide)
      | (clear hp
         go_enter Try.func18, Try.ntmps18
         go_wp2_with fail
         refine h1.out.mono ?_
         rintro _ _ ⟨rfl, rfl⟩
         go_wp2_with fail
         go_quiet ((go_at_call 29; exact quiet_eq (h2.out _ (hr2.out.drewN _))))
         go_wp2
         go_ret2
         exact ⟨rfl, below_drewN hL.out _⟩)
  exact key _ _ _ rfl rfl rfl (by simp; omega)

theorem up_sl {v0 v1 v2 : Value} {b0 b1 : Nat} {rb : Nat} {o : Option T} {w0 w w' : World} (h : w.cell? ⟨b0, 1, none⟩ = some (v0) ∧ w.cell? ⟨b1, 0, none⟩ = some (v1) ∧ w.cell? ⟨b1, 1, none⟩ = some (v2) ∧ b0 < w.heap.size ∧ b1 < w.heap.size ∧ KR rb o w0 w) (hb : Below w.heap.size w w') : w'.cell? ⟨b0, 1, none⟩ = some (v0) ∧ w'.cell? ⟨b1, 0, none⟩ = some (v1) ∧ w'.cell? ⟨b1, 1, none⟩ = some (v2) ∧ b0 < w'.heap.size ∧ b1 < w'.heap.size ∧ KR rb o w0 w' := by
  obtain ⟨h0, h1, h2, z0, z1, K⟩ := h
  exact ⟨(hb.cell (p := ⟨b0, 1, none⟩) z0).trans h0, (hb.cell (p := ⟨b1, 0, none⟩) z1).trans h1, (hb.cell (p := ⟨b1, 1, none⟩) z1).trans h2, Nat.lt_of_lt_of_le z0 hb.size, Nat.lt_of_lt_of_le z1 hb.size, K.up hb⟩
theorem up_sl_k {v0 v1 v2 : Value} {b0 b1 : Nat} {rb : Nat} {o : Option T} {w0 w : World} (h : w.cell? ⟨b0, 1, none⟩ = some (v0) ∧ w.cell? ⟨b1, 0, none⟩ = some (v1) ∧ w.cell? ⟨b1, 1, none⟩ = some (v2) ∧ b0 < w.heap.size ∧ b1 < w.heap.size ∧ KR rb o w0 w) : KR rb o w0 w := h.2.2.2.2.2

set_option maxHeartbeats 2000000 in
set_option maxRecDepth 100000 in
theorem slice_in (b : Nat) (o : Option T) (s : ByteArray) (f g : Nat) (w : World) (hr : RopeAt w b o) (q : TreeOf s o) (hfg : f ≤ g) (hg : g ≤ s.size) :
    Calls Try.prog 18 #[ptr b, sp f g] w fun e w' => e = .returned (.tuple #[.string (s.extract f g), .int .i64 0]) ∧ Below w.heap.size w w' := by
  have hL0 := (Below.refl w.heap.size w).alloc (Nat.le_refl _) (.cells #[.int .i64 f, .int .i64 g] 32)
  have h1 := Lib.hid (there_made b o _ (hr.below hL0))
  have h2 := Lib.hid (fun wz (h : RopeAt wz b o) => len_is b o s wz h q)
  have h3 := Lib.hid (fun wz (h : RepO wz o) => span_any o f g wz h (by omega) (by omega) (by rw [q.total]; omega) (by rw [q.total]; have := q.2.2; omega))
  have he := Lib.hid (q.cut f g hfg hg)
  have hr2 := Lib.hid (hr.below hL0)
  have hL := Lib.hid hL0
  obtain ⟨e0, e1, ez⟩ := SpAt w f g
  obtain ⟨-, r1, rz, -⟩ := hr.below hL0
  have d1 : decide ((f : Int) < 0) = false := by simp
  have d2 : decide (g < f) = false := by simp; omega
  have d3 : decide (s.size < g) = false := by simp; omega
  clear hr q hL0
  go_enter Try.func18, Try.ntmps18
  go_wp2_with fail
  refine h1.out.mono ?_
  rintro _ _ ⟨rfl, rfl⟩
  go_wp2_with fail
  go_quiet ((go_at_call 29; exact quiet_eq (h2.out _ (hr2.out.drewN _))))
  clear d1 d2 d3
  go_wp2_with fail
  have hr3 := Lib.hid (hr2.out.drewN nq)
  have hL3 := Lib.hid (below_drewN hL.out nq)
  go_region_held3 (fun w' => w'.cell? ⟨b, 1, none⟩ = some (topPtr o) ∧ w'.cell? ⟨w.heap.size, 0, none⟩ = some (.int .i64 f) ∧ w'.cell? ⟨w.heap.size, 1, none⟩ = some (.int .i64 g) ∧ b < w'.heap.size ∧ w.heap.size < w'.heap.size ∧ KR b o w w')
    (first | assumption | exact ⟨r1, e0, e1, rz, ez, (KR.mk hr3.out hL3.out).drew⟩ | exact up_sl (by assumption) hb | exact up_sl (by assumption) ((Below.refl _ _).alloc (Nat.le_refl _) _))
    (first | (go_at_call 47; refine (h3.out _ (by first | exact (KR.mk hr3.out hL3.out).drew.tree | exact KR.tree (up_sl_k (by assumption)))).mono ?_; rw [he.out]; rintro _ w' ⟨rfl, hb⟩))
  go_wp2
  go_ret2
  exact ⟨rfl, (up_sl_k (by assumption)).2⟩
theorem slice_any (b : Nat) (o : Option T) (s : ByteArray) (f g : Int) (w : World) (hr : RopeAt w b o) (q : TreeOf s o) :
    Calls Try.prog 18 #[ptr b, sp f g] w fun e w' => e = .returned (.tuple #[.string (slS s f g), .int .i64 (slE s f g)]) ∧ Below w.heap.size w w' := by
  by_cases h : 0 ≤ f ∧ f ≤ g ∧ g ≤ s.size
  · rw [(slS_in h).1, (slS_in h).2]
    have := slice_in b o s f.toNat g.toNat w hr q (by omega) (by omega)
    rwa [show ((f.toNat : Nat) : Int) = f by omega, show ((g.toNat : Nat) : Int) = g by omega] at this
  · rw [(slS_out h).1, (slS_out h).2]
    exact slice_out b o s f g w hr q h
end Go.Proofs.Ytagjeckgfjddmaa
