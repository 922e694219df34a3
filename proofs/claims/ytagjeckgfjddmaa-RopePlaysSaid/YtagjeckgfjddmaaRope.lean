/- A rope in memory; New, Len, Height, Splice. -/
import Derived.Test.YtagjeckgfjddmaaPlant
namespace Go.Proofs.Ytagjeckgfjddmaa
set_option linter.unusedSimpArgs false
set_option linter.unusedVariables false
open Go.RowKit

/-- A rope that a call made lies there, with this tree. -/
def RopeAt (w : World) (b : Nat) (o : Option T) : Prop := w.cell? ⟨b, 0, none⟩ = some (.bool true) ∧ w.cell? ⟨b, 1, none⟩ = some (topPtr o) ∧ b < w.heap.size ∧ RepO w o
theorem RopeAt.below {w w' : World} {b : Nat} {o : Option T} (h : RopeAt w b o) (hb : Below w.heap.size w w') : RopeAt w' b o :=
  ⟨(hb.cell (p := ⟨b, 0, none⟩) h.2.2.1).trans h.1, (hb.cell (p := ⟨b, 1, none⟩) h.2.2.1).trans h.2.1, Nat.lt_of_lt_of_le h.2.2.1 hb.size, h.2.2.2.below hb⟩
/-- The tree is one of this text. -/
def TreeOf (s : ByteArray) (o : Option T) : Prop := flat (lvs o) = s.data.toList ∧ FineO o ∧ s.size ≤ 65536
theorem TreeOf.total {s : ByteArray} {o : Option T} (h : TreeOf s o) : total (lvs o) = s.size := by rw [← flat_len, h.1, ba_len]
theorem FineO.good {o : Option T} (h : FineO o) : Good (lvs o) := by cases o with | none => trivial | some t => exact h.2.1
theorem FineO.bal {o : Option T} (h : FineO o) : balO o := by cases o with | none => trivial | some t => exact h.1
theorem FineO.mk {o : Option T} (h1 : balO o) (h2 : Good (lvs o)) (h3 : Go.Proofs.Ytagjeckgfjddmaa.total (lvs o) ≤ 100000) : FineO o := by
  cases o with
  | none => trivial
  | some t => exact ⟨h1, h2, by rw [T.size_eq]; exact h3⟩
theorem FineO.total {o : Option T} (h : FineO o) : Go.Proofs.Ytagjeckgfjddmaa.total (lvs o) ≤ 100000 := by
  cases o with
  | none => simp [lvs, Go.Proofs.Ytagjeckgfjddmaa.total]
  | some t => have := h.2.2; rw [T.size_eq] at this; exact this
def hgtO : Option T → Nat | none => 0 | some t => t.hgt

theorem there_made (b : Nat) (o : Option T) (w : World) (h : RopeAt w b o) : Calls Try.prog 44 #[ptr b] w fun e w' => e = .returned (.bool true) ∧ w = w' := by
  obtain ⟨h0, -, hz, -⟩ := h
  go_enter Try.func44, Try.ntmps44
  go_wp2
  go_ret
  exact ⟨rfl, rfl⟩
theorem there_nil (w : World) : Calls Try.prog 44 #[.pointer none] w fun e w' => e = .returned (.bool false) ∧ w = w' := by
  go_enter Try.func44, Try.ntmps44
  go_wp2
  go_ret
  exact ⟨rfl, rfl⟩
theorem there_blank (b : Nat) (w : World) (h0 : w.cell? ⟨b, 0, none⟩ = some (.bool false)) (hz : b < w.heap.size) : Calls Try.prog 44 #[ptr b] w fun e w' => e = .returned (.bool false) ∧ w = w' := by
  go_enter Try.func44, Try.ntmps44
  go_wp2
  go_ret
  exact ⟨rfl, rfl⟩
theorem top_made (b : Nat) (o : Option T) (w : World) (h : RopeAt w b o) : Calls Try.prog 42 #[ptr b] w fun e w' => e = .returned (topPtr o) ∧ w = w' := by
  have h' := Lib.hid h
  obtain ⟨-, h1, hz, -⟩ := h
  go_enter Try.func42, Try.ntmps42
  go_wp2_with (go_at_call 44; refine (there_made b o _ h'.out).mono ?_; rintro _ _ ⟨rfl, rfl⟩)
  go_ret
  exact ⟨rfl, rfl⟩
theorem bytes_any (o : Option T) (w : World) (h : RepO w o) : Calls Try.prog 60 #[topPtr o] w fun e w' => e = .returned (.int .i64 (total (lvs o))) ∧ w = w' := by
  cases o with
  | none =>
    unfold topPtr
    go_enter Try.func60, Try.ntmps60
    go_wp2
    go_ret
    exact ⟨by simp [lvs, total], rfl⟩
  | some t =>
    obtain ⟨p_a, q_a, s_a, a0, a1, a2, a3, a4, a5, a6, az⟩ := Rep.node h
    have e := Lib.hid (T.size_eq t)
    clear h
    unfold topPtr
    go_enter Try.func60, Try.ntmps60
    go_wp2
    go_ret
    exact ⟨by show _ = Ending.returned (.int .i64 (total t.leaves)); rw [← e.out]; rfl, rfl⟩
theorem len_made (b : Nat) (o : Option T) (w : World) (h : RopeAt w b o) : Calls Try.prog 29 #[ptr b] w fun e w' => e = .returned (.int .i64 (total (lvs o))) ∧ w = w' := by
  have h' := Lib.hid h
  clear h
  go_enter Try.func29, Try.ntmps29
  go_wp2_with fail
  refine (top_made b o _ h'.out).mono ?_
  rintro _ _ ⟨rfl, rfl⟩
  go_wp2_with fail
  refine (bytes_any o _ h'.out.2.2.2).mono ?_
  rintro _ _ ⟨rfl, rfl⟩
  go_wp2
  go_ret
  exact ⟨rfl, rfl⟩
theorem len_is (b : Nat) (o : Option T) (s : ByteArray) (w : World) (h : RopeAt w b o) (q : TreeOf s o) : Calls Try.prog 29 #[ptr b] w fun e w' => e = .returned (.int .i64 s.size) ∧ w = w' := by
  rw [← q.total]; exact len_made b o w h
theorem height_made (b : Nat) (o : Option T) (w : World) (h : RopeAt w b o) : Calls Try.prog 31 #[ptr b] w fun e w' => e = .returned (.int .i64 (hgtO o)) ∧ w = w' := by
  have h' := Lib.hid h
  cases o with
  | none =>
    clear h
    go_enter Try.func31, Try.ntmps31
    go_wp2_with fail
    refine (top_made b none _ h'.out).mono ?_
    unfold topPtr
    rintro _ _ ⟨rfl, rfl⟩
    go_wp2
    go_ret
    exact ⟨rfl, rfl⟩
  | some t =>
    obtain ⟨p_a, q_a, s_a, a0, a1, a2, a3, a4, a5, a6, az⟩ := Rep.node h.2.2.2
    clear h
    go_enter Try.func31, Try.ntmps31
    go_wp2_with fail
    refine (top_made b (some t) _ h'.out).mono ?_
    unfold topPtr
    rintro _ _ ⟨rfl, rfl⟩
    go_wp2
    go_ret
    exact ⟨rfl, rfl⟩
theorem rooted_any (o : Option T) (w : World) (h : RepO w o) : Calls Try.prog 39 #[topPtr o] w fun e w' => ∃ b, e = .returned (ptr b) ∧ RopeAt w' b o ∧ Below w.heap.size w w' := by
  cases o with
  | none =>
    unfold topPtr
    go_enter Try.func39, Try.ntmps39
    go_wp2
    go_ret
    exact ⟨w.heap.size, rfl, ⟨by simp, by simp [topPtr], by simp, trivial⟩, (Below.refl _ _).alloc (Nat.le_refl _) _⟩
  | some t =>
    have h' := Lib.hid h
    clear h
    unfold topPtr
    go_enter Try.func39, Try.ntmps39
    go_wp2
    go_ret
    exact ⟨w.heap.size, rfl, ⟨by simp, by simp [topPtr], by simp, h'.out.below ((Below.refl _ _).alloc (Nat.le_refl _) _)⟩, (Below.refl _ _).alloc (Nat.le_refl _) _⟩
/-- What New and Splice hand back. -/
def Made (Q : Option T → Prop) (w : World) (e : Ending) (w' : World) : Prop := ∃ b o, e = .returned (.tuple #[ptr b, .int .i64 0]) ∧ RopeAt w' b o ∧ Q o ∧ Below w.heap.size w w'
theorem new_ok (s : ByteArray) (w : World) (hs : s.size ≤ 65536) : Calls Try.prog 12 #[.string s] w (Made (PlantO s) w) := by
  go_enter Try.func12, Try.ntmps12
  go_wp2_with fail
  refine (plant_any s _ (by omega)).mono ?_
  rintro _ w1 ⟨o, rfl, hR, hQ, hb⟩
  go_wp2_with fail
  refine (rooted_any o _ hR).mono ?_
  rintro _ w2 ⟨b, rfl, hA, hb2⟩
  go_wp2
  go_ret2
  exact ⟨b, o, rfl, hA, hQ, hb.trans (hb2.mono hb.size)⟩
theorem new_long (s : ByteArray) (w : World) (hs : 65536 < s.size) : Calls Try.prog 12 #[.string s] w fun e w' => e = .returned (.tuple #[.pointer none, .int .i64 3]) ∧ w = w' := by
  go_enter Try.func12, Try.ntmps12
  go_wp2
  go_ret2
  exact ⟨rfl, rfl⟩
theorem PlantO.tree {s : ByteArray} {o : Option T} (h : PlantO s o) (hs : s.size ≤ 65536) : TreeOf s o := ⟨h.1, h.2.1, hs⟩

theorem head_nil (w : World) : Calls Try.prog 55 #[.pointer none, .int .i64 0] w fun e w' => e = .returned (.pointer none) ∧ w = w' := by
  go_enter Try.func55, Try.ntmps55
  go_wp2_with fail
  go_ret
  exact ⟨rfl, rfl⟩
theorem tail_nil (w : World) : Calls Try.prog 56 #[.pointer none, .int .i64 0] w fun e w' => e = .returned (.pointer none) ∧ w = w' := by
  go_enter Try.func56, Try.ntmps56
  go_wp2_with fail
  go_ret
  exact ⟨rfl, rfl⟩
def HeadQ (o : Option T) (n : Nat) (u : Option T) : Prop := HeadO (lvs o) n (lvs u) ∧ balO u
def TailQ (o : Option T) (n : Nat) (u : Option T) : Prop := TailO (lvs o) n (lvs u) ∧ balO u
theorem head_q (o : Option T) (n : Nat) (w : World) (hr : RepO w o) (hf : FineO o) (hn : n ≤ total (lvs o)) : Calls Try.prog 55 #[topPtr o, .int .i64 n] w (OutO (HeadQ o n) w) := by
  cases o with
  | none =>
    obtain rfl : n = 0 := by simpa [lvs, total] using hn
    refine (head_nil w).mono ?_
    rintro _ _ ⟨rfl, rfl⟩
    exact ⟨none, rfl, trivial, ⟨headO_none trivial, trivial⟩, Below.refl _ _⟩
  | some t => exact head_any t n w hr hf (by rw [T.size_eq]; exact hn)
theorem tail_q (o : Option T) (n : Nat) (w : World) (hr : RepO w o) (hf : FineO o) (hn : n ≤ total (lvs o)) : Calls Try.prog 56 #[topPtr o, .int .i64 n] w (OutO (TailQ o n) w) := by
  cases o with
  | none =>
    obtain rfl : n = 0 := by simpa [lvs, total] using hn
    refine (tail_nil w).mono ?_
    rintro _ _ ⟨rfl, rfl⟩
    exact ⟨none, rfl, trivial, ⟨tailO_all trivial, trivial⟩, Below.refl _ _⟩
  | some t => exact tail_any t n w hr hf (by rw [T.size_eq]; exact hn)
theorem head_fine {o u : Option T} {n : Nat} (h : HeadQ o n u) (hf : FineO o) : FineO u := by
  refine FineO.mk h.2 h.1.2.2.1 ?_
  rw [← flat_len, h.1.2.1, List.length_take, flat_len]
  have := hf.total; omega
theorem tail_fine {o u : Option T} {n : Nat} (h : TailQ o n u) (hf : FineO o) : FineO u := by
  refine FineO.mk h.2 h.1.2.2.1 ?_
  rw [← flat_len, h.1.2.1, List.length_drop, flat_len]
  have := hf.total; omega

/-- What Splice makes of a tree: a tree of the text behind the edit, and most leaves the same. -/
def Spliced (s : ByteArray) (a c : Nat) (t : ByteArray) (o u : Option T) : Prop :=
  TreeOf (Ed.splice s a c t) u ∧ ∃ P X S K, lvs o = P ++ X ++ S ∧ lvs u = P ++ K ++ S ∧ K.length ≤ 2 + (t.size + 63) / 64
def LinkQ (a b o : Option T) : Prop := LinkO (lvs a) (lvs b) (lvs o) ∧ balO o ∧ Good (lvs o)
theorem spliced_mk {s t : ByteArray} {a c : Nat} {o u v m x y : Option T} (q : TreeOf s o) (hac : a ≤ c) (hc : c ≤ s.size) (ht : t.size ≤ 65536 - (s.size - (c - a))) (h1 : HeadQ o a u) (h2 : TailQ o c v) (hm : PlantO t m) (hx : LinkQ u m x) (hy : LinkQ x v y) : Spliced s a c t o y := by
  have hfl : flat (lvs y) = (Ed.splice s a c t).data.toList := by
    rw [hy.1.flat, hx.1.flat, h1.1.2.1, h2.1.2.1, hm.1, q.1]
    simp [Ed.splice]
  have hsz : (Ed.splice s a c t).size ≤ 65536 := by
    have h3 : (Ed.splice s a c t).data.toList.length = (Ed.splice s a c t).size := ba_len _
    have h4 := q.2.2
    have h5 := ba_len s
    have h6 := ba_len t
    rw [← h3]
    simp only [Ed.splice, List.length_append, List.length_take, List.length_drop]
    omega
  obtain ⟨P, X, S, K, e1, e2, e3⟩ := splice_shares q.2.1.good h1.1 h2.1 hac hx.1 hy.1
  refine ⟨⟨hfl, FineO.mk hy.2.1 hy.2.2 ?_, hsz⟩, P, X, S, K, e1, e2, ?_⟩
  · rw [← flat_len, hfl, ba_len]; omega
  · rw [hm.2.2] at e3; exact e3
theorem link_fine {u m x : Option T} (h : LinkQ u m x) (ht : total (lvs u) + total (lvs m) ≤ 100000) : FineO x := FineO.mk h.2.1 h.2.2 (by rw [h.1.total]; exact ht)

/-- A rope lies there, and what was there is as it was. -/
def KR (b : Nat) (o : Option T) (w0 w : World) : Prop := RopeAt w b o ∧ Below w0.heap.size w0 w
theorem KR.up {b : Nat} {o : Option T} {w0 w w' : World} (h : KR b o w0 w) (hb : Below w.heap.size w w') : KR b o w0 w' := ⟨h.1.below hb, h.2.trans (hb.mono h.2.size)⟩
theorem KR.drew {b : Nat} {o : Option T} {w0 w : World} (h : KR b o w0 w) : KR b o w0 w.drew := h.up (Below.refl _ _).drew
theorem KR.tree {b : Nat} {o : Option T} {w0 w : World} (h : KR b o w0 w) : RepO w o := h.1.2.2.2

theorem up_sp {v0 v1 v2 v3 : Value} {b0 b1 : Nat} {rb : Nat} {o : Option T} {w0 w w' : World} (h : w.cell? ⟨b0, 1, none⟩ = some (v0) ∧ w.cell? ⟨b1, 0, none⟩ = some (v1) ∧ w.cell? ⟨b1, 1, none⟩ = some (v2) ∧ w.cell? ⟨b1, 2, none⟩ = some (v3) ∧ b0 < w.heap.size ∧ b1 < w.heap.size ∧ KR rb o w0 w) (hb : Below w.heap.size w w') : w'.cell? ⟨b0, 1, none⟩ = some (v0) ∧ w'.cell? ⟨b1, 0, none⟩ = some (v1) ∧ w'.cell? ⟨b1, 1, none⟩ = some (v2) ∧ w'.cell? ⟨b1, 2, none⟩ = some (v3) ∧ b0 < w'.heap.size ∧ b1 < w'.heap.size ∧ KR rb o w0 w' := by
  obtain ⟨h0, h1, h2, h3, z0, z1, K⟩ := h
  exact ⟨(hb.cell (p := ⟨b0, 1, none⟩) z0).trans h0, (hb.cell (p := ⟨b1, 0, none⟩) z1).trans h1, (hb.cell (p := ⟨b1, 1, none⟩) z1).trans h2, (hb.cell (p := ⟨b1, 2, none⟩) z1).trans h3, Nat.lt_of_lt_of_le z0 hb.size, Nat.lt_of_lt_of_le z1 hb.size, K.up hb⟩
theorem up_sp_k {v0 v1 v2 v3 : Value} {b0 b1 : Nat} {rb : Nat} {o : Option T} {w0 w : World} (h : w.cell? ⟨b0, 1, none⟩ = some (v0) ∧ w.cell? ⟨b1, 0, none⟩ = some (v1) ∧ w.cell? ⟨b1, 1, none⟩ = some (v2) ∧ w.cell? ⟨b1, 2, none⟩ = some (v3) ∧ b0 < w.heap.size ∧ b1 < w.heap.size ∧ KR rb o w0 w) : KR rb o w0 w := h.2.2.2.2.2.2
set_option maxHeartbeats 2000000 in
set_option maxRecDepth 100000 in
theorem splice_ok (b : Nat) (o : Option T) (s : ByteArray) (a c : Nat) (t : ByteArray) (w : World) (hr : RopeAt w b o) (q : TreeOf s o) (hac : a ≤ c) (hc : c ≤ s.size) (ht : t.size ≤ 65536 - (s.size - (c - a))) (hz : Ed.checkZ s.size a c t = 0) :
    Calls Try.prog 26 #[ptr b, Ed.ed a c t] w (Made (Spliced s a c t o) w) := by
  have hs := q.2.2
  have HQ := Lib.hid (fun (u v m x y : Option T) (h1 : HeadQ o a u) (h2 : TailQ o c v) (hm : PlantO t m) (hx : LinkQ u m x) (hy : LinkQ x v y) => spliced_mk q hac hc ht h1 h2 hm hx hy)
  have hck := Lib.hid (fun wz => Ed.check_err s.size a c t wz (by omega) 0 hz)
  have hln := Lib.hid (fun wz (r : RopeAt wz b o) => len_is b o s wz r q)
  have hhd := Lib.hid (fun wz (r : RepO wz o) => head_q o a wz r q.2.1 (by rw [q.total]; omega))
  have htl := Lib.hid (fun wz (r : RepO wz o) => tail_q o c wz r q.2.1 (by rw [q.total]; omega))
  have hpl := Lib.hid (fun wz => plant_any t wz (by omega))
  have ht2 := q.total
  have hl1 := Lib.hid (fun (u m : Option T) (wz : World) (h1 : HeadQ o a u) (hm : PlantO t m) (r1 : RepO wz u) (r2 : RepO wz m) => link_any u m wz r1 r2 (head_fine h1 q.2.1) hm.2.1)
  have hl2 := Lib.hid (fun (u v m x : Option T) (wz : World) (h1 : HeadQ o a u) (hm : PlantO t m) (h2 : TailQ o c v) (hx : LinkQ u m x) (r1 : RepO wz x) (r2 : RepO wz v) => link_any x v wz r1 r2 (link_fine hx (by
    rw [← flat_len, ← flat_len, h1.1.2.1, hm.1, List.length_take, ba_len]; omega)) (tail_fine h2 q.2.1))
  have hr' := Lib.hid hr
  clear hz q ht2
  obtain ⟨r0, r1, rz, -⟩ := hr
  go_enter Try.func26, Try.ntmps26
  go_wp2_with fail
  refine (there_made b o _ (hr'.out.below ((Below.refl _ _).alloc (Nat.le_refl _) _))).mono ?_
  rintro _ _ ⟨rfl, rfl⟩
  have E0 := Ed.EdAt.new w a c t
  obtain ⟨e0, e1, e2, ez⟩ := E0
  have hL0 := (Below.refl w.heap.size w).alloc (Nat.le_refl _) (.cells #[.int .i64 a, .int .i64 c, .string t] 55)
  have hKR := Lib.hid (show KR b o w (w.alloc (.cells #[.int .i64 a, .int .i64 c, .string t] 55)) from ⟨hr'.out.below hL0, hL0⟩)
  have r1' := (hL0.cell (p := ⟨b, 1, none⟩) rz).trans r1
  have rz' := Nat.lt_of_lt_of_le rz hL0.size
  clear hL0
  go_wp2_with fail
  go_region_held3 (fun w' => w'.cell? ⟨b, 1, none⟩ = some (topPtr o) ∧ w'.cell? ⟨w.heap.size, 0, none⟩ = some (.int .i64 a) ∧ w'.cell? ⟨w.heap.size, 1, none⟩ = some (.int .i64 c) ∧ w'.cell? ⟨w.heap.size, 2, none⟩ = some (.string t) ∧ b < w'.heap.size ∧ w.heap.size < w'.heap.size ∧ KR b o w w')
    (first | assumption | exact ⟨r1', e0, e1, e2, rz', ez, hKR.out.drew⟩ | exact up_sp (by assumption) hb | exact up_sp (by assumption) ((Below.refl _ _).alloc (Nat.le_refl _) _))
    (first | (go_at_call 29; refine (hln.out _ (by first | exact hKR.out.drew.1 | exact (up_sp_k (by assumption)).1)).mono ?_; rintro _ _ ⟨rfl, rfl⟩) | (go_at_call 54; refine (hck.out _).mono ?_; rintro _ w' ⟨rfl, hb⟩))
  clear e0 e1 e2 r1' rz' ez r1
  rename_i hh
  obtain ⟨f1, e0, e1, e2, rz1, ez1, hK1⟩ := hh
  have hK1' := Lib.hid hK1
  clear hK1 hb
  go_wp2_with fail
  go_region_held3 (fun w' => w'.cell? ⟨b, 1, none⟩ = some (topPtr o) ∧ w'.cell? ⟨w.heap.size, 0, none⟩ = some (.int .i64 a) ∧ w'.cell? ⟨w.heap.size, 1, none⟩ = some (.int .i64 c) ∧ w'.cell? ⟨w.heap.size, 2, none⟩ = some (.string t) ∧ b < w'.heap.size ∧ w.heap.size < w'.heap.size ∧ KR b o w w')
    (first | assumption | exact ⟨f1, e0, e1, e2, rz1, ez1, hK1'.out.drew⟩ | exact up_sp (by assumption) hb | exact up_sp (by assumption) ((Below.refl _ _).alloc (Nat.le_refl _) _))
    (first | (go_at_call 55; refine (hhd.out _ (by first | exact hK1'.out.drew.tree | exact KR.tree (up_sp_k (by assumption)))).mono ?_; rintro _ w' ⟨u, rfl, hRu, hQu, hb⟩) | (go_at_call 56; refine (htl.out _ (by first | exact hK1'.out.drew.tree | exact KR.tree (up_sp_k (by assumption)))).mono ?_; rintro _ w' ⟨v, rfl, hRv, hQv, hb⟩))
  all_goals
    clear e0 e1 e2 f1 rz1 ez1
    rename_i hh
    obtain ⟨f1, e0, e1, e2, rz1, ez1, hK2⟩ := hh
    have hu := Lib.hid (show RepO w' u from by first | exact hRu | exact hRu.below hb)
    have hv := Lib.hid (show RepO w' v from by first | exact hRv | exact hRv.below hb)
    have hK2' := Lib.hid hK2
    clear hK2 hb f1 e0 e1 hRu hRv
    go_wp2_with fail
    refine (hpl.out _).mono ?_
    rintro _ w3 ⟨m, rfl, hm, hQm, hb3⟩
    have hL3 := Lib.hid (hK2'.out.2.trans (hb3.mono hK2'.out.2.size))
    have hu3 := Lib.hid (hu.out.below hb3)
    have hv3 := Lib.hid (hv.out.below hb3)
    clear hb3 e2 ez1
    go_wp2_with fail
    refine (hl1.out u m _ hQu hQm hu3.out hm).mono ?_
    rintro _ w4 ⟨x, rfl, hx, hQx, hb4⟩
    have hL4 := Lib.hid (hL3.out.trans (hb4.mono hL3.out.size))
    have hv4 := Lib.hid (hv3.out.below hb4)
    clear hb4
    have hQx' := Lib.hid hQx
    clear hQx
    go_wp2_with fail
    refine (hl2.out u v m x _ hQu hQm hQv hQx'.out hx hv4.out).mono ?_
    rintro _ w5 ⟨y, rfl, hy, hQy, hb5⟩
    have hL5 := Lib.hid (hL4.out.trans (hb5.mono hL4.out.size))
    clear hb5
    have hQy' := Lib.hid hQy
    clear hQy
    go_wp2_with fail
    refine (rooted_any y _ hy).mono ?_
    rintro _ w6 ⟨nb, rfl, hA, hb6⟩
    go_wp2
    go_ret2
    exact ⟨nb, y, rfl, hA, HQ.out _ _ _ _ _ hQu hQv hQm hQx'.out hQy'.out, hL5.out.trans (hb6.mono hL5.out.size)⟩

end Go.Proofs.Ytagjeckgfjddmaa
