/- Of and Lines of a rope are its text's. -/
import Derived.Test.YtagjeckgfjddmaaOf
namespace Go.Proofs.Ytagjeckgfjddmaa
set_option linter.unusedSimpArgs false
set_option linter.unusedVariables false
open Go.RowKit

theorem of_none_down (f : Value) (w : World) : Calls Try.prog 45 #[.pointer none, f] w fun e w' => e = .returned (.string .empty) ∧ w = w' := by
  go_enter Try.func45, Try.ntmps45
  go_wp2
  go_ret
  exact ⟨rfl, rfl⟩
/-- down, on the way to an offset, of a tree that may be nothing. -/
def plO : Option T → Int → Found | none, a => ⟨.empty, a, 0, 0⟩ | some t, a => t.place a 0 0
theorem of_downO (w0 : World) (ab rb sb : Nat) (a : Int) (o : Option T) (w : World) (hS : OfSt w0 ab rb sb a 0 0 w) (ht : RepO w0 o) (ha : a ≤ 9223372036854775807) (hts : total (lvs o) ≤ 100000) :
    Calls Try.prog 45 #[topPtr o, .func (.func 49) #[] #[.pointer (some ⟨ab, 0, none⟩), .pointer (some ⟨sb, 0, none⟩)]] w fun e w' => e = .returned (.string (plO o a).s) ∧ OfSt w0 ab rb sb (plO o a).a (plO o a).x (plO o a).y w' := by
  cases o with
  | none => exact (of_none_down _ w).mono fun _ _ ⟨h1, h2⟩ => by subst h2; exact ⟨h1, hS⟩
  | some t => exact of_down w0 ab rb sb a t w hS ht ha (by rw [T.size_eq]; exact hts)
theorem plO_spec (o : Option T) (a : Int) : ∃ pre post, flat (lvs o) = pre ++ (plO o a).s.data.toList ++ post ∧ a = pre.length + (plO o a).a ∧ (plO o a).x = cntN pre ∧ (plO o a).y = colN pre ∧ (pre = [] ∨ 0 ≤ (plO o a).a) ∧ (post = [] ∨ (plO o a).a ≤ (plO o a).s.data.toList.length) := by
  cases o with
  | none => exact ⟨[], [], by simp [lvs, flat, plO], by simp [plO], by simp [plO, cnt_nil], by simp [plO, col_nil], .inl rfl, .inl rfl⟩
  | some t =>
    obtain ⟨pre, post, h1, h2, h3, h4, h5, h6⟩ := t.place_spec a 0 0
    refine ⟨pre, post, by rw [show plO (some t) a = t.place a 0 0 from rfl, ← h1, T.bytes_eq]; rfl, h2, ?_, ?_, h5, by rw [ba_len]; exact h6⟩
    · rw [show plO (some t) a = t.place a 0 0 from rfl, h3]; omega
    · rw [show plO (some t) a = t.place a 0 0 from rfl, h4]; split <;> omega
theorem OfSt.new (w : World) (a : Int) : OfSt w w.heap.size (w.heap.size + 1) (w.heap.size + 1 + 1) a 0 0 (((w.alloc (.cells #[.int .i64 a] 3)).alloc (.cells #[.int .i64 0, .int .i64 0] 34)).alloc (.cells #[.int .i64 0, .int .i64 0] 34)) := by
  have e1 : (w.alloc (.cells #[.int .i64 a] 3)).heap.size = w.heap.size + 1 := by simp
  have e2 : ((w.alloc (.cells #[.int .i64 a] 3)).alloc (.cells #[.int .i64 0, .int .i64 0] 34)).heap.size = w.heap.size + 2 := by simp
  have I := IntBox.new w a
  have P1 := PlAt.new (w.alloc (.cells #[.int .i64 a] 3)) 0 0
  have P2 := PlAt.new ((w.alloc (.cells #[.int .i64 a] 3)).alloc (.cells #[.int .i64 0, .int .i64 0] 34)) 0 0
  rw [e1] at P1
  rw [e2] at P2
  have B1 := (Below.refl (w.alloc (.cells #[.int .i64 a] 3)).heap.size (w.alloc (.cells #[.int .i64 a] 3))).alloc (Nat.le_refl _) (.cells #[.int .i64 0, .int .i64 0] 34)
  have B2 := B1.alloc (by simp) (.cells #[.int .i64 0, .int .i64 0] 34)
  obtain ⟨i1, i2, i3, i4, i5⟩ := I
  exact ⟨i1.trans (B2.mono i1.size), (B2.cell (p := ⟨_, 0, none⟩) i5).trans i2, (B2.frozen (p := ⟨_, 0, none⟩) i5).trans i3, P2.1, P2.2.1, P2.2.2.1, P2.2.2.2.1, Nat.le_refl _, by omega, P2.2.2.2.2, by omega, by omega, P1.alloc _⟩
theorem onward_is (x y u v r1 r2 : Nat) (w : World) (h1 : x + u = r1) (h2 : (if u = 0 then y + v else v) = r2) (ha : x ≤ 1000000000) (hb : y ≤ 1000000000) (hc : u ≤ 1000000000) (hd : v ≤ 1000000000) :
    Calls Try.prog 50 #[pl x y, pl u v] w fun r w' => r = .returned (pl r1 r2) ∧ Below w.heap.size w w' := by
  subst h1 h2; exact onward_any x y u v w ha hb hc hd
theorem Plain (w : World) {b : Nat} {x y : Int} (h : PlAt b x y w) : PlAt b x y w := h

set_option maxHeartbeats 2000000 in
theorem of_made (b : Nat) (o : Option T) (s : ByteArray) (n : Int) (w : World) (hr : RopeAt w b o) (q : TreeOf s o) (hn : n ≤ 9223372036854775807) :
    Calls Try.prog 22 #[ptr b, .int .i64 n] w fun e w' => e = .returned (.tuple #[pl (ofL s.data.toList n) (ofC s.data.toList n), .int .i64 (ofE s.data.toList n)]) ∧ Below w.heap.size w w' := by
  have hs := q.2.2
  have hN := OfSt.new w n
  have h1 := Lib.hid (fun wz (hL : Below w.heap.size w wz) => there_made b o wz (hr.below hL))
  have hrz := Lib.hid (fun wz (hL : Below w.heap.size w wz) => (show wz.cell? ⟨b, 1, none⟩ = some (topPtr o) ∧ b < wz.heap.size from ⟨(hr.below hL).2.1, (hr.below hL).2.2.1⟩))
  have hd := Lib.hid (fun wz (h : OfSt w w.heap.size (w.heap.size + 1) (w.heap.size + 1 + 1) n 0 0 wz) => of_downO w _ _ _ n o wz h hr.2.2.2 hn (by rw [q.total]; omega))
  obtain ⟨pre, post, p1, p2, p3, p4, p5, p6⟩ := plO_spec o n
  rw [q.1] at p1
  have hf := of_found p1 p2 p5 p6
  have hlen : pre.length + (plO o n).s.size ≤ 65536 := by
    have := congrArg List.length p1
    simp only [List.length_append, ba_len] at this
    omega
  have c1 := cnt_le pre
  have c2 := col_le pre
  generalize plO o n = F at *
  obtain ⟨u, a, x, y⟩ := F
  simp only at p2 p3 p4 hf hlen hd
  have hb := of_bounds u.data.toList a
  have hE := of_E u.data.toList a
  have hol := Lib.hid (fun wz => of_any u a wz (by omega))
  rw [ba_len] at hb
  obtain ⟨L, hL⟩ : ∃ L : Nat, ofL u.data.toList a = L := ⟨(ofL u.data.toList a).toNat, by omega⟩
  obtain ⟨C, hC⟩ : ∃ C : Nat, ofC u.data.toList a = C := ⟨(ofC u.data.toList a).toNat, by omega⟩
  rw [hL, hC] at hol hf hb
  subst p3 p4
  have h1n := Lib.hid h1
  clear p1 p2 p5 p6 hL hC
  have hlt : cntN pre ≤ 65536 := by omega
  have hlt2 : colN pre ≤ 65536 := by omega
  rcases hE with hE | hE
  · obtain ⟨f1, f2, -⟩ := hf
    obtain ⟨f3, f4⟩ := f1 hE
    rw [hE] at hol f2
    rw [f2]
    have hon := Lib.hid (fun wz => onward_is (cntN pre) (colN pre) L C (cntN pre + L) (if L = 0 then colN pre + C else C) wz rfl rfl (by omega) (by omega) (by omega) (by omega))
    rw [show ofL s.data.toList n = ((cntN pre + L : Nat) : Int) by rw [f3]; omega, show ofC s.data.toList n = ((if L = 0 then colN pre + C else C : Nat) : Int) by rw [f4]; split <;> split <;> omega]
    generalize (if L = 0 then colN pre + C else C) = R2 at *
    generalize cntN pre + L = R1 at *
    generalize cntN pre = x at *
    generalize colN pre = y at *
    have hN' := Lib.hid hN
    have hmf : ∀ (fn : Fn) (first cap : Array Value) (w : World), (Instr.makeFunc fn first cap).run Try.prog w = .ok (.func fn first cap) w := fun _ _ _ _ => rfl
    clear hr q hN f2 f3 f4 f1 hE h1
    go_enter Try.func22, Try.ntmps22
    go_wp2_with fail
    refine (h1n.out.out _ (((Below.refl _ _).alloc (Nat.le_refl _) _).alloc (by simp) _)).mono ?_
    rintro _ _ ⟨rfl, rfl⟩
    obtain ⟨r1, rz⟩ := hrz.out _ hN'.out.1
    go_wp2_with fail
    refine (hd.out _ hN'.out).mono ?_
    rintro _ w3 ⟨rfl, hS3⟩
    have hS3' := Lib.hid hS3
    obtain ⟨-, c0, cf, -, -, -, -, -, -, cz, -, -, -⟩ := hS3
    have cz0 : w.heap.size < w3.heap.size := by omega
    clear r1 rz hN'
    go_wp2_with fail
    refine (hol.out _).mono ?_
    rintro _ w4 ⟨rfl, hb4⟩
    have hS4 := Lib.hid (hS3'.out.up hb4)
    clear c0 cf cz hb4 hS3' cz0
    have P5 := PlAt.new w4 L C
    have hS5 := (hS4.out.up ((Below.refl _ _).alloc (Nat.le_refl _) (.cells #[.int .i64 L, .int .i64 C] 34)))
    obtain ⟨p0, p1, -, -, pz⟩ := P5
    obtain ⟨-, -, -, s0, s1, -, -, -, -, sz, -, -, -⟩ := hS5
    have hS5' := Lib.hid (hS4.out.up ((Below.refl _ _).alloc (Nat.le_refl _) (.cells #[.int .i64 L, .int .i64 C] 34)))
    go_wp2_with fail
    refine (hon.out _).mono ?_
    rintro _ w6 ⟨rfl, hb6⟩
    have hS6 := Lib.hid (hS5'.out.up hb6)
    obtain ⟨d0, d1, d2, d3, d4⟩ := hS6.out.2.2.2.2.2.2.2.2.2.2.2.2
    clear p0 p1 pz s0 s1 sz hb6 hS5'
    go_wp2
    refine bodyPost_ret (v := .tuple #[pl R1 R2, .int .i64 0]) (by simp [results, Try.results22, go_sem, d0, d1, d2, d3, d4]) rfl ⟨rfl, ?_⟩
    exact (hS6.out.1.setCell (by simp) _).setCell (by simp) _
  · obtain ⟨-, f2, f3⟩ := hf
    obtain ⟨f4, f5⟩ := f3 (by omega)
    rw [hE] at hol f2
    rw [f2, f4, f5]
    have hN' := Lib.hid hN
    generalize cntN pre = x at *
    generalize colN pre = y at *
    have hmf : ∀ (fn : Fn) (first cap : Array Value) (w : World), (Instr.makeFunc fn first cap).run Try.prog w = .ok (.func fn first cap) w := fun _ _ _ _ => rfl
    clear hr q hN f2 f3 f4 f5 hE h1
    go_enter Try.func22, Try.ntmps22
    go_wp2_with fail
    refine (h1n.out.out _ (((Below.refl _ _).alloc (Nat.le_refl _) _).alloc (by simp) _)).mono ?_
    rintro _ _ ⟨rfl, rfl⟩
    obtain ⟨r1, rz⟩ := hrz.out _ hN'.out.1
    go_wp2_with fail
    refine (hd.out _ hN'.out).mono ?_
    rintro _ w3 ⟨rfl, hS3⟩
    have hS3' := Lib.hid hS3
    obtain ⟨-, c0, cf, -, -, -, -, -, -, cz, -, -, -⟩ := hS3
    have cz0 : w.heap.size < w3.heap.size := by omega
    clear r1 rz hN'
    go_wp2_with fail
    refine (hol.out _).mono ?_
    rintro _ w4 ⟨rfl, hb4⟩
    have hS4 := Lib.hid (hS3'.out.up hb4)
    clear c0 cf cz hb4 hS3' cz0
    have hS5' := Lib.hid (hS4.out.up ((Below.refl _ _).alloc (Nat.le_refl _) (.cells #[.int .i64 L, .int .i64 C] 34)))
    obtain ⟨d0, d1, d2, d3, d4⟩ := hS5'.out.2.2.2.2.2.2.2.2.2.2.2.2
    clear hS4
    go_wp2
    refine bodyPost_ret (v := .tuple #[pl 0 0, .int .i64 4]) (by simp [results, Try.results22, go_sem, d0, d1, d2, d3, d4]) rfl ⟨rfl, ?_⟩
    exact (hS5'.out.1.setCell (by simp) _).setCell (by simp) _

theorem lines_made (b : Nat) (o : Option T) (s : ByteArray) (w : World) (hr : RopeAt w b o) (q : TreeOf s o) :
    Calls Try.prog 20 #[ptr b] w fun e w' => e = .returned (.int .i64 ((cntN s.data.toList : Int) + 1)) ∧ Below w.heap.size w w' := by
  have h1 := Lib.hid (len_is b o s w hr q)
  have hs := q.2.2
  have h2 := of_made b o s s.size w hr q (by omega)
  obtain ⟨e1, e2, e3⟩ := of_last s.data.toList
  rw [ba_len] at e1 e2 e3
  rw [e1, e2, e3] at h2
  have hc := cnt_le s.data.toList
  rw [ba_len] at hc
  generalize cntN s.data.toList = x at *
  generalize colN s.data.toList = y at *
  have h2' := Lib.hid h2
  clear hr q h2 e1 e2 e3
  go_enter Try.func20, Try.ntmps20
  go_wp2_with fail
  refine h1.out.mono ?_
  rintro _ _ ⟨rfl, rfl⟩
  go_wp2_with fail
  refine h2'.out.mono ?_
  rintro _ w2 ⟨rfl, hb⟩
  go_wp2
  go_ret
  exact ⟨rfl, hb.alloc hb.size _⟩
end Go.Proofs.Ytagjeckgfjddmaa
