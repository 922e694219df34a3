/- Byte of a rope, and the document's Byte and Slice. -/
import Derived.Test.YtagjeckgfjddmaaByte
namespace Go.Proofs.Ytagjeckgfjddmaa
set_option linter.unusedSimpArgs false
set_option linter.unusedVariables false
open Go.RowKit

def byB (l : List UInt8) (n : Int) : Bool := decide (0 ≤ n ∧ n < l.length)
def byN (l : List UInt8) (n : Int) : Int := if byB l n then ((l[n.toNat]?).getD 0).toNat else 0
def byE (l : List UInt8) (n : Int) : Int := if byB l n then 0 else 4
theorem by_in {l : List UInt8} {n : Int} (h : 0 ≤ n ∧ n < l.length) : byN l n = ((l[n.toNat]?).getD 0).toNat ∧ byE l n = 0 := by
  have : byB l n = true := by simpa [byB] using h
  simp [byN, byE, this]
theorem by_out {l : List UInt8} {n : Int} (h : ¬ (0 ≤ n ∧ n < l.length)) : byN l n = 0 ∧ byE l n = 4 := by
  have : byB l n = false := by simpa [byB] using h
  simp [byN, byE, this]

set_option maxHeartbeats 2000000 in
theorem byte_out (b : Nat) (o : Option T) (s : ByteArray) (n : Int) (w : World) (hr : RopeAt w b o) (q : TreeOf s o) (h : ¬ (0 ≤ n ∧ n < s.size)) :
    Calls Try.prog 16 #[ptr b, .int .i64 n] w fun e w' => e = .returned (.tuple #[.int .u8 0, .int .i64 4]) ∧ Below w.heap.size w w' := by
  have hL0 := (Below.refl w.heap.size w).alloc (Nat.le_refl _) (.cells #[.int .i64 n] 3)
  have h1 := Lib.hid (there_made b o _ (hr.below hL0))
  have h2 := Lib.hid (fun wz (h : RopeAt wz b o) => len_is b o s wz h q)
  have hr2 := Lib.hid (hr.below hL0)
  have hL := Lib.hid hL0
  clear hr q hL0
  by_cases h3 : n < 0
  · have d1 : decide (n < 0) = true := by simpa using h3
    clear h h3
    go_enter Try.func16, Try.ntmps16
    go_wp2_with fail
    refine h1.out.mono ?_
    rintro _ _ ⟨rfl, rfl⟩
    go_wp2_with fail
    go_quiet (fail)
    go_wp2
    go_ret2
    exact ⟨rfl, below_drewN hL.out _⟩
  · have d1 : decide (n < 0) = false := by simpa using h3
    have d2 : decide ((s.size : Int) ≤ n) = true := by simp; omega
    clear h h3
    go_enter Try.func16, Try.ntmps16
    go_wp2_with fail
    refine h1.out.mono ?_
    rintro _ _ ⟨rfl, rfl⟩
    go_wp2_with fail
    go_quiet ((go_at_call 29; exact quiet_eq (h2.out _ (hr2.out.drewN _))))
    go_wp2
    go_ret2
    exact ⟨rfl, below_drewN hL.out _⟩
theorem ret_byte {x y k : Int} (h : x = y) : Ending.returned (.tuple #[.int .u8 x, .int .i64 k]) = .returned (.tuple #[.int .u8 y, .int .i64 k]) := by rw [h]
theorem get_byte (s : ByteArray) (k : Nat) (hk : k < s.size) (l : List UInt8) (n : Nat) (h : s.data.toList[k]? = l[n]?) : ((s[k]'hk).toNat : Int) = (((l[n]?).getD 0).toNat : Int) := by
  rw [← h, List.getElem?_eq_getElem (by rw [ba_len]; exact hk), byteAt s k hk]
  rfl
set_option maxHeartbeats 2000000 in
theorem byte_in (b : Nat) (o : Option T) (s : ByteArray) (n : Nat) (w : World) (hr : RopeAt w b o) (q : TreeOf s o) (h : n < s.size) :
    Calls Try.prog 16 #[ptr b, .int .i64 n] w fun e w' => e = .returned (.tuple #[.int .u8 (((s.data.toList[n]?).getD 0).toNat), .int .i64 0]) ∧ Below w.heap.size w w' := by
  have hL0 := (Below.refl w.heap.size w).alloc (Nat.le_refl _) (.cells #[.int .i64 n] 3)
  have hs := q.2.2
  have h1 := Lib.hid (there_made b o _ (hr.below hL0))
  have h2 := Lib.hid (fun wz (h : RopeAt wz b o) => len_is b o s wz h q)
  have hr2 := Lib.hid (hr.below hL0)
  have hI := Lib.hid (IntBox.new w n)
  cases o with
  | none => exfalso; have := q.total; simp [lvs, total] at this; omega
  | some t =>
    have hn : n < t.size := by have := q.total; rw [show total (lvs (some t)) = t.size from by rw [T.size_eq]; rfl] at this; omega
    obtain ⟨hp1, hp2⟩ := t.pick_spec n hn
    have hbt : t.bytes = s.data.toList := by rw [T.bytes_eq]; exact q.1
    rw [hbt] at hp2
    have hd := Lib.hid (fun wz (h : IntBox w w.heap.size n wz) => byte_down w w.heap.size n t wz h hr.2.2.2 (by omega))
    obtain ⟨x, hx⟩ : ∃ x, (t.pick n).1 = x := ⟨_, rfl⟩
    obtain ⟨k, hk⟩ : ∃ k, (t.pick n).2 = k := ⟨_, rfl⟩
    rw [hx, hk] at hp1 hp2 hd
    have hres := Lib.hid (get_byte x k hp1 s.data.toList n hp2)
    have r1 := (hr.below hL0).2.1
    have rz := (hr.below hL0).2.2.1
    have d1 : decide ((n : Int) < 0) = false := by simp
    have d2 : decide (s.size ≤ n) = false := by simp; omega
    have hmf : ∀ (fn : Fn) (first cap : Array Value) (w : World), (Instr.makeFunc fn first cap).run Try.prog w = .ok (.func fn first cap) w := fun _ _ _ _ => rfl
    clear hr q hL0 hx hk hp2 hbt hn
    unfold topPtr at r1
    go_enter Try.func16, Try.ntmps16
    go_wp2_with fail
    refine h1.out.mono ?_
    rintro _ _ ⟨rfl, rfl⟩
    go_wp2_with fail
    go_quiet ((go_at_call 29; exact quiet_eq (h2.out _ (hr2.out.drewN _))))
    clear d1 d2
    go_wp2_with fail
    refine (hd.out _ (hI.out.drewN _)).mono ?_
    rintro _ w3 ⟨rfl, hb⟩
    have hb' := Lib.hid hb
    obtain ⟨-, c0, -, -, cz⟩ := hb
    have i1 : (k : Int) < (x.size : Int) := by omega
    go_wp2
    go_ret2
    exact ⟨ret_byte hres.out, hb'.out.1⟩
theorem byte_any (b : Nat) (o : Option T) (s : ByteArray) (n : Int) (w : World) (hr : RopeAt w b o) (q : TreeOf s o) :
    Calls Try.prog 16 #[ptr b, .int .i64 n] w fun e w' => e = .returned (.tuple #[.int .u8 (byN s.data.toList n), .int .i64 (byE s.data.toList n)]) ∧ Below w.heap.size w w' := by
  by_cases h : 0 ≤ n ∧ n < s.size
  · have h' : 0 ≤ n ∧ n < s.data.toList.length := by rw [ba_len]; exact h
    rw [(by_in h').1, (by_in h').2]
    have := byte_in b o s n.toNat w hr q (by omega)
    rwa [show ((n.toNat : Nat) : Int) = n by omega] at this
  · have h' : ¬ (0 ≤ n ∧ n < s.data.toList.length) := by rw [ba_len]; exact h
    rw [(by_out h').1, (by_out h').2]
    exact byte_out b o s n w hr q h

theorem rbyte_any (s : ByteArray) (n : Int) (w : World) (hs : s.size ≤ 140737488355328) :
    Calls Try.prog 17 #[.string s, .int .i64 n] w fun e w' => e = .returned (.tuple #[.int .u8 (byN s.data.toList n), .int .i64 (byE s.data.toList n)]) ∧ w = w' := by
  by_cases h : 0 ≤ n ∧ n < s.size
  · have h' : 0 ≤ n ∧ n < s.data.toList.length := by rw [ba_len]; exact h
    rw [(by_in h').1, (by_in h').2]
    obtain ⟨k, rfl⟩ : ∃ k : Nat, n = k := ⟨n.toNat, by omega⟩
    have hk : k < s.size := by omega
    have hres := Lib.hid (get_byte s k hk s.data.toList k rfl)
    simp only [Int.toNat_natCast]
    clear h h'
    go_enter Try.func17, Try.ntmps17
    go_wp2
    go_ret2
    exact ⟨ret_byte hres.out, rfl⟩
  · have h' : ¬ (0 ≤ n ∧ n < s.data.toList.length) := by rw [ba_len]; exact h
    rw [(by_out h').1, (by_out h').2]
    clear h'
    by_cases h1 : n < 0
    · clear h
      go_enter Try.func17, Try.ntmps17
      go_wp2
      go_ret2
      exact ⟨rfl, rfl⟩
    · have h2 : (s.size : Int) ≤ n := by omega
      clear h
      go_enter Try.func17, Try.ntmps17
      go_wp2
      go_ret2
      exact ⟨rfl, rfl⟩
theorem rslice_any (s : ByteArray) (f g : Int) (w : World) (hs : s.size ≤ 140737488355328) :
    Calls Try.prog 19 #[.string s, sp f g] w fun e w' => e = .returned (.tuple #[.string (slS s f g), .int .i64 (slE s f g)]) ∧ Below w.heap.size w w' := by
  obtain ⟨e0, e1, ez⟩ := SpAt w f g
  have hL := Lib.hid ((Below.refl w.heap.size w).alloc (Nat.le_refl _) (.cells #[.int .i64 f, .int .i64 g] 32))
  by_cases h : 0 ≤ f ∧ f ≤ g ∧ g ≤ s.size
  · rw [(slS_in h).1, (slS_in h).2]
    obtain ⟨x, rfl⟩ : ∃ x : Nat, f = x := ⟨f.toNat, by omega⟩
    obtain ⟨y, rfl⟩ : ∃ y : Nat, g = y := ⟨g.toNat, by omega⟩
    obtain ⟨a1, a2, a3⟩ := h
    simp only [Int.toNat_natCast]
    have d1 : decide ((x : Int) < 0) = false := by simp
    have d2 : decide (y < x) = false := by simp; omega
    have d3 : decide (s.size < y) = false := by simp; omega
    have i2 : x ≤ y := by omega
    have i3 : y ≤ s.size := by omega
    go_enter Try.func19, Try.ntmps19
    go_wp2_with fail
    try go_quiet (fail)
    try go_wp2_with fail
    try go_quiet (fail)
    try go_wp2
    go_ret2
    exact ⟨rfl, by first | exact hL.out | exact below_drewN hL.out _ | exact below_drewN (below_drewN hL.out _) _⟩
  · rw [(slS_out h).1, (slS_out h).2]
    have key : ∀ (p1 p2 p3 : Bool), decide (f < 0) = p1 → decide (g < f) = p2 → decide ((s.size : Int) < g) = p3 → (p1 || p2 || p3) = true →
        Calls Try.prog 19 #[.string s, sp f g] w fun e w' => e = .returned (.tuple #[.string .empty, .int .i64 4]) ∧ Below w.heap.size w w' := by
      intro p1 p2 p3 d1 d2 d3 hp
      clear h
      cases p1 <;> cases p2 <;> cases p3 <;> first
        | (exfalso; revert hp; decide)
        | (clear hp
           go_enter Try.func19, Try.ntmps19
           go_wp2_with fail
           try go_quiet (fail)
           try go_wp2
           go_ret2
           exact ⟨rfl, by first | exact hL.out | exact below_drewN hL.out _⟩)
    exact key _ _ _ rfl rfl rfl (by simp; omega)
end Go.Proofs.Ytagjeckgfjddmaa
