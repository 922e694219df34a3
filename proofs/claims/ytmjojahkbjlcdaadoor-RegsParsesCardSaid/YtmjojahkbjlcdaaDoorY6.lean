/- Texts of package regs, one behind the other. -/
import Derived.Test.YtmjojahkbjlcdaaDoorProg
import Derived.Test.YtmjojahkbjlcdaaDoorY3
import Derived.Test.YtmjojahkbjlcdaaDoorY4
import Derived.WalkKit
import Derived.WalkLawsBesides
import Derived.WalkSpells
import Derived.Outline
import Derived.Lib.Walk
import Derived.Lib.Hide
import Derived.RegionTactic
import Derived.LoopTactic
import Derived.Below
import Derived.IntWalk
import Derived.Deep.QuietTactic
import Derived.BigQuiet
import Derived.Test.YtmjojahkbjlcdaaDoorG2
section
/- Package regs: the reader's small steps: what comes next. -/
namespace Go.Proofs.YtmjojahkbjlcdaaDoor
set_option linter.unusedSimpArgs false
set_option linter.unusedVariables false
set_option maxRecDepth 100000
open Go.RowKit

/-- What is left of the text s. -/
def Suf (s : ByteArray) (q : List UInt8) : Prop := ∃ p, s.data.toList = p ++ q
theorem Suf.len {s : ByteArray} {q : List UInt8} (h : Suf s q) : q.length ≤ s.size := by
  obtain ⟨p, hp⟩ := h
  have h1 : s.data.toList.length = s.size := by simp
  rw [hp, List.length_append] at h1; omega
theorem Suf.tl {s : ByteArray} {c : UInt8} {r : List UInt8} (h : Suf s (c :: r)) : Suf s r := by
  obtain ⟨p, hp⟩ := h; exact ⟨p ++ [c], by simp [hp]⟩
theorem Suf.drop {s : ByteArray} {p q : List UInt8} (h : Suf s (p ++ q)) : Suf s q := by
  obtain ⟨t, ht⟩ := h; exact ⟨t ++ p, by simp [ht]⟩
theorem Suf.lt {s : ByteArray} {c : UInt8} {r : List UInt8} (h : Suf s (c :: r)) : s.size - (c :: r).length < s.size := by
  have := h.len; simp only [List.length_cons] at this ⊢; omega
theorem Suf.next {s : ByteArray} {c : UInt8} {r : List UInt8} (h : Suf s (c :: r)) : s.size - (c :: r).length + 1 = s.size - r.length := by
  have := h.len; simp only [List.length_cons] at this ⊢; omega
theorem Suf.get {s : ByteArray} {c : UInt8} {r : List UInt8} (h : Suf s (c :: r)) (hlt : s.size - (c :: r).length < s.size) : s[s.size - (c :: r).length]'hlt = c := by
  obtain ⟨p, hp⟩ := h
  have h1 : s.data.toList.length = s.size := by simp
  have h2 : s.size - (c :: r).length = p.length := by rw [hp] at h1; simp only [List.length_append, List.length_cons] at h1 ⊢; omega
  have h3 : s.data.toList[s.size - (c :: r).length]? = some c := by rw [h2, hp]; simp
  have h4 : s.data.toList[s.size - (c :: r).length]? = some (s[s.size - (c :: r).length]'hlt) := by
    rw [List.getElem?_eq_getElem (by rw [h1]; exact hlt)]; rfl
  rw [h4] at h3
  exact Option.some.inj h3
theorem Suf.whole (s : ByteArray) : Suf s s.data.toList := ⟨[], rfl⟩

/-- The reader stands ahead of q. -/
def GA (rb : Nat) (s : ByteArray) (q : List UInt8) (w : World) : Prop := Suf s q ∧ Gat rb s (s.size - q.length) w
/-- What its calls do. -/
def GK (rb : Nat) (s : ByteArray) (q : List UInt8) (w w' : World) : Prop := w.grownBy w' (some rb) ∧ GA rb s q w'
theorem GK.of {rb : Nat} {s : ByteArray} {q : List UInt8} {w w' : World} (hq : Suf s q) (h : Gk rb s (s.size - q.length) w w') : GK rb s q w w' := ⟨h.1, hq, h.2⟩
theorem GK.gk {rb : Nat} {s : ByteArray} {q : List UInt8} {w w' : World} (h : GK rb s q w w') : Gk rb s (s.size - q.length) w w' := ⟨h.1, h.2.2⟩
theorem GK.refl {rb : Nat} {s : ByteArray} {q : List UInt8} {w : World} (h : GA rb s q w) : GK rb s q w w := .of h.1 (Gk.refl h.2)
theorem GK.trans {rb : Nat} {s : ByteArray} {q r : List UInt8} {w w1 w2 : World} (h : GK rb s q w w1) (k : GK rb s r w1 w2) : GK rb s r w w2 := .of k.2.1 (h.gk.trans k.gk)
theorem GK.up {rb : Nat} {s : ByteArray} {q : List UInt8} {w w' : World} (h : GA rb s q w) (hb : Below w.heap.size w w') : GK rb s q w w' := .of h.1 (Gk.up h.2 hb)
theorem GK.drewN {rb : Nat} {s : ByteArray} {q : List UInt8} {w : World} (h : GA rb s q w) (k : Nat) : GK rb s q w (w.drewN k) := .of h.1 (Gk.drewN h.2 k)

/-- Is one of some bytes ahead? -/
def ahl (B : List UInt8) : List UInt8 → Bool
  | [] => false
  | c :: _ => B.contains c
theorem idx_lt : ∀ (B : List UInt8) (c : UInt8), B.contains c = true → 0 ≤ Lib.indexByte B c
  | [], c, h => by simp at h
  | x :: B, c, h => by
    cases h1 : x == c with
    | true => simp [Lib.indexByte, h1]
    | false =>
      have h2 : B.contains c = true := by
        simp only [List.contains_cons, Bool.or_eq_true] at h
        rcases h with h | h
        · have : x = c := (beq_iff_eq.1 h).symm
          rw [this, beq_self_eq_true] at h1; cases h1
        · exact h
      have h3 := idx_lt B c h2
      have h4 : (Lib.indexByte B c == -1) = false := by rw [beq_eq_false_iff_ne]; omega
      simp only [Lib.indexByte, h1, h4, if_false, Bool.false_eq_true]
      omega
theorem idx_dec (B : List UInt8) (c : UInt8) : decide (0 ≤ Lib.indexByte B c) = B.contains c := by
  cases h : B.contains c with
  | true => simpa using idx_lt B c h
  | false => rw [idx_neg B c h]; rfl

theorem ahead_any {rb : Nat} {s : ByteArray} {q : List UInt8} {w : World} (B : ByteArray) (h : GA rb s q w) :
    Calls Tryd.prog 83 #[.pointer (some ⟨rb, 0, none⟩), .string B] w fun e w' => e = .returned (.bool (ahl B.data.toList q)) ∧ GK rb s q w w' := by
  cases q with
  | nil => exact (ahead_end rb (s.size - ([] : List UInt8).length) s B w (Lib.hid h.2) (Lib.hid (by simp))).mono fun e w' k => ⟨k.1, .of h.1 k.2⟩
  | cons c r =>
    have hl := h.1.lt
    have hg := h.1.get hl
    refine (ahead_in rb _ s B w (Lib.hid h.2) hl (Lib.hid (by omega)) (Lib.indexByte B.data.toList c) (B.data.toList.contains c) (Lib.hid (idx_dec _ _)) (Lib.hid fun w => ?_)).mono fun e w' k => ⟨k.1, .of h.1 k.2⟩
    rw [hg]
    have := index_any B c.toNat w
    rwa [toU] at this

set_option maxHeartbeats 2000000 in
theorem pass_step {rb n : Nat} {s : ByteArray} {w : World} (B : ByteArray) (v : Bool) (hs : s.size ≤ 9223372036854775806) (hn : n ≤ s.size) (hA : Hid (Calls Tryd.prog 83 #[.pointer (some ⟨rb, 0, none⟩), .string B] w fun e w' => e = .returned (.bool v) ∧ Gk rb s n w w')) :
    Calls Tryd.prog 66 #[.pointer (some ⟨rb, 0, none⟩), .string B] w fun e w' => e = .returned (.bool v) ∧ Gk rb s (if v then n + 1 else n) w w' := by
  cases v
  all_goals
    go_enter Tryd.func66, Tryd.ntmps66
    go_wp2_with fail
    refine hA.out.mono ?_
    rintro _ w1 ⟨rfl, hk⟩
    have hK := Lib.hid hk
    have c1 := hK.out.2.c1
    have f1 := hK.out.2.f 1
    have z := hK.out.2.lt
    clear hk
    go_wp2
    go_ret
    first | exact ⟨rfl, hK.out⟩ | exact ⟨rfl, hK.out.trans (Gk.set hK.out.2 (n + 1))⟩
theorem pass_any {rb : Nat} {s : ByteArray} {q : List UInt8} {w : World} (B : ByteArray) (h : GA rb s q w) (hs : s.size ≤ 9223372036854775806) :
    Calls Tryd.prog 66 #[.pointer (some ⟨rb, 0, none⟩), .string B] w fun e w' => e = .returned (.bool (ahl B.data.toList q)) ∧ GK rb s (if ahl B.data.toList q then q.tail else q) w w' := by
  refine (pass_step (n := s.size - q.length) B (ahl B.data.toList q) hs (Nat.sub_le _ _) (Lib.hid ((ahead_any B h).mono fun e w' k => ⟨k.1, k.2.gk⟩))).mono fun e w' k => ⟨k.1, ?_⟩
  cases hv : ahl B.data.toList q with
  | false => have k2 := k.2; rw [hv] at k2; exact .of h.1 k2
  | true =>
    cases q with
    | nil => simp [ahl] at hv
    | cons c r => have k2 := k.2; rw [hv] at k2; simp only [if_true] at k2; rw [h.1.next] at k2; exact .of h.1.tl k2

set_option maxHeartbeats 2000000 in
theorem next_nil {rb : Nat} {s : ByteArray} {w : World} (h : Gat rb s s.size w) (hs : s.size ≤ 9223372036854775806) :
    Calls Tryd.prog 99 #[.pointer (some ⟨rb, 0, none⟩)] w fun e w' => e = boom ∧ Gk rb s s.size w w' := by
  have hG := Lib.hid h
  have c0 := h.c0
  have c1 := h.c1
  have z := h.lt
  clear h
  have hg := Lib.hid (giveUp_any rb s.size s.size s)
  go_enter Tryd.func99, Tryd.ntmps99
  go_wp2
  go_quiet (fail)
  have hk := Lib.hid (Gk.drewN hG.out nq)
  generalize w.drewN nq = w1 at *
  have c0 := hk.out.2.c0
  have c1 := hk.out.2.c1
  have z := hk.out.2.lt
  go_wp2_with fail
  refine (hg.out _ hk.out.2).mono ?_
  rintro _ w2 ⟨rfl, h2⟩
  have hE := Lib.hid (hk.out.trans h2)
  clear h2
  unfold boom
  go_wp2
  exact ⟨rfl, rfl, hE.out⟩
set_option maxHeartbeats 2000000 in
theorem next_in {rb n : Nat} {s : ByteArray} {w : World} (h : Gat rb s n w) (hn : n < s.size) (hs : s.size ≤ 9223372036854775806) :
    Calls Tryd.prog 99 #[.pointer (some ⟨rb, 0, none⟩)] w fun e w' => e = .returned (.int .u8 s[n].toNat) ∧ Gk rb s (n + 1) w w' := by
  have hG := Lib.hid h
  have c0 := h.c0
  have c1 := h.c1
  have z := h.lt
  clear h
  have hne : ((n : Int) == (s.size : Int)) = false := by rw [beq_eq_false_iff_ne]; omega
  go_enter Tryd.func99, Tryd.ntmps99
  go_wp2
  go_quiet (fail)
  have hk := Lib.hid (Gk.drewN hG.out nq)
  generalize w.drewN nq = w1 at *
  have c0 := hk.out.2.c0
  have c1 := hk.out.2.c1
  have f1 := hk.out.2.f 1
  have z := hk.out.2.lt
  go_wp2_with fail
  have h2 : Hid (Gk rb s (n + 1) w (w1.setCell ⟨rb, 1, none⟩ (.int .i64 ((n : Int) + 1)))) := Lib.hid (hk.out.trans (Gk.set hk.out.2 (n + 1)))
  clear c0 c1 f1 z hk
  generalize w1.setCell ⟨rb, 1, none⟩ (.int .i64 ((n : Int) + 1)) = w2 at *
  have c0 := h2.out.2.c0
  have c1 : w2.cell? ⟨rb, 1, none⟩ = some (.int .i64 ((n : Int) + 1)) := h2.out.2.c1
  have z := h2.out.2.lt
  have hn2 : (n : Int) < (s.size : Int) := by omega
  have hsub : IntKind.i64.wrap ((n : Int) + 1 - 1) = n := by rw [IntWalk.i64_in _ (by omega)]; omega
  go_quiet (fail)
  go_wp2
  go_ret
  exact ⟨rfl, h2.out.trans (Gk.drewN h2.out.2 _)⟩
/-- What 'next' does. -/
def NextP (rb : Nat) (s : ByteArray) (q : List UInt8) (w : World) (e : Ending) (w' : World) : Prop :=
  match q with
  | [] => e = boom ∧ GK rb s [] w w'
  | c :: r => e = .returned (.int .u8 c.toNat) ∧ GK rb s r w w'
theorem next_any {rb : Nat} {s : ByteArray} {q : List UInt8} {w : World} (h : GA rb s q w) (hs : s.size ≤ 9223372036854775806) :
    Calls Tryd.prog 99 #[.pointer (some ⟨rb, 0, none⟩)] w (NextP rb s q w) := by
  cases q with
  | nil => exact (next_nil h.2 hs).mono fun e w' k => ⟨k.1, .of h.1 k.2⟩
  | cons c r =>
    have hl := h.1.lt
    refine (next_in h.2 hl hs).mono fun e w' k => ⟨?_, .of h.1.tl (by have k2 := k.2; rwa [h.1.next] at k2)⟩
    rw [k.1, h.1.get hl]
/-- The bytes that mean something in a pattern. -/
def sgs : List UInt8 := [46, 42, 43, 63, 124, 40, 41, 91, 93, 92]
set_option maxHeartbeats 1000000 in
theorem sign_any (c : UInt8) (w : World) : Calls Tryd.prog 93 #[.int .u8 c.toNat] w fun e w' => e = .returned (.bool (sgs.contains c)) ∧ w = w' := by
  have hix : Hid (∀ w, Calls Tryd.prog 92 #[.string ⟨#[46, 42, 43, 63, 124, 40, 41, 91, 93, 92]⟩, .int .u8 c.toNat] w fun e w' => e = .returned (.int .i64 (Lib.indexByte sgs c)) ∧ w = w') := Lib.hid fun w => by
    have := index_any ⟨#[46, 42, 43, 63, 124, 40, 41, 91, 93, 92]⟩ c.toNat w
    rwa [toU] at this
  have hv := idx_dec sgs c
  generalize Lib.indexByte sgs c = I at *
  generalize sgs.contains c = v at *
  go_enter Tryd.func93, Tryd.ntmps93
  go_wp2_with fail
  refine (hix.out _).mono ?_
  rintro _ w1 ⟨rfl, rfl⟩
  go_wp2
  go_ret
  exact ⟨rfl, rfl⟩
end Go.Proofs.YtmjojahkbjlcdaaDoor
end
section
/- Package regs: the reader's small steps: what comes next. -/
namespace Go.Proofs.YtmjojahkbjlcdaaDoor
set_option linter.unusedSimpArgs false
set_option linter.unusedVariables false
set_option maxRecDepth 100000
open Go.RowKit

def PASS (rb : Nat) (B : ByteArray) (v : Bool) (s : ByteArray) (n : Nat) (w : World) : Prop := Hid (Calls Tryd.prog 66 #[.pointer (some ⟨rb, 0, none⟩), .string B] w fun e w' => e = .returned (.bool v) ∧ Gk rb s n w w')
def NEXT (rb : Nat) (s : ByteArray) (n : Nat) (e0 : Ending) (m : Nat) : Prop := Hid (∀ w, Gat rb s n w → Calls Tryd.prog 99 #[.pointer (some ⟨rb, 0, none⟩)] w fun e w' => e = e0 ∧ Gk rb s m w w')
set_option maxHeartbeats 2000000 in
theorem single_A {rb n1 n2 : Nat} {s : ByteArray} {w : World} (v : Bool) (hP : PASS rb ⟨#[92]⟩ v s n1 w) (hN : NEXT rb s n1 boom n2) :
    Calls Tryd.prog 107 #[.pointer (some ⟨rb, 0, none⟩)] w fun e w' => e = boom ∧ Gk rb s n2 w w' := by
  go_enter Tryd.func107, Tryd.ntmps107
  go_wp2_with fail
  refine hP.out.mono ?_
  rintro _ w1 ⟨rfl, hk⟩
  have hK := Lib.hid hk
  clear hk
  go_wp2_with fail
  refine (hN.out _ hK.out.2).mono ?_
  rintro _ w2 ⟨rfl, h2⟩
  have hE := Lib.hid (hK.out.trans h2)
  clear h2
  unfold boom
  go_wp2
  exact ⟨rfl, rfl, hE.out⟩
set_option maxHeartbeats 2000000 in
theorem single_B {rb n1 n2 : Nat} {s : ByteArray} {w : World} (c x : UInt8) (hc : (c = 110 ∧ x = 10) ∨ (c = 116 ∧ x = 9) ∨ (c = 114 ∧ x = 13)) (hP : PASS rb ⟨#[92]⟩ true s n1 w) (hN : NEXT rb s n1 (.returned (.int .u8 c.toNat)) n2) :
    Calls Tryd.prog 107 #[.pointer (some ⟨rb, 0, none⟩)] w fun e w' => e = .returned (.int .u8 x.toNat) ∧ Gk rb s n2 w w' := by
  have hix := fun I h => (Lib.hid fun w => (by have := index_any ⟨#[110, 116, 114]⟩ c.toNat w; rw [toU, show Lib.indexByte (⟨#[110, 116, 114]⟩ : ByteArray).data.toList c = I from h] at this; exact this) : Hid (∀ w, Calls Tryd.prog 92 #[.string ⟨#[110, 116, 114]⟩, .int .u8 c.toNat] w fun e w' => e = .returned (.int .i64 I) ∧ w = w'))
  have hI : ∃ I : Int, (I = 0 ∨ I = 1 ∨ I = 2) ∧ Lib.indexByte [110, 116, 114] c = I ∧ (I = 0 → x = 10) ∧ (I = 1 → x = 9) ∧ (I = 2 → x = 13) := by
    rcases hc with ⟨rfl, rfl⟩ | ⟨rfl, rfl⟩ | ⟨rfl, rfl⟩
    · exact ⟨0, .inl rfl, rfl, fun _ => rfl, by decide, by decide⟩
    · exact ⟨1, .inr (.inl rfl), rfl, by decide, fun _ => rfl, by decide⟩
    · exact ⟨2, .inr (.inr rfl), rfl, by decide, by decide, fun _ => rfl⟩
  obtain ⟨I, h3, hI, h0, h1, h2⟩ := hI
  have hix := hix I hI
  clear hI hc
  rcases h3 with rfl | rfl | rfl
  · obtain rfl := h0 rfl
    clear h0 h1 h2
    go_enter Tryd.func107, Tryd.ntmps107
    go_wp2_with fail
    refine hP.out.mono ?_
    rintro _ w1 ⟨rfl, hk⟩
    have hK := Lib.hid hk
    clear hk
    go_wp2_with fail
    refine (hN.out _ hK.out.2).mono ?_
    rintro _ w2 ⟨rfl, h2⟩
    have hE := Lib.hid (hK.out.trans h2)
    clear h2
    go_wp2_with fail
    refine (hix.out _).mono ?_
    rintro _ w3 ⟨rfl, rfl⟩
    go_wp2
    go_ret
    exact ⟨rfl, hE.out⟩
  · obtain rfl := h1 rfl
    clear h0 h1 h2
    go_enter Tryd.func107, Tryd.ntmps107
    go_wp2_with fail
    refine hP.out.mono ?_
    rintro _ w1 ⟨rfl, hk⟩
    have hK := Lib.hid hk
    clear hk
    go_wp2_with fail
    refine (hN.out _ hK.out.2).mono ?_
    rintro _ w2 ⟨rfl, h2⟩
    have hE := Lib.hid (hK.out.trans h2)
    clear h2
    go_wp2_with fail
    refine (hix.out _).mono ?_
    rintro _ w3 ⟨rfl, rfl⟩
    go_wp2
    go_ret
    exact ⟨rfl, hE.out⟩
  · obtain rfl := h2 rfl
    clear h0 h1 h2
    go_enter Tryd.func107, Tryd.ntmps107
    go_wp2_with fail
    refine hP.out.mono ?_
    rintro _ w1 ⟨rfl, hk⟩
    have hK := Lib.hid hk
    clear hk
    go_wp2_with fail
    refine (hN.out _ hK.out.2).mono ?_
    rintro _ w2 ⟨rfl, h2⟩
    have hE := Lib.hid (hK.out.trans h2)
    clear h2
    go_wp2_with fail
    refine (hix.out _).mono ?_
    rintro _ w3 ⟨rfl, rfl⟩
    go_wp2
    go_ret
    exact ⟨rfl, hE.out⟩
set_option maxHeartbeats 2000000 in
theorem single_C {rb n1 n2 : Nat} {s : ByteArray} {w : World} (v : Bool) (c : UInt8) (hc : v = true → ([110, 116, 114] : List UInt8).contains c = false) (hv : sgs.contains c = v) (hP : PASS rb ⟨#[92]⟩ v s n1 w) (hN : NEXT rb s n1 (.returned (.int .u8 c.toNat)) n2) :
    Calls Tryd.prog 107 #[.pointer (some ⟨rb, 0, none⟩)] w fun e w' => e = .returned (.int .u8 c.toNat) ∧ Gk rb s n2 w w' := by
  have hix : Hid (∀ w, Calls Tryd.prog 92 #[.string ⟨#[110, 116, 114]⟩, .int .u8 c.toNat] w fun e w' => e = .returned (.int .i64 (Lib.indexByte [110, 116, 114] c)) ∧ w = w') := Lib.hid fun w => by
    have := index_any ⟨#[110, 116, 114]⟩ c.toNat w; rwa [toU] at this
  have hsg : Hid (∀ w, Calls Tryd.prog 93 #[.int .u8 c.toNat] w fun e w' => e = .returned (.bool v) ∧ w = w') := Lib.hid fun w => by
    have := sign_any c w; rwa [hv] at this
  have hI := fun h => idx_neg [110, 116, 114] c (hc h)
  clear hv hc
  generalize Lib.indexByte [110, 116, 114] c = I at *
  cases v
  all_goals
    (try (have hI1 := hI rfl; subst hI1))
    clear hI
    go_enter Tryd.func107, Tryd.ntmps107
    go_wp2_with fail
    refine hP.out.mono ?_
    rintro _ w1 ⟨rfl, hk⟩
    have hK := Lib.hid hk
    clear hk
    go_wp2_with fail
    refine (hN.out _ hK.out.2).mono ?_
    rintro _ w2 ⟨rfl, h2⟩
    have hE := Lib.hid (hK.out.trans h2)
    clear h2
    go_wp2_with fail
    refine (hix.out _).mono ?_
    rintro _ w3 ⟨rfl, rfl⟩
    go_wp2_with fail
    refine (hsg.out _).mono ?_
    rintro _ w3 ⟨rfl, rfl⟩
    go_wp2
    go_ret
    exact ⟨rfl, hE.out⟩
set_option maxHeartbeats 2000000 in
theorem single_D {rb n1 m : Nat} {s : ByteArray} {w : World} (v : Bool) (c : UInt8) (hm : m < 9223372036854775806) (hc : v = true → ([110, 116, 114] : List UInt8).contains c = false) (hv : sgs.contains c = !v) (hP : PASS rb ⟨#[92]⟩ v s n1 w) (hN : NEXT rb s n1 (.returned (.int .u8 c.toNat)) (m + 1)) :
    Calls Tryd.prog 107 #[.pointer (some ⟨rb, 0, none⟩)] w fun e w' => e = boom ∧ Gk rb s m w w' := by
  have hix : Hid (∀ w, Calls Tryd.prog 92 #[.string ⟨#[110, 116, 114]⟩, .int .u8 c.toNat] w fun e w' => e = .returned (.int .i64 (Lib.indexByte [110, 116, 114] c)) ∧ w = w') := Lib.hid fun w => by
    have := index_any ⟨#[110, 116, 114]⟩ c.toNat w; rwa [toU] at this
  have hsg : Hid (∀ w, Calls Tryd.prog 93 #[.int .u8 c.toNat] w fun e w' => e = .returned (.bool (!v)) ∧ w = w') := Lib.hid fun w => by
    have := sign_any c w; rwa [hv] at this
  have hI := fun h => idx_neg [110, 116, 114] c (hc h)
  have hg := Lib.hid fun w h => giveUp_any rb (m + 1) m s w h
  have hsub : IntKind.i64.wrap ((m : Int) + 1 - 1) = m := by rw [IntWalk.i64_in _ (by omega)]; omega
  clear hv hc
  generalize Lib.indexByte [110, 116, 114] c = I at *
  cases v
  all_goals
    (try (have hI1 := hI rfl; subst hI1))
    clear hI
    go_enter Tryd.func107, Tryd.ntmps107
    go_wp2_with fail
    refine hP.out.mono ?_
    rintro _ w1 ⟨rfl, hk⟩
    have hK := Lib.hid hk
    clear hk
    go_wp2_with fail
    refine (hN.out _ hK.out.2).mono ?_
    rintro _ w2 ⟨rfl, h2⟩
    have hE := Lib.hid (hK.out.trans h2)
    have c1 : w2.cell? ⟨rb, 1, none⟩ = some (.int .i64 ((m : Int) + 1)) := h2.2.c1
    have z := h2.2.lt
    clear h2
    go_wp2_with fail
    refine (hix.out _).mono ?_
    rintro _ w3 ⟨rfl, rfl⟩
    go_wp2_with fail
    refine (hsg.out _).mono ?_
    rintro _ w3 ⟨rfl, rfl⟩
    go_wp2_with fail
    refine (hg.out _ hE.out.2).mono ?_
    rintro _ w4 ⟨rfl, h4⟩
    have hE2 := Lib.hid (hE.out.trans h4)
    clear h4
    unfold boom
    go_wp2
    exact ⟨rfl, rfl, hE2.out⟩

def ltr (d : UInt8) : Option UInt8 := if d = 110 then some 10 else if d = 116 then some 9 else if d = 114 then some 13 else none
/-- A byte as an atom: it and what is left, or what is left where it may not stand. -/
def sgl : List UInt8 → Except (List UInt8) (UInt8 × List UInt8)
  | [] => .error []
  | 92 :: [] => .error []
  | 92 :: d :: q => match ltr d with
    | some x => .ok (x, q)
    | none => if sgs.contains d then .ok (d, q) else .error (d :: q)
  | c :: q => if sgs.contains c then .error (c :: q) else .ok (c, q)
/-- What a step of the reader does: it answers (as 'f' says of the answer), or gives up. -/
def StepP {α : Type} (rb : Nat) (s : ByteArray) (w : World) (r : Except (List UInt8) (α × List UInt8)) (f : α → Value) (e : Ending) (w' : World) : Prop :=
  match r with
  | .error q => e = boom ∧ GK rb s q w w'
  | .ok (x, q) => e = .returned (f x) ∧ GK rb s q w w'
theorem pass_hid {rb : Nat} {s : ByteArray} {q : List UInt8} {w : World} (B : ByteArray) (h : GA rb s q w) (hs : s.size ≤ 9223372036854775806) (v : Bool) (hv : ahl B.data.toList q = v) :
    PASS rb B v s (s.size - (if v then q.tail else q).length) w := by
  subst hv; exact Lib.hid ((pass_any B h hs).mono fun e w' k => ⟨k.1, k.2.gk⟩)
theorem next_hid {rb : Nat} {s : ByteArray} {c : UInt8} {r : List UInt8} (h : Suf s (c :: r)) (hs : s.size ≤ 9223372036854775806) : NEXT rb s (s.size - (c :: r).length) (.returned (.int .u8 c.toNat)) (s.size - r.length) :=
  Lib.hid fun w hg => (next_any (q := c :: r) ⟨h, hg⟩ hs).mono fun e w' k => ⟨k.1, k.2.gk⟩
theorem next_hid0 {rb : Nat} {s : ByteArray} (hs : s.size ≤ 9223372036854775806) (h : Suf s []) : NEXT rb s (s.size - ([] : List UInt8).length) boom (s.size - ([] : List UInt8).length) :=
  Lib.hid fun w hg => (next_any (q := []) ⟨h, hg⟩ hs).mono fun e w' k => ⟨k.1, k.2.gk⟩
theorem ltr_none {d : UInt8} (h : ltr d = none) : ([110, 116, 114] : List UInt8).contains d = false := by
  unfold ltr at h
  by_cases h1 : d = 110
  · simp [h1] at h
  · by_cases h2 : d = 116
    · simp [h2] at h
    · by_cases h3 : d = 114
      · simp [h3] at h
      · simp [h1, h2, h3]
theorem ltr_some {d x : UInt8} (h : ltr d = some x) : (d = 110 ∧ x = 10) ∨ (d = 116 ∧ x = 9) ∨ (d = 114 ∧ x = 13) := by
  unfold ltr at h
  by_cases h1 : d = 110
  · simp [h1] at h; exact .inl ⟨h1, h.symm⟩
  · by_cases h2 : d = 116
    · simp [h2] at h; exact .inr (.inl ⟨h2, h.symm⟩)
    · by_cases h3 : d = 114
      · simp [h3] at h; exact .inr (.inr ⟨h3, h.symm⟩)
      · simp [h1, h2, h3] at h
theorem single_any {rb : Nat} {s : ByteArray} {q : List UInt8} {w : World} (h : GA rb s q w) (hs : s.size ≤ 9223372036854775806) :
    Calls Tryd.prog 107 #[.pointer (some ⟨rb, 0, none⟩)] w (StepP rb s w (sgl q) fun c => .int .u8 c.toNat) := by
  have hp := fun v hv => pass_hid (v := v) ⟨#[92]⟩ h hs hv
  cases q with
  | nil => exact (single_A false (hp false rfl) (next_hid0 hs h.1)).mono fun e w' k => ⟨k.1, .of h.1 k.2⟩
  | cons c r =>
    by_cases hc : c = 92
    · subst hc
      have hp1 := hp true rfl
      cases r with
      | nil => exact (single_A true hp1 (next_hid0 hs h.1.tl)).mono fun e w' k => ⟨k.1, .of h.1.tl k.2⟩
      | cons d q =>
        have hn := next_hid (rb := rb) h.1.tl hs
        cases hl : ltr d with
        | some x => exact (single_B d x (ltr_some hl) hp1 hn).mono fun e w' k => by simp only [sgl, hl]; exact ⟨k.1, .of h.1.tl.tl k.2⟩
        | none =>
          cases hsg : sgs.contains d with
          | true => exact (single_C true d (fun _ => ltr_none hl) hsg hp1 hn).mono fun e w' k => by simp only [sgl, hl, hsg, if_true]; exact ⟨k.1, .of h.1.tl.tl k.2⟩
          | false =>
            rw [← h.1.tl.next] at hn
            exact (single_D true d (by have := h.1.tl.lt; omega) (fun _ => ltr_none hl) hsg hp1 hn).mono fun e w' k => by simp only [sgl, hl, hsg, Bool.false_eq_true, if_false]; exact ⟨k.1, .of h.1.tl k.2⟩
    · have hp1 := hp false (by simp [ahl, List.contains_cons, hc])
      have hn := next_hid (rb := rb) h.1 hs
      have e0 : sgl (c :: r) = if sgs.contains c then .error (c :: r) else .ok (c, r) := by
        unfold sgl; split <;> simp_all
      rw [e0]
      cases hsg : sgs.contains c with
      | false => exact (single_C false c (fun h => by cases h) hsg hp1 hn).mono fun e w' k => by simp only [Bool.false_eq_true, if_false]; exact ⟨k.1, .of h.1.tl k.2⟩
      | true =>
        rw [← h.1.next] at hn
        exact (single_D false c (by have := h.1.lt; omega) (fun h => by cases h) hsg hp1 hn).mono fun e w' k => by simp only [if_true]; exact ⟨k.1, .of h.1 k.2⟩
end Go.Proofs.YtmjojahkbjlcdaaDoor
end
section
/- What a set's class says is the set. No program, no world. -/
namespace Go.Proofs.YtmjojahkbjlcdaaDoor
set_option linter.unusedSimpArgs false
set_option linter.unusedVariables false
set_option maxRecDepth 100000

theorem sp_cases (c : UInt8) (h : sp c = false) : c ≠ 92 ∧ c ≠ 91 ∧ c ≠ 93 ∧ c ≠ 94 ∧ c ≠ 45 := by
  unfold sp at h
  simp at h
  exact ⟨h.1.1.1.1, h.1.1.1.2, h.1.1.2, h.1.2, h.2⟩
/-- How a byte is written: by two, or by one that is no sign. -/
theorem wr_form (c : UInt8) : (∃ d, wr c = [92, d] ∧ mt d = some c) ∨ (wr c = [c] ∧ sp c = false) := by
  unfold wr
  by_cases h1 : c = 10
  · rw [if_pos h1]; left; subst h1; exact ⟨110, rfl, rfl⟩
  · by_cases h2 : c = 9
    · rw [if_neg h1, if_pos h2]; left; subst h2; exact ⟨116, rfl, rfl⟩
    · by_cases h3 : c = 13
      · rw [if_neg h1, if_neg h2, if_pos h3]; left; subst h3; exact ⟨114, rfl, rfl⟩
      · by_cases h4 : sp c = true
        · rw [if_neg h1, if_neg h2, if_neg h3, if_pos h4]; left
          refine ⟨c, rfl, ?_⟩
          have : c ≠ 110 ∧ c ≠ 116 ∧ c ≠ 114 := by
            refine ⟨?_, ?_, ?_⟩ <;> intro e <;> subst e <;> exact absurd h4 (by decide)
          unfold mt
          rw [if_neg this.1, if_neg this.2.1, if_neg this.2.2, if_pos h4]
        · rw [if_neg h1, if_neg h2, if_neg h3, if_neg h4]; right
          exact ⟨rfl, by simpa using h4⟩
theorem one_wr (c : UInt8) (r : List UInt8) : one (wr c ++ r) = some (c, r) := by
  rcases wr_form c with ⟨d, h, hd⟩ | ⟨h, hs⟩
  · rw [h]; simp [one, hd]
  · rw [h]; have := (sp_cases c hs).1; simp [one, hs, this]
theorem wr_head (c : UInt8) : ∃ h t, wr c = h :: t ∧ h ≠ 93 ∧ h ≠ 94 ∧ h ≠ 45 := by
  rcases wr_form c with ⟨d, h, hd⟩ | ⟨h, hs⟩
  · exact ⟨92, [d], h, by decide, by decide, by decide⟩
  · have := sp_cases c hs
    exact ⟨c, [], h, this.2.2.1, this.2.2.2.1, this.2.2.2.2⟩
/-- A rest that does not go on with the sign of a range. -/
def okR (r : List UInt8) : Prop := ∃ h t, r = h :: t ∧ h ≠ 45
theorem itm_one (c : UInt8) (r : List UInt8) (hr : okR r) : itm (wr c ++ r) = some (c, c, r) := by
  obtain ⟨h, t, rfl, hh⟩ := hr
  unfold itm
  rw [one_wr]
  simp [hh]
theorem itm_two (a b : UInt8) (r : List UInt8) (hab : a ≤ b) : itm (wr a ++ ([45] ++ (wr b ++ r))) = some (a, b, r) := by
  unfold itm
  rw [one_wr]
  simp [one_wr, hab]
theorem bd_wr (c : UInt8) (q : List UInt8) (f : Nat → Bool) (a b : UInt8) (r : List UInt8) (h : itm (wr c ++ q) = some (a, b, r)) : bd (wr c ++ q) f = bd r (orF f (body.rangeG a b)) := by
  obtain ⟨x, t, e, h93, _, _⟩ := wr_head c
  rw [e] at h ⊢
  exact bd_item x (t ++ q) f h93 a b r h
theorem orF_none (f : Nat → Bool) : orF f (inR []) = f := by funext n; simp [orF, inR]
theorem ofNat_toNat (a : Nat) (h : a < 256) : (UInt8.ofNat a).toNat = a := by
  rw [UInt8.toNat_ofNat']; exact Nat.mod_eq_of_lt h
theorem rangeG_is (a b : Nat) (ha : a < 256) (hb : b < 256) (hab : a ≤ b) : body.rangeG (UInt8.ofNat a) (UInt8.ofNat b) = inR [(a, b)] := by
  funext n
  unfold body.rangeG
  rw [ofNat_toNat a ha, ofNat_toNat b hb, inR_one]
  rw [show decide (n < a + (b + 1 - a)) = decide (n ≤ b) by rw [decide_eq_decide]; omega]
theorem orF_assoc (f : Nat → Bool) (R S : List (Nat × Nat)) : orF (orF f (inR R)) (inR S) = orF f (inR (R ++ S)) := by
  funext n; simp [orF, inR_app, Bool.or_assoc]
theorem txt_head (R : List (Nat × Nat)) (r : List UInt8) (hr : okR r) : okR (txt R ++ r) := by
  cases R with
  | nil => simpa [txt] using hr
  | cons x R =>
    obtain ⟨h, t, e, _, _, h45⟩ := wr_head (UInt8.ofNat x.1)
    simp only [txt]
    unfold rt wn
    by_cases h1 : x.1 = x.2
    · rw [if_pos h1, e]; exact ⟨h, _, rfl, h45⟩
    · by_cases h2 : x.2 - x.1 = 1
      · rw [if_neg h1, if_pos h2, e]; exact ⟨h, _, rfl, h45⟩
      · rw [if_neg h1, if_neg h2, e]; exact ⟨h, _, rfl, h45⟩
theorem bd_txt : ∀ (R : List (Nat × Nat)) (r : List UInt8) (f : Nat → Bool), okR r → (∀ x ∈ R, x.1 ≤ x.2 ∧ x.2 < 256) → bd (txt R ++ r) f = bd r (orF f (inR R))
  | [], r, f, _, _ => by rw [orF_none]; rfl
  | (a, b) :: R, r, f, hr, h => by
    have hx := h (a, b) (List.mem_cons_self ..)
    simp only at hx
    have ih := bd_txt R r (orF f (inR [(a, b)])) hr (fun x hx => h x (List.mem_cons_of_mem _ hx))
    have hok := txt_head R r hr
    rw [orF_assoc] at ih
    rw [show txt ((a, b) :: R) ++ r = rt (a, b) ++ (txt R ++ r) by simp [txt]]
    show _ = bd r (orF f (inR ([(a, b)] ++ R)))
    rw [← ih]
    unfold rt wn
    simp only
    by_cases h1 : a = b
    · subst h1
      rw [if_pos rfl, bd_wr _ _ _ _ _ _ (itm_one _ _ hok), rangeG_is a a (by omega) (by omega) (by omega)]
    · by_cases h2 : b - a = 1
      · rw [if_neg h1, if_pos h2, List.append_assoc]
        have hok2 : okR (wr (UInt8.ofNat b) ++ (txt R ++ r)) := by
          obtain ⟨x, t, e, _, _, h45⟩ := wr_head (UInt8.ofNat b)
          rw [e]; exact ⟨x, _, rfl, h45⟩
        rw [bd_wr _ _ _ _ _ _ (itm_one _ _ hok2), bd_wr _ _ _ _ _ _ (itm_one _ _ hok), rangeG_is a a (by omega) (by omega) (by omega), rangeG_is b b (by omega) (by omega) (by omega), orF_assoc]
        congr 2
        funext n
        rw [inR_app, inR_one, inR_one, inR_one]
        rw [Bool.eq_iff_iff]; simp; omega
      · rw [if_neg h1, if_neg h2, List.append_assoc, List.append_assoc]
        have hab : UInt8.ofNat a ≤ UInt8.ofNat b := by rw [UInt8.le_iff_toNat_le, ofNat_toNat a (by omega), ofNat_toNat b (by omega)]; omega
        rw [bd_wr _ _ _ _ _ _ (itm_two _ _ _ hab), rangeG_is a b (by omega) (by omega) (by omega)]
theorem okR_end : okR [93] := ⟨93, [], rfl, by decide⟩
theorem ps_pr (f : Nat → Bool) : ∃ g, ps (pr f) = some g ∧ ∀ n, n < 256 → g n = f n := by
  unfold pr
  by_cases h : 128 < cntF f 256
  · rw [if_pos h]
    have hb := bd_txt (runsF (fun b => !f b) 256) [93] (fun _ => false) okR_end (fun x hx => by have := runs_le _ 256 x hx; omega)
    rw [bd_end] at hb
    refine ⟨noF (orF (fun _ => false) (inR (runsF (fun b => !f b) 256))), ?_, ?_⟩
    · unfold ps cls
      simp [hb]
    · intro n hn
      simp [noF, orF, runs_in, hn]
  · rw [if_neg h]
    have hb := bd_txt (runsF f 256) [93] (fun _ => false) okR_end (fun x hx => by have := runs_le _ 256 x hx; omega)
    rw [bd_end] at hb
    refine ⟨orF (fun _ => false) (inR (runsF f 256)), ?_, ?_⟩
    · have hne : ∀ (l : List UInt8), l = txt (runsF f 256) ++ [93] → cls (91 :: l) = bd l fun _ => false := by
        intro l hl
        cases l with
        | nil => simp at hl
        | cons d q =>
          have hd : d ≠ 94 := by
            cases hR : runsF f 256 with
            | nil => rw [hR] at hl; simp [txt] at hl; rw [hl.1]; decide
            | cons x R =>
              rw [hR] at hl
              obtain ⟨y, t, e, _, h94, _⟩ := wr_head (UInt8.ofNat x.1)
              simp only [txt] at hl
              unfold rt wn at hl
              by_cases h1 : x.1 = x.2
              · rw [if_pos h1, e] at hl; simp at hl; rw [hl.1]; exact h94
              · by_cases h2 : x.2 - x.1 = 1
                · rw [if_neg h1, if_pos h2, e] at hl; simp at hl; rw [hl.1]; exact h94
                · rw [if_neg h1, if_neg h2, e] at hl; simp at hl; rw [hl.1]; exact h94
          unfold cls
          simp [hd]
      unfold ps
      rw [List.append_assoc, List.singleton_append, hne _ rfl, hb]
    · intro n hn
      simp [orF, runs_in, hn]
theorem runs_congr {f g : Nat → Bool} : ∀ k, (∀ n, n < k → f n = g n) → runsF f k = runsF g k
  | 0, _ => rfl
  | k + 1, h => by
    have ih := runs_congr k (fun n hn => h n (by omega))
    have h1 := h k (by omega)
    have h2 := h (k - 1) (by omega)
    simp only [runsF, ih, h1, h2]
theorem pr_congr {f g : Nat → Bool} (h : ∀ n, n < 256 → f n = g n) : pr f = pr g := by
  unfold pr
  rw [cnt_congr h, runs_congr 256 h, runs_congr (f := fun b => !f b) (g := fun b => !g b) 256 (fun n hn => by rw [h n hn])]
theorem pr_less (f : Nat → Bool) (h : cntF f 256 < 128) : pr f = [91] ++ (txt (runsF f 256) ++ [93]) ∧ pr (fun b => !f b) = [91, 94] ++ (txt (runsF f 256) ++ [93]) := by
  have hn := cnt_not f 256
  unfold pr
  rw [if_neg (by omega), if_pos (by omega)]
  simp
theorem pr_more (f : Nat → Bool) (h : 128 < cntF f 256) : pr (fun b => !f b) = [91] ++ (txt (runsF (fun b => !f b) 256) ++ [93]) ∧ pr f = [91, 94] ++ (txt (runsF (fun b => !f b) 256) ++ [93]) := by
  have hn := cnt_not f 256
  unfold pr
  rw [if_neg (by omega), if_pos (by omega)]
  simp
end Go.Proofs.YtmjojahkbjlcdaaDoor
end
