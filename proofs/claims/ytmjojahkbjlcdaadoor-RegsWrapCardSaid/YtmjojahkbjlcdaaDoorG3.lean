/- Package regs: the reader's small steps: what comes next. -/
import Derived.Test.YtmjojahkbjlcdaaDoorProg
import Derived.Test.YtmjojahkbjlcdaaDoorX3
import Derived.Test.YtmjojahkbjlcdaaDoorX5
import Derived.WalkKit
import Derived.WalkLawsBesides
import Derived.WalkSpells
import Derived.Outline
import Derived.Lib.Walk
import Derived.Lib.Hide
import Derived.RegionTactic
import Derived.LoopTactic
import Derived.Below
import Derived.IntWalk
import Derived.Deep.QuietTactic
import Derived.BigQuiet
import Derived.Test.YtmjojahkbjlcdaaDoorG2
namespace Go.Proofs.YtmjojahkbjlcdaaDoor
set_option linter.unusedSimpArgs false
set_option linter.unusedVariables false
set_option maxRecDepth 100000
open Go.RowKit

/-- What is left of the text s. -/
def Suf (s : ByteArray) (q : List UInt8) : Prop := ∃ p, s.data.toList = p ++ q
theorem Suf.len {s : ByteArray} {q : List UInt8} (h : Suf s q) : q.length ≤ s.size := by
  obtain ⟨p, hp⟩ := h
  have h1 : s.data.toList.length = s.size := by simp
  rw [hp, List.length_append] at h1; omega
theorem Suf.tl {s : ByteArray} {c : UInt8} {r : List UInt8} (h : Suf s (c :: r)) : Suf s r := by
  obtain ⟨p, hp⟩ := h; exact ⟨p ++ [c], by simp [hp]⟩
theorem Suf.drop {s : ByteArray} {p q : List UInt8} (h : Suf s (p ++ q)) : Suf s q := by
  obtain ⟨t, ht⟩ := h; exact ⟨t ++ p, by simp [ht]⟩
theorem Suf.lt {s : ByteArray} {c : UInt8} {r : List UInt8} (h : Suf s (c :: r)) : s.size - (c :: r).length < s.size := by
  have := h.len; simp only [List.length_cons] at this ⊢; omega
theorem Suf.next {s : ByteArray} {c : UInt8} {r : List UInt8} (h : Suf s (c :: r)) : s.size - (c :: r).length + 1 = s.size - r.length := by
  have := h.len; simp only [List.length_cons] at this ⊢; omega
theorem Suf.get {s : ByteArray} {c : UInt8} {r : List UInt8} (h : Suf s (c :: r)) (hlt : s.size - (c :: r).length < s.size) : s[s.size - (c :: r).length]'hlt = c := by
  obtain ⟨p, hp⟩ := h
  have h1 : s.data.toList.length = s.size := by simp
  have h2 : s.size - (c :: r).length = p.length := by rw [hp] at h1; simp only [List.length_append, List.length_cons] at h1 ⊢; omega
  have h3 : s.data.toList[s.size - (c :: r).length]? = some c := by rw [h2, hp]; simp
  have h4 : s.data.toList[s.size - (c :: r).length]? = some (s[s.size - (c :: r).length]'hlt) := by
    rw [List.getElem?_eq_getElem (by rw [h1]; exact hlt)]; rfl
  rw [h4] at h3
  exact Option.some.inj h3
theorem Suf.whole (s : ByteArray) : Suf s s.data.toList := ⟨[], rfl⟩

/-- The reader stands ahead of q. -/
def GA (rb : Nat) (s : ByteArray) (q : List UInt8) (w : World) : Prop := Suf s q ∧ Gat rb s (s.size - q.length) w
/-- What its calls do. -/
def GK (rb : Nat) (s : ByteArray) (q : List UInt8) (w w' : World) : Prop := w.grownBy w' (some rb) ∧ GA rb s q w'
theorem GK.of {rb : Nat} {s : ByteArray} {q : List UInt8} {w w' : World} (hq : Suf s q) (h : Gk rb s (s.size - q.length) w w') : GK rb s q w w' := ⟨h.1, hq, h.2⟩
theorem GK.gk {rb : Nat} {s : ByteArray} {q : List UInt8} {w w' : World} (h : GK rb s q w w') : Gk rb s (s.size - q.length) w w' := ⟨h.1, h.2.2⟩
theorem GK.refl {rb : Nat} {s : ByteArray} {q : List UInt8} {w : World} (h : GA rb s q w) : GK rb s q w w := .of h.1 (Gk.refl h.2)
theorem GK.trans {rb : Nat} {s : ByteArray} {q r : List UInt8} {w w1 w2 : World} (h : GK rb s q w w1) (k : GK rb s r w1 w2) : GK rb s r w w2 := .of k.2.1 (h.gk.trans k.gk)
theorem GK.up {rb : Nat} {s : ByteArray} {q : List UInt8} {w w' : World} (h : GA rb s q w) (hb : Below w.heap.size w w') : GK rb s q w w' := .of h.1 (Gk.up h.2 hb)
theorem GK.drewN {rb : Nat} {s : ByteArray} {q : List UInt8} {w : World} (h : GA rb s q w) (k : Nat) : GK rb s q w (w.drewN k) := .of h.1 (Gk.drewN h.2 k)

/-- Is one of some bytes ahead? -/
def ahl (B : List UInt8) : List UInt8 → Bool
  | [] => false
  | c :: _ => B.contains c
theorem idx_lt : ∀ (B : List UInt8) (c : UInt8), B.contains c = true → 0 ≤ Lib.indexByte B c
  | [], c, h => by simp at h
  | x :: B, c, h => by
    cases h1 : x == c with
    | true => simp [Lib.indexByte, h1]
    | false =>
      have h2 : B.contains c = true := by
        simp only [List.contains_cons, Bool.or_eq_true] at h
        rcases h with h | h
        · have : x = c := (beq_iff_eq.1 h).symm
          rw [this, beq_self_eq_true] at h1; cases h1
        · exact h
      have h3 := idx_lt B c h2
      have h4 : (Lib.indexByte B c == -1) = false := by rw [beq_eq_false_iff_ne]; omega
      simp only [Lib.indexByte, h1, h4, if_false, Bool.false_eq_true]
      omega
theorem idx_dec (B : List UInt8) (c : UInt8) : decide (0 ≤ Lib.indexByte B c) = B.contains c := by
  cases h : B.contains c with
  | true => simpa using idx_lt B c h
  | false => rw [idx_neg B c h]; rfl

theorem ahead_any {rb : Nat} {s : ByteArray} {q : List UInt8} {w : World} (B : ByteArray) (h : GA rb s q w) :
    Calls Tryd.prog 83 #[.pointer (some ⟨rb, 0, none⟩), .string B] w fun e w' => e = .returned (.bool (ahl B.data.toList q)) ∧ GK rb s q w w' := by
  cases q with
  | nil => exact (ahead_end rb (s.size - ([] : List UInt8).length) s B w (Lib.hid h.2) (Lib.hid (by simp))).mono fun e w' k => ⟨k.1, .of h.1 k.2⟩
  | cons c r =>
    have hl := h.1.lt
    have hg := h.1.get hl
    refine (ahead_in rb _ s B w (Lib.hid h.2) hl (Lib.hid (by omega)) (Lib.indexByte B.data.toList c) (B.data.toList.contains c) (Lib.hid (idx_dec _ _)) (Lib.hid fun w => ?_)).mono fun e w' k => ⟨k.1, .of h.1 k.2⟩
    rw [hg]
    have := index_any B c.toNat w
    rwa [toU] at this

set_option maxHeartbeats 2000000 in
theorem pass_step {rb n : Nat} {s : ByteArray} {w : World} (B : ByteArray) (v : Bool) (hs : s.size ≤ 9223372036854775806) (hn : n ≤ s.size) (hA : Hid (Calls Tryd.prog 83 #[.pointer (some ⟨rb, 0, none⟩), .string B] w fun e w' => e = .returned (.bool v) ∧ Gk rb s n w w')) :
    Calls Tryd.prog 66 #[.pointer (some ⟨rb, 0, none⟩), .string B] w fun e w' => e = .returned (.bool v) ∧ Gk rb s (if v then n + 1 else n) w w' := by
  cases v
  all_goals
    go_enter Tryd.func66, Tryd.ntmps66
    go_wp2_with fail
    refine hA.out.mono ?_
    rintro _ w1 ⟨rfl, hk⟩
    have hK := Lib.hid hk
    have c1 := hK.out.2.c1
    have f1 := hK.out.2.f 1
    have z := hK.out.2.lt
    clear hk
    go_wp2
    go_ret
    first | exact ⟨rfl, hK.out⟩ | exact ⟨rfl, hK.out.trans (Gk.set hK.out.2 (n + 1))⟩
theorem pass_any {rb : Nat} {s : ByteArray} {q : List UInt8} {w : World} (B : ByteArray) (h : GA rb s q w) (hs : s.size ≤ 9223372036854775806) :
    Calls Tryd.prog 66 #[.pointer (some ⟨rb, 0, none⟩), .string B] w fun e w' => e = .returned (.bool (ahl B.data.toList q)) ∧ GK rb s (if ahl B.data.toList q then q.tail else q) w w' := by
  refine (pass_step (n := s.size - q.length) B (ahl B.data.toList q) hs (Nat.sub_le _ _) (Lib.hid ((ahead_any B h).mono fun e w' k => ⟨k.1, k.2.gk⟩))).mono fun e w' k => ⟨k.1, ?_⟩
  cases hv : ahl B.data.toList q with
  | false => have k2 := k.2; rw [hv] at k2; exact .of h.1 k2
  | true =>
    cases q with
    | nil => simp [ahl] at hv
    | cons c r => have k2 := k.2; rw [hv] at k2; simp only [if_true] at k2; rw [h.1.next] at k2; exact .of h.1.tl k2

set_option maxHeartbeats 2000000 in
theorem next_nil {rb : Nat} {s : ByteArray} {w : World} (h : Gat rb s s.size w) (hs : s.size ≤ 9223372036854775806) :
    Calls Tryd.prog 99 #[.pointer (some ⟨rb, 0, none⟩)] w fun e w' => e = boom ∧ Gk rb s s.size w w' := by
  have hG := Lib.hid h
  have c0 := h.c0
  have c1 := h.c1
  have z := h.lt
  clear h
  have hg := Lib.hid (giveUp_any rb s.size s.size s)
  go_enter Tryd.func99, Tryd.ntmps99
  go_wp2
  go_quiet (fail)
  have hk := Lib.hid (Gk.drewN hG.out nq)
  generalize w.drewN nq = w1 at *
  have c0 := hk.out.2.c0
  have c1 := hk.out.2.c1
  have z := hk.out.2.lt
  go_wp2_with fail
  refine (hg.out _ hk.out.2).mono ?_
  rintro _ w2 ⟨rfl, h2⟩
  have hE := Lib.hid (hk.out.trans h2)
  clear h2
  unfold boom
  go_wp2
  exact ⟨rfl, rfl, hE.out⟩
set_option maxHeartbeats 2000000 in
theorem next_in {rb n : Nat} {s : ByteArray} {w : World} (h : Gat rb s n w) (hn : n < s.size) (hs : s.size ≤ 9223372036854775806) :
    Calls Tryd.prog 99 #[.pointer (some ⟨rb, 0, none⟩)] w fun e w' => e = .returned (.int .u8 s[n].toNat) ∧ Gk rb s (n + 1) w w' := by
  have hG := Lib.hid h
  have c0 := h.c0
  have c1 := h.c1
  have z := h.lt
  clear h
  have hne : ((n : Int) == (s.size : Int)) = false := by rw [beq_eq_false_iff_ne]; omega
  go_enter Tryd.func99, Tryd.ntmps99
  go_wp2
  go_quiet (fail)
  have hk := Lib.hid (Gk.drewN hG.out nq)
  generalize w.drewN nq = w1 at *
  have c0 := hk.out.2.c0
  have c1 := hk.out.2.c1
  have f1 := hk.out.2.f 1
  have z := hk.out.2.lt
  go_wp2_with fail
  have h2 : Hid (Gk rb s (n + 1) w (w1.setCell ⟨rb, 1, none⟩ (.int .i64 ((n : Int) + 1)))) := Lib.hid (hk.out.trans (Gk.set hk.out.2 (n + 1)))
  clear c0 c1 f1 z hk
  generalize w1.setCell ⟨rb, 1, none⟩ (.int .i64 ((n : Int) + 1)) = w2 at *
  have c0 := h2.out.2.c0
  have c1 : w2.cell? ⟨rb, 1, none⟩ = some (.int .i64 ((n : Int) + 1)) := h2.out.2.c1
  have z := h2.out.2.lt
  have hn2 : (n : Int) < (s.size : Int) := by omega
  have hsub : IntKind.i64.wrap ((n : Int) + 1 - 1) = n := by rw [IntWalk.i64_in _ (by omega)]; omega
  go_quiet (fail)
  go_wp2
  go_ret
  exact ⟨rfl, h2.out.trans (Gk.drewN h2.out.2 _)⟩
/-- What 'next' does. -/
def NextP (rb : Nat) (s : ByteArray) (q : List UInt8) (w : World) (e : Ending) (w' : World) : Prop :=
  match q with
  | [] => e = boom ∧ GK rb s [] w w'
  | c :: r => e = .returned (.int .u8 c.toNat) ∧ GK rb s r w w'
theorem next_any {rb : Nat} {s : ByteArray} {q : List UInt8} {w : World} (h : GA rb s q w) (hs : s.size ≤ 9223372036854775806) :
    Calls Tryd.prog 99 #[.pointer (some ⟨rb, 0, none⟩)] w (NextP rb s q w) := by
  cases q with
  | nil => exact (next_nil h.2 hs).mono fun e w' k => ⟨k.1, .of h.1 k.2⟩
  | cons c r =>
    have hl := h.1.lt
    refine (next_in h.2 hl hs).mono fun e w' k => ⟨?_, .of h.1.tl (by have k2 := k.2; rwa [h.1.next] at k2)⟩
    rw [k.1, h.1.get hl]
/-- The bytes that mean something in a pattern. -/
def sgs : List UInt8 := [46, 42, 43, 63, 124, 40, 41, 91, 93, 92]
set_option maxHeartbeats 1000000 in
theorem sign_any (c : UInt8) (w : World) : Calls Tryd.prog 93 #[.int .u8 c.toNat] w fun e w' => e = .returned (.bool (sgs.contains c)) ∧ w = w' := by
  have hix : Hid (∀ w, Calls Tryd.prog 92 #[.string ⟨#[46, 42, 43, 63, 124, 40, 41, 91, 93, 92]⟩, .int .u8 c.toNat] w fun e w' => e = .returned (.int .i64 (Lib.indexByte sgs c)) ∧ w = w') := Lib.hid fun w => by
    have := index_any ⟨#[46, 42, 43, 63, 124, 40, 41, 91, 93, 92]⟩ c.toNat w
    rwa [toU] at this
  have hv := idx_dec sgs c
  generalize Lib.indexByte sgs c = I at *
  generalize sgs.contains c = v at *
  go_enter Tryd.func93, Tryd.ntmps93
  go_wp2_with fail
  refine (hix.out _).mono ?_
  rintro _ w1 ⟨rfl, rfl⟩
  go_wp2
  go_ret
  exact ⟨rfl, rfl⟩
end Go.Proofs.YtmjojahkbjlcdaaDoor
