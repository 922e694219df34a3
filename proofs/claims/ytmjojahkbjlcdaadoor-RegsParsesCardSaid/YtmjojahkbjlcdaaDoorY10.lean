/- Texts of package regs, one behind the other. -/
import Derived.Test.YtmjojahkbjlcdaaDoorProg
import Derived.Test.YtmjojahkbjlcdaaDoorY3
import Derived.Test.YtmjojahkbjlcdaaDoorY4
import Derived.WalkKit
import Derived.WalkLawsBesides
import Derived.WalkSpells
import Derived.Outline
import Derived.Lib.Walk
import Derived.Lib.Hide
import Derived.RegionTactic
import Derived.LoopTactic
import Derived.Below
import Derived.IntWalk
import Derived.Deep.QuietTactic
import Derived.BigQuiet
import Derived.Test.YtmjojahkbjlcdaaDoorG8
import Derived.Test.YtmjojahkbjlcdaaDoorY6
import Derived.Lib.Slices
import Derived.Lib.Strings
import Derived.Test.YtmjojahkbjlcdaaDoorY7
import Derived.Deep.LoopGhost
import Derived.Laws.Tables
section
/- Package regs: the reader's small steps: what comes next. -/
namespace Go.Proofs.YtmjojahkbjlcdaaDoor
set_option linter.unusedSimpArgs false
set_option linter.unusedVariables false
set_option maxRecDepth 100000
open Go.RowKit

/-- A class: what it says, what is left, or what is left where it may not stand. -/
def csl (l : List UInt8) : Except (List UInt8) (Value × List UInt8) :=
  match cl ((hat l.tail).length + 1) (hat l.tail) with
  | .error t => .error t
  | .ok (_, t) => .ok (setO (ps (l.take (l.length - t.length))), t)
theorem Suf.two {s : ByteArray} {a b : List UInt8} (ha : Suf s a) (hb : Suf s b) (h : b.length ≤ a.length) : a = a.take (a.length - b.length) ++ b := by
  obtain ⟨p, hp⟩ := ha
  obtain ⟨q, hq⟩ := hb
  rw [hp] at hq
  have e : a = (p ++ a).drop p.length := by simp
  have hl : (p ++ a).length = (q ++ b).length := by rw [hq]
  simp only [List.length_append] at hl
  have e2 : b = a.drop (a.length - b.length) := by
    have h1 : b = (q ++ b).drop q.length := by simp
    rw [← hq] at h1
    have h2 : q.length = p.length + (a.length - b.length) := by omega
    rw [h2, ← List.drop_drop, List.drop_left' rfl] at h1
    exact h1
  conv => lhs; rw [← List.take_append_drop (a.length - b.length) a]
  rw [← e2]
theorem cl_len : ∀ (k : Nat) {l t : List UInt8}, cl k l = .ok ((), t) → t.length ≤ l.length
  | 0, l, t, h => by simp [cl] at h
  | k + 1, l, t, h => by
    rw [cl] at h
    by_cases hh : l.head? = some 93
    · rw [if_pos hh] at h; cases h; simp
    · rw [if_neg hh] at h
      cases hi : itl l with
      | error q => rw [hi] at h; cases h
      | ok v =>
        obtain ⟨⟨⟩, r⟩ := v
        rw [hi] at h
        have h1 := cl_len k h
        have h2 := itl_len hi
        omega
theorem class_any5 {rb : Nat} {s : ByteArray} {r : List UInt8} {w : World} (h : GA rb s (91 :: r) w) (hs : s.size ≤ 1000) :
    Calls Tryd.prog 106 #[.pointer (some ⟨rb, 0, none⟩)] w (StepP rb s w (csl (91 :: r)) id) := by
  have hs' : s.size ≤ 9223372036854775806 := by omega
  have hh : hat r = if ahl (⟨#[94]⟩ : ByteArray).data.toList r then r.tail else r := by
    rw [ahl_one]; unfold hat; by_cases h1 : r.head? = some 94 <;> simp [h1]
  have hP2 := ps_hid (rb := rb) ⟨#[94]⟩ h.1.tl hs' _ rfl
  rw [← hh] at hP2
  have hsuf : Suf s (hat r) := by
    unfold hat; split
    · cases r with
      | nil => exact h.1.tl
      | cons c t => exact h.1.tl.tl
    · exact h.1.tl
  have hl : (hat r).length ≤ r.length := by unfold hat; split <;> simp
  refine (class_walk (hat r) hs (by simp; omega) rfl hsuf h.2 (ps_hid ⟨#[91]⟩ h.1 hs' true rfl) _ hP2 (Lib.hid fun q w hq => item_any5 hq hs') (fun q hq => ?_)).mono fun e w' k => ?_
  · have := ps_hid (rb := rb) ⟨#[93]⟩ hq hs' _ (ahl_one 93 q)
    by_cases h1 : q.head? = some 93
    · simpa [h1] using this
    · simpa [h1] using this
  · unfold csl
    simp only [List.tail_cons]
    cases hc : cl ((hat r).length + 1) (hat r) with
    | error t => rw [hc] at k; exact k
    | ok v =>
      obtain ⟨⟨⟩, t⟩ := v
      rw [hc] at k
      have ht := k.2.2.1
      have h1 := cl_len _ hc
      have h2 := Suf.two h.1 ht (by simp; omega)
      have h3 := Suf.ext (s := s) (a := (91 :: r).take ((91 :: r).length - t.length)) (q := t) (by rw [← h2]; exact h.1)
      rw [← h2] at h3
      refine ⟨?_, k.2⟩
      rw [k.1, h3]
      simp [bs]

/-- A pattern, as the memory has it. -/
inductive RT where
  | mk (k : Int) (u : Nat → Int) (ps : List RT)
def nodeC (k : Int) (u : Nat → Int) (sl : Value) : Array Value := #[.int .i64 k, .int .u64 (u 0), .int .u64 (u 1), .int .u64 (u 2), .int .u64 (u 3), sl]
def u0 : Nat → Int := fun _ => 0
/-- The pattern t lies in the world as the value v; its parts lie in blocks of D. -/
inductive RV (D : Nat → Prop) (w : World) : RT → Value → Prop where
  | leaf (k : Int) (u : Nat → Int) (p : Option Addr) (c : Nat) : RV D w (.mk k u []) (.agg (nodeC k u (.slice p 0 c)))
  | node (k : Int) (u : Nat → Int) (ps : List RT) (b o c : Nat) (xs : Nat → Array Value) (hD : D b) (hn : ps ≠ []) (hx : ∀ i (h : i < ps.length), RV D w ps[i] (.agg (xs i)))
      (hc : ∀ i, i < ps.length → ∀ j, j < 6 → ∃ y, (xs i)[j]? = some y ∧ w.cell? ⟨b, o + (6 * i + j), none⟩ = some y) (hz : ∀ j, w.frozen? ⟨b, j, none⟩ = false) : RV D w (.mk k u ps) (.agg (nodeC k u (.slice (some ⟨b, o, none⟩) ps.length c)))
theorem RV.mono {D E : Nat → Prop} {w w' : World} (hE : ∀ b, D b → E b) (hw : ∀ b, D b → b < w.heap.size → w'.heap[b]? = w.heap[b]?) {t : RT} {v : Value} (h : RV D w t v) : RV E w' t v := by
  induction h with
  | leaf k u p c => exact .leaf k u p c
  | node k u ps b o c xs hD hn hx hc hz ih =>
    refine .node k u ps b o c xs (hE b hD) hn ih (fun i hi j hj => ?_) (fun j => ?_)
    rotate_left
    · obtain ⟨y, _, h2⟩ := hc 0 (List.length_pos_iff.2 hn) 0 (by omega)
      have hb := block_lt_of_cell h2
      rw [← hz j]
      unfold World.frozen?
      simp only [hw b hD hb]
    obtain ⟨y, h1, h2⟩ := hc i hi j hj
    refine ⟨y, h1, ?_⟩
    have hb := block_lt_of_cell h2
    rw [← h2]
    unfold World.cell?
    simp only [hw b hD hb]
/-- What a step that makes a pattern does. -/
def TreeP (rb : Nat) (s : ByteArray) (w : World) (r : Except (List UInt8) (RT × List UInt8)) (e : Ending) (w' : World) : Prop :=
  match r with
  | .error q => e = boom ∧ GK rb s q w w'
  | .ok (t, q) => (∃ v, e = .returned v ∧ RV (fun b => w.heap.size ≤ b ∧ b < w'.heap.size) w' t v) ∧ GK rb s q w w'
end Go.Proofs.YtmjojahkbjlcdaaDoor
end
section
namespace Go.Proofs.YtmjojahkbjlcdaaDoor
set_option linter.unusedSimpArgs false
set_option linter.unusedVariables false
set_option maxRecDepth 100000
open Go.RowKit

/- Reading a class: the document's way and the program's say the same. -/
/-- Where a letter that can't be read is at fault. -/
def badL (l : List UInt8) : List UInt8 := if l.head? = some 92 then l.tail else l
theorem wtn_none {l : List UInt8} (h : one l = none) : wtn l = .error (badL l) := by
  cases l with
  | nil => rfl
  | cons c r =>
    by_cases hc : c = 92
    · subst hc
      cases r with
      | nil => rfl
      | cons d q =>
        simp only [one, if_true, Option.map_eq_none_iff] at h
        simp [wtn, badL, h]
    · rw [one_oth c r hc] at h
      have hs : sp c = true := by
        cases hs : sp c with
        | true => rfl
        | false => rw [hs] at h; simp at h
      unfold wtn badL
      rw [if_neg (by simpa using hc)]
      split
      · simp_all
      · simp_all
      · simp_all
      · rename_i c' q' h1 h2 heq
        simp only [List.cons.injEq] at heq
        obtain ⟨rfl, rfl⟩ := heq
        rw [if_pos hs]
theorem wtn_some {l : List UInt8} {x : UInt8} {q : List UInt8} (h : one l = some (x, q)) : ∃ w, wtn l = .ok ((w, x), q) := by
  cases l with
  | nil => simp [one] at h
  | cons c r =>
    by_cases hc : c = 92
    · subst hc
      cases r with
      | nil => simp [one] at h
      | cons d q' =>
        simp only [one, if_true, Option.map_eq_some_iff] at h
        obtain ⟨y, hy, he⟩ := h
        cases he
        exact ⟨[92, d], by simp [wtn, hy]⟩
    · rw [one_oth c r hc] at h
      have hs : sp c = false := by
        cases hs : sp c with
        | false => rfl
        | true => rw [hs] at h; simp at h
      rw [hs] at h
      simp at h
      obtain ⟨rfl, rfl⟩ := h
      refine ⟨[c], ?_⟩
      unfold wtn
      split
      · simp_all
      · simp_all
      · simp_all
      · rename_i c' q' h1 h2 heq
        simp only [List.cons.injEq] at heq
        obtain ⟨rfl, rfl⟩ := heq
        rw [if_neg (by simp [hs])]
theorem itl_n {l : List UInt8} (h : one l = none) : itl l = .error (badL l) := by
  unfold itl; rw [wtn_none h]
theorem itl_x {l : List UInt8} {a : UInt8} {q : List UInt8} (h : one l = some (a, q)) (hq : q.head? ≠ some 45) : itl l = .ok ((), q) := by
  obtain ⟨w, hw⟩ := wtn_some h
  unfold itl; rw [hw]
  cases q with
  | nil => rfl
  | cons c r => simp at hq; simp [hq]
theorem itl_n2 {l : List UInt8} {a : UInt8} {r : List UInt8} (h : one l = some (a, 45 :: r)) (h2 : one r = none) : itl l = .error (badL r) := by
  obtain ⟨w, hw⟩ := wtn_some h
  unfold itl; rw [hw]
  simp [wtn_none h2]
theorem itl_y {l : List UInt8} {a b : UInt8} {r t : List UInt8} (h : one l = some (a, 45 :: r)) (h2 : one r = some (b, t)) (hab : a ≤ b) : itl l = .ok ((), t) := by
  obtain ⟨w, hw⟩ := wtn_some h
  obtain ⟨w2, hw2⟩ := wtn_some h2
  unfold itl; rw [hw]
  simp [hw2, hab]
theorem itl_z {l : List UInt8} {a b : UInt8} {r t : List UInt8} (h : one l = some (a, 45 :: r)) (h2 : one r = some (b, t)) (hab : ¬ a ≤ b) : ∃ c, itl l = .error (c :: t) := by
  obtain ⟨w, hw⟩ := wtn_some h
  obtain ⟨w2, hw2⟩ := wtn_some h2
  obtain ⟨hW, _⟩ := wtn_ok hw2
  have e : itl l = .error (w2.drop (w2.length - 1) ++ t) := by
    unfold itl; rw [hw]
    simp [hw2, hab]
  rw [e]
  rcases hW with ⟨d, rfl, _⟩ | ⟨rfl, _⟩
  · exact ⟨d, rfl⟩
  · exact ⟨b, rfl⟩
theorem cl_fuel : ∀ (n m : Nat) (l : List UInt8), l.length < n → n ≤ m → cl n l = cl m l
  | 0, _, _, h, _ => absurd h (by omega)
  | n + 1, m, l, h, hm => by
    obtain ⟨m', rfl⟩ : ∃ m', m = m' + 1 := ⟨m - 1, by omega⟩
    simp only [cl]
    split
    · rfl
    · split
      · rfl
      · rename_i u r hq
        have := itl_len hq
        exact cl_fuel n m' r (by omega) (by omega)
/-- Where a class ends, from behind its opening on. -/
def clw (l : List UInt8) : Except (List UInt8) (Unit × List UInt8) := cl (l.length + 1) l
theorem clw_end (r : List UInt8) : clw (93 :: r) = .ok ((), r) := by simp [clw, cl]
theorem clw_bad {l q : List UInt8} (h93 : l.head? ≠ some 93) (h : itl l = .error q) : clw l = .error q := by
  unfold clw; rw [cl, if_neg h93, h]
theorem clw_item {l r : List UInt8} (h93 : l.head? ≠ some 93) (h : itl l = .ok ((), r)) : clw l = clw r := by
  have hl := itl_len h
  unfold clw; rw [cl, if_neg h93, h]
  exact (cl_fuel _ _ _ (by omega) (by omega)).symm
theorem one_cut {l : List UInt8} {x : UInt8} {q : List UInt8} (h : one l = some (x, q)) : ∃ w, w ≠ [] ∧ l = w ++ q ∧ ∀ y, one (w ++ y) = some (x, y) := by
  obtain ⟨w, hw⟩ := wtn_some h
  obtain ⟨hW, he⟩ := wtn_ok hw
  exact ⟨w, by rcases hW with ⟨d, rfl, _⟩ | ⟨rfl, _⟩ <;> simp, he, fun y => hW.one y⟩
theorem itm_cut {l : List UInt8} {a b : UInt8} {c t : List UInt8} (h : itm l = some (a, b, c ++ t)) (hc : c ≠ []) : ∃ w, w ≠ [] ∧ l = w ++ (c ++ t) ∧ itm (w ++ c) = some (a, b, c) := by
  unfold itm at h
  split at h
  · cases h
  · rename_i a' h1
    simp only [Option.some.injEq, Prod.mk.injEq] at h
    obtain ⟨-, -, h3⟩ := h
    have := congrArg List.length h3
    cases c with
    | nil => exact absurd rfl hc
    | cons d r => simp at this
  · rename_i a' d q h1
    obtain ⟨w, hw0, he, hw⟩ := one_cut h1
    split at h
    · rename_i hd
      subst hd
      split at h
      · cases h
      · rename_i b' t' h2
        obtain ⟨w2, hw20, he2, hw2⟩ := one_cut h2
        split at h
        · rename_i hab
          simp only [Option.some.injEq, Prod.mk.injEq] at h
          obtain ⟨rfl, rfl, h3⟩ := h
          subst h3
          refine ⟨w ++ 45 :: w2, by simp, by rw [he, he2]; simp, ?_⟩
          unfold itm
          rw [show w ++ 45 :: w2 ++ c = w ++ (45 :: (w2 ++ c)) by simp, hw]
          simp [hw2, hab]
        · cases h
    · rename_i hd
      simp only [Option.some.injEq, Prod.mk.injEq] at h
      obtain ⟨rfl, rfl, h3⟩ := h
      refine ⟨w, hw0, by rw [he, h3], ?_⟩
      unfold itm
      rw [hw]
      cases c with
      | nil => exact absurd rfl hc
      | cons d' r =>
        simp only [List.cons_append, List.cons.injEq] at h3
        obtain ⟨rfl, -⟩ := h3
        simp [hd]
theorem bd_cut : ∀ (n : Nat) (l : List UInt8) (f g : Nat → Bool) (t : List UInt8), l.length ≤ n → bd l f = some (g, t) → ∃ c, c ≠ [] ∧ l = c ++ t ∧ bd c f = some (g, [])
  | n, [], f, g, t, _, h => by rw [bd_nil] at h; cases h
  | 0, c :: r, f, g, t, hn, h => by simp at hn
  | n + 1, c :: r, f, g, t, hn, h => by
    by_cases hc : c = 93
    · subst hc
      rw [bd_end] at h
      simp only [Option.some.injEq, Prod.mk.injEq] at h
      obtain ⟨rfl, rfl⟩ := h
      exact ⟨[93], by simp, rfl, bd_end _ _⟩
    · cases hi : itm (c :: r) with
      | none => rw [bd_bad c r f hc hi] at h; cases h
      | some x =>
        obtain ⟨a, b, q⟩ := x
        rw [bd_item c r f hc a b q hi] at h
        have hl := itm_len _ _ _ _ hi
        obtain ⟨c', hc0, rfl, hb⟩ := bd_cut n q _ g t (by simp at hl hn; omega) h
        obtain ⟨w, hw0, he, hw⟩ := itm_cut hi hc0
        refine ⟨w ++ c', by simp [hw0], by rw [he]; simp, ?_⟩
        cases w with
        | nil => exact absurd rfl hw0
        | cons d w' =>
          rw [List.cons_append] at he
          injection he with h1 h2
          subst h1
          rw [List.cons_append] at hw ⊢
          rw [bd_item c (w' ++ c') f hc a b c' hw]
          exact hb
/-- Both ways to read a class, up to its closing sign. -/
theorem bd_clw : ∀ (n : Nat) (l : List UInt8) (f : Nat → Bool), l.length ≤ n → (∀ q, clw l = .error q → bd l f = none) ∧ ∀ t, clw l = .ok ((), t) → ∃ g, bd l f = some (g, t)
  | n, [], f, _ => ⟨fun q h => bd_nil f, fun t h => by simp [clw, cl, itl, wtn] at h⟩
  | 0, c :: r, f, hn => by simp at hn
  | n + 1, c :: r, f, hn => by
    by_cases hc : c = 93
    · subst hc
      rw [clw_end, bd_end]
      exact ⟨fun q h => (by cases h), fun t h => (by cases h; exact ⟨f, rfl⟩)⟩
    · have h93 : (c :: r).head? ≠ some 93 := by simpa using hc
      cases hi : itm (c :: r) with
      | none =>
        rw [bd_bad c r f hc hi]
        refine ⟨fun q h => rfl, fun t h => ?_⟩
        exfalso
        cases h1 : one (c :: r) with
        | none => rw [clw_bad h93 (itl_n h1)] at h; cases h
        | some x =>
          obtain ⟨a, q⟩ := x
          unfold itm at hi
          rw [h1] at hi
          cases q with
          | nil => simp at hi
          | cons d q =>
            by_cases hd : d = 45
            · subst hd
              cases h2 : one q with
              | none => rw [clw_bad h93 (itl_n2 h1 h2)] at h; cases h
              | some y =>
                obtain ⟨b, t'⟩ := y
                by_cases hab : a ≤ b
                · simp [h2, hab] at hi
                · obtain ⟨c', hz⟩ := itl_z h1 h2 hab
                  rw [clw_bad h93 hz] at h; cases h
            · simp [hd] at hi
      | some x =>
        obtain ⟨a, b, q⟩ := x
        have hl := itm_len _ _ _ _ hi
        rw [bd_item c r f hc a b q hi]
        have e : clw (c :: r) = clw q := by
          refine clw_item h93 ?_
          unfold itm at hi
          split at hi
          · cases hi
          · rename_i a' h1
            simp only [Option.some.injEq, Prod.mk.injEq] at hi
            obtain ⟨-, -, rfl⟩ := hi
            exact itl_x h1 (by simp)
          · rename_i a' d q' h1
            split at hi
            · rename_i hd
              subst hd
              split at hi
              · cases hi
              · rename_i b' t' h2
                split at hi
                · rename_i hab
                  simp only [Option.some.injEq, Prod.mk.injEq] at hi
                  obtain ⟨rfl, rfl, rfl⟩ := hi
                  exact itl_y h1 h2 hab
                · cases hi
            · rename_i hd
              simp only [Option.some.injEq, Prod.mk.injEq] at hi
              obtain ⟨-, -, rfl⟩ := hi
              exact itl_x h1 (by simpa using hd)
        rw [e]
        exact bd_clw n q _ (by simp at hl hn; omega)
/-- What a class that was read says. -/
theorem ps_cut {r : List UInt8} {v : Bool} {g : Nat → Bool} {t : List UInt8} (hv : v = decide (r.head? = some 94)) (h : bd (hat r) (fun _ => false) = some (g, t)) : ps ((91 :: r).take ((91 :: r).length - t.length)) = some (if v then noF g else g) := by
  obtain ⟨c, hc0, he, hb⟩ := bd_cut _ _ _ _ _ (Nat.le_refl _) h
  cases r with
  | nil => simp [hat] at he; exact absurd he.1 hc0
  | cons d q =>
    by_cases hd : d = 94
    · subst hd
      have e2 : hat (94 :: q) = q := by simp [hat]
      rw [e2] at he
      subst he
      have e3 : (91 :: 94 :: (c ++ t)).take ((91 :: 94 :: (c ++ t)).length - t.length) = 91 :: 94 :: c := by
        rw [show (91 :: 94 :: (c ++ t)).length - t.length = (91 :: 94 :: c).length by simp; omega, show (91 :: 94 :: (c ++ t) : List UInt8) = (91 :: 94 :: c) ++ t by simp, List.take_left]
      rw [e3, hv]
      unfold ps cls
      simp [hb]
    · have e2 : hat (d :: q) = d :: q := by simp [hat, hd]
      rw [e2] at he
      cases c with
      | nil => exact absurd rfl hc0
      | cons d' c' =>
        rw [List.cons_append] at he
        injection he with h1 h2
        subst h1; subst h2
        have e3 : (91 :: d :: (c' ++ t)).take ((91 :: d :: (c' ++ t)).length - t.length) = 91 :: d :: c' := by
          rw [show (91 :: d :: (c' ++ t)).length - t.length = (91 :: d :: c').length by simp; omega, show (91 :: d :: (c' ++ t) : List UInt8) = (91 :: d :: c') ++ t by simp, List.take_left]
        rw [e3, hv]
        unfold ps
        rw [cls_open _ hd, hb]
        simp [hd]
end Go.Proofs.YtmjojahkbjlcdaaDoor
end
section
/- The document's One and Bad: a byte of a class at a place. -/
namespace Go.Proofs.YtmjojahkbjlcdaaDoor
set_option linter.unusedSimpArgs false
set_option linter.unusedVariables false
set_option maxRecDepth 100000
open Go.RowKit

def one3 (c : UInt8) (m : Int) (b : Bool) : Ending := .returned (.tuple #[.int .u8 c.toNat, .int .i64 m, .bool b])
def OneR (s : ByteArray) (n : Nat) (w : World) (e : Ending) (w' : World) : Prop := Below w.heap.size w w' ∧
  match one (s.data.toList.drop n) with
  | some (c, q) => ∃ m : Nat, n < m ∧ m ≤ s.size ∧ q = s.data.toList.drop m ∧ e = one3 c m true
  | none => ∃ (c : UInt8) (m : Nat), e = one3 c m false
theorem drop_at (s : ByteArray) (n : Nat) (h : n < s.size) : s.data.toList.drop n = s[n] :: s.data.toList.drop (n + 1) := by
  have hl : n < s.data.toList.length := by simpa using h
  rw [List.drop_eq_getElem_cons hl]; rfl
theorem drop_end (s : ByteArray) (n : Nat) (h : s.size ≤ n) : s.data.toList.drop n = [] := List.drop_eq_nil_of_le (by simpa using h)
theorem one_esc' (d : UInt8) (q : List UInt8) : one (92 :: d :: q) = (mt d).map fun x => (x, q) := by simp [one]
theorem one_oth' (c : UInt8) (r : List UInt8) (h : c ≠ 92) : one (c :: r) = if sp c then none else some (c, r) := by simp [one, h]
theorem OneR.none {s : ByteArray} {n : Nat} {w w' : World} {e : Ending} (h : one (s.data.toList.drop n) = none) (hb : Below w.heap.size w w') (c : UInt8) (m : Nat) (he : e = one3 c m false) : OneR s n w e w' := by
  unfold OneR; rw [h]; exact ⟨hb, c, m, he⟩
theorem OneR.some {s : ByteArray} {n : Nat} {w w' : World} {e : Ending} {c : UInt8} (m : Nat) (h : one (s.data.toList.drop n) = some (c, s.data.toList.drop m)) (hb : Below w.heap.size w w') (h1 : n < m) (h2 : m ≤ s.size) (he : e = one3 c m true) : OneR s n w e w' := by
  unfold OneR; rw [h]; exact ⟨hb, m, h1, h2, rfl, he⟩
set_option maxHeartbeats 4000000 in
theorem one_any (s : ByteArray) (n : Nat) (hs : s.size ≤ 140737488355328) (hn : n ≤ s.size) (w : World) :
    Calls Tryd.prog 100 #[.string s, .int .i64 n] w (OneR s n w) := by
  by_cases h1 : s.size ≤ n
  · have hN := Lib.hid (show one (s.data.toList.drop n) = none by rw [drop_end s n h1]; rfl)
    go_enter Tryd.func100, Tryd.ntmps100
    go_wp2
    go_ret3
    exact OneR.none hN.out (Below.refl _ _) 0 n rfl
  · have hlt : n < s.size := by omega
    have hd := drop_at s n hlt
    by_cases hc : s[n] = 92
    · have e0 : ((s[n].toNat : Int) != 92) = false := by rw [hc]; rfl
      have e0' : ((s[n].toNat : Int) == 92) = true := by rw [hc]; rfl
      rw [hc] at hd
      by_cases h2 : s.size ≤ n + 1
      · have hN := Lib.hid (show one (s.data.toList.drop n) = none by rw [hd, drop_end s (n + 1) h2]; simp [one])
        clear hd hc
        go_enter Tryd.func100, Tryd.ntmps100
        go_wp2
        go_ret3
        exact OneR.none hN.out (Below.refl _ _) 0 n rfl
      · have hlt2 : n + 1 < s.size := by omega
        have hd2 := drop_at s (n + 1) hlt2
        rw [hd2] at hd
        have hO := one_esc' s[n + 1] (s.data.toList.drop (n + 1 + 1))
        rw [← hd] at hO
        have HO := Lib.hid hO
        have hsp := Lib.hid (special_any s[n + 1])
        clear hO hd hd2 hc
        by_cases k1 : s[n + 1] = 110
        · have e1 : ((s[n + 1].toNat : Int) == 110) = true := by rw [k1]; rfl
          have HN := Lib.hid (show one (s.data.toList.drop n) = Option.some (10, s.data.toList.drop (n + 2)) by rw [HO.out, k1]; rfl)
          clear k1
          go_enter Tryd.func100, Tryd.ntmps100
          go_wp2
          go_ret3
          exact OneR.some (n + 2) HN.out (Below.refl _ _) (by omega) (by omega) rfl
        · have e1 : ((s[n + 1].toNat : Int) == 110) = false := neqU _ 110 (by omega) k1
          by_cases k2 : s[n + 1] = 116
          · have e2 : ((s[n + 1].toNat : Int) == 116) = true := by rw [k2]; rfl
            have HN := Lib.hid (show one (s.data.toList.drop n) = Option.some (9, s.data.toList.drop (n + 2)) by rw [HO.out, k2]; rfl)
            clear k1 k2
            go_enter Tryd.func100, Tryd.ntmps100
            go_wp2
            go_ret3
            exact OneR.some (n + 2) HN.out (Below.refl _ _) (by omega) (by omega) rfl
          · have e2 : ((s[n + 1].toNat : Int) == 116) = false := neqU _ 116 (by omega) k2
            by_cases k3 : s[n + 1] = 114
            · have e3 : ((s[n + 1].toNat : Int) == 114) = true := by rw [k3]; rfl
              have HN := Lib.hid (show one (s.data.toList.drop n) = Option.some (13, s.data.toList.drop (n + 2)) by rw [HO.out, k3]; rfl)
              clear k1 k2 k3
              go_enter Tryd.func100, Tryd.ntmps100
              go_wp2
              go_ret3
              exact OneR.some (n + 2) HN.out (Below.refl _ _) (by omega) (by omega) rfl
            · have e3 : ((s[n + 1].toNat : Int) == 114) = false := neqU _ 114 (by omega) k3
              have hmt : mt s[n + 1] = if sp s[n + 1] then Option.some s[n + 1] else Option.none := by simp [mt, k1, k2, k3]
              rw [hmt] at HO
              clear hmt k1 k2 k3
              cases hs5 : sp s[n + 1]
              · rw [hs5] at HO hsp
                clear hs5
                go_enter Tryd.func100, Tryd.ntmps100
                go_wp2_with fail
                refine (hsp.out _).mono ?_
                rintro _ _ ⟨rfl, rfl⟩
                go_wp2
                go_ret3
                exact OneR.none HO.out (Below.refl _ _) 0 n rfl
              · rw [hs5] at HO hsp
                clear hs5
                go_enter Tryd.func100, Tryd.ntmps100
                go_wp2_with fail
                refine (hsp.out _).mono ?_
                rintro _ _ ⟨rfl, rfl⟩
                go_wp2
                go_ret3
                exact OneR.some (n + 2) HO.out (Below.refl _ _) (by omega) (by omega) rfl
    · have e0 : ((s[n].toNat : Int) != 92) = true := by
        have h9 : ((s[n].toNat : Int) == 92) = false := neqU s[n] 92 (by omega) hc
        rw [bne, h9]; rfl
      have e0' : ((s[n].toNat : Int) == 92) = false := neqU _ 92 (by omega) hc
      have hO := one_oth' s[n] (s.data.toList.drop (n + 1)) hc
      rw [← hd] at hO
      have HO := Lib.hid hO
      have hsp := Lib.hid (special_any s[n])
      clear hO hd hc
      have j0 : (0 : Int) ≤ (n : Int) := by omega
      have j1 : (n : Int) < (s.size : Int) := by omega
      cases hs5 : sp s[n]
      · rw [hs5] at HO hsp
        clear hs5
        go_enter Tryd.func100, Tryd.ntmps100
        go_wp2_with fail
        have j2 : IntKind.i64.wrap ((n : Int) + 1) = (n : Int) + 1 := IntWalk.i64_in _ (by omega)
        go_quiet ((go_at_call 109; exact Calls.quiet_of_same ((hsp.out _).mono fun e w' h => ⟨h.1, h.2.symm⟩)))
        clear j2
        go_wp2
        go_ret3
        exact OneR.some (n + 1) HO.out (below_drewN (Below.refl _ _) _) (by omega) (by omega) rfl
      · rw [hs5] at HO hsp
        clear hs5
        go_enter Tryd.func100, Tryd.ntmps100
        go_wp2_with fail
        have j2 : IntKind.i64.wrap ((n : Int) + 1) = (n : Int) + 1 := IntWalk.i64_in _ (by omega)
        go_quiet ((go_at_call 109; exact Calls.quiet_of_same ((hsp.out _).mono fun e w' h => ⟨h.1, h.2.symm⟩)))
        clear j2
        go_wp2
        go_ret3
        exact OneR.none HO.out (below_drewN (Below.refl _ _) _) s[n] (n + 1) rfl
def BadP (w : World) (e : Ending) (w' : World) : Prop := ∃ m : Nat, e = .returned (.int .i64 m) ∧ w = w'
theorem bad_any (s : ByteArray) (n : Nat) (hs : s.size ≤ 140737488355328) (hn : n ≤ s.size) (w : World) : Calls Tryd.prog 101 #[.string s, .int .i64 n] w (BadP w) := by
  by_cases h1 : s.size ≤ n
  · have hq : decide ((n : Int) < (s.size : Int)) = false := by simpa using h1
    have hq' : ¬ n < s.size := by omega
    go_enter Tryd.func101, Tryd.ntmps101
    go_wp2
    go_ret
    exact ⟨n, rfl, rfl⟩
  · have hlt : n < s.size := by omega
    cases hc : ((s[n].toNat : Int) == 92)
    · go_enter Tryd.func101, Tryd.ntmps101
      go_wp2
      go_ret
      exact ⟨n, rfl, rfl⟩
    · go_enter Tryd.func101, Tryd.ntmps101
      go_wp2
      go_ret
      exact ⟨n + 1, rfl, rfl⟩
end Go.Proofs.YtmjojahkbjlcdaaDoor
end
section
/- The document's Class and Parse. -/
namespace Go.Proofs.YtmjojahkbjlcdaaDoor
set_option linter.unusedSimpArgs false
set_option linter.unusedVariables false
set_option maxRecDepth 100000
open Go.RowKit

theorem built27 : (Tryd.prog.built 94 []) = some (fl fun _ => false) := by kernel_rfl
theorem wpList_zero27 {ops : Array Oper} {rest : List Oper} {o : Oper} {a : Act} {w : World} {Q : Exit → Act → World → Prop} (hg : o.guard = none) (ho : o.op = .build 94 #[])
    (h : wpList Tryd.prog ops Q rest (a.put o.dst (.agg (fl fun _ => false))) w) : wpList Tryd.prog ops Q (o :: rest) a w := by
  refine wpList_build hg 94 #[] ho ?_ ?_
  · simp [built27]
  · simp [built27]; exact h
def flN : Array Value := fl fun _ => false
def cls3 (f : Nat → Bool) (n : Int) (b : Bool) : Ending := .returned (.tuple #[.agg (fl f), .int .i64 n, .bool b])
/-- What Class answers, begun at the text's head. -/
def ClsP (s : ByteArray) (w : World) (e : Ending) (w' : World) : Prop := Below w.heap.size w w' ∧
  match cls s.data.toList with
  | some (f, q) => ∃ m : Nat, q = s.data.toList.drop m ∧ m ≤ s.size ∧ e = cls3 f m true
  | none => ∃ n : Int, e = cls3 (fun _ => false) n false
theorem res_cls {fn : Func} {p u v : Tmp} (h : fn.results = #[.cell p 94, .tmp u, .tmp v]) (tmps : Array Value) (w : World) (g : Nat) (f : Nat → Bool) (x y : Value) (hp : tmps.getD p undef = .pointer (some ⟨g, 0, none⟩)) (hg : w.heap[g]? = some (.cells (fl f) 94 (0, 0)))
    (hx : tmps.getD u undef = x) (hy : tmps.getD v undef = y) : (results fn tmps).run Tryd.prog w = .ok (.tuple #[.agg (fl f), x, y]) w := by
  have hl := run_loadVar_row (P := Tryd.prog) w g 94 94 (fl f) (0, 0) _ hg Tryd.underlying94 rfl (fsize27 f)
  simp only [results, h]
  simp only [Array.getD_eq_getD_getElem?] at hp hx hy
  simp [Sem.run_bind, Result.andThen, hp, hx, hy, asAddr, hl]
theorem ClsP.none {s : ByteArray} {w w' : World} {e : Ending} (h : cls s.data.toList = Option.none) (hb : Below w.heap.size w w') (n : Int) (he : e = cls3 (fun _ => false) n false) : ClsP s w e w' := by
  unfold ClsP; rw [h]; exact ⟨hb, n, he⟩
theorem ClsP.some {s : ByteArray} {w w' : World} {e : Ending} {f : Nat → Bool} (m : Nat) (h : cls s.data.toList = Option.some (f, s.data.toList.drop m)) (hb : Below w.heap.size w w') (hm : m ≤ s.size) (he : e = cls3 f m true) : ClsP s w e w' := by
  unfold ClsP; rw [h]; exact ⟨hb, m, rfl, hm, he⟩
/-- What was said, and the numbers from a up to, not with, k. -/
def partF (f : Nat → Bool) (a k n : Nat) : Bool := f n || (decide (a ≤ n) && decide (n < k))
theorem part_zero (f : Nat → Bool) (a : Nat) : fl (partF f a a) = fl f := fl_congr fun j _ => by
  unfold partF
  rw [show (decide (a ≤ j) && decide (j < a)) = false by rw [Bool.eq_false_iff]; simp, Bool.or_false]
theorem part_set (f : Nat → Bool) (a k : Nat) (h : a ≤ k) : (fl (partF f a k)).setIfInBounds k (.bool true) = fl (partF f a (k + 1)) := by
  refine fl_set _ _ k true fun j _ => ?_
  unfold partF
  by_cases e : j = k
  · subst e; simp [h]
  · rw [if_neg e, show decide (j < k + 1) = decide (j < k) by rw [decide_eq_decide]; omega]
theorem part_all (f : Nat → Bool) (a b : UInt8) (h : a.toNat ≤ b.toNat) : fl (partF f a.toNat (b.toNat + 1)) = fl (orF f (body.rangeG a b)) := fl_congr fun j _ => by
  unfold partF orF body.rangeG
  rw [show a.toNat + (b.toNat + 1 - a.toNat) = b.toNat + 1 by omega]
theorem lowG_zero (f : Nat → Bool) : fl (fun j => if j < 0 then !f j else f j) = fl f := fl_congr fun j _ => by simp
def flip (f : Nat → Bool) (k j : Nat) : Bool := if j < k then !f j else f j
theorem flip_zero (f : Nat → Bool) : flip f 0 = f := by funext j; simp [flip]
theorem flip_set (f : Nat → Bool) (k : Nat) : (fl (flip f k)).setIfInBounds k (.bool (!f k)) = fl (flip f (k + 1)) := by
  refine fl_set _ _ k _ fun j _ => ?_
  unfold flip
  by_cases e : j = k
  · subst e; simp
  · rw [if_neg e]
    by_cases h1 : j < k
    · rw [if_pos h1, if_pos (by omega)]
    · rw [if_neg h1, if_neg (by omega)]
theorem flip_get (f : Nat → Bool) (k : Nat) : flip f k k = f k := by simp [flip]
theorem flip_all (f : Nat → Bool) : fl (flip f 256) = fl (noF f) := fl_congr fun j hj => by simp [flip, hj, noF]
/-- What is behind the opening sign, and how the whole is told of it. -/
def WholeC (s : ByteArray) (v : Bool) (R : Option ((Nat → Bool) × List UInt8)) : Prop :=
  (R = Option.none → cls s.data.toList = Option.none) ∧ ∀ f q, R = Option.some (f, q) → cls s.data.toList = Option.some (if v then noF f else f, q)
abbrev CL (w : World) (f : Nat → Bool) : List (Nat × Obj) := [(w.heap.size + 1, .cells (fl f) 94), (w.heap.size, .cells (fl fun _ => false) 94)]
end Go.Proofs.YtmjojahkbjlcdaaDoor
end
