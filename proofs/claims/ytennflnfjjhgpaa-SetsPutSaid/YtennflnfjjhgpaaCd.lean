/- The document's Class and Parse. -/
import Derived.Test.YtennflnfjjhgpaaProg
import Derived.Test.YtennflnfjjhgpaaOne
import Derived.Test.YtennflnfjjhgpaaPs
import Derived.WalkKit
import Derived.WalkLawsBesides
import Derived.WalkSpells
import Derived.Outline
import Derived.Lib.Walk
import Derived.Lib.Hide
import Derived.RegionTactic
import Derived.LoopTactic
import Derived.Below
import Derived.IntWalk
import Derived.Lib.Slices
import Derived.Lib.Strings
import Derived.Deep.LoopGhost
import Derived.Laws.Tables
namespace Go.Proofs.Ytennflnfjjhgpaa
set_option linter.unusedSimpArgs false
set_option linter.unusedVariables false
open Go.RowKit

theorem built27 : (Try.prog.built 27 []) = some (fl fun _ => false) := by kernel_rfl
theorem wpList_zero27 {ops : Array Oper} {rest : List Oper} {o : Oper} {a : Act} {w : World} {Q : Exit → Act → World → Prop} (hg : o.guard = none) (ho : o.op = .build 27 #[])
    (h : wpList Try.prog ops Q rest (a.put o.dst (.agg (fl fun _ => false))) w) : wpList Try.prog ops Q (o :: rest) a w := by
  refine wpList_build hg 27 #[] ho ?_ ?_
  · simp [built27]
  · simp [built27]; exact h
def flN : Array Value := fl fun _ => false
def cls3 (f : Nat → Bool) (n : Int) (b : Bool) : Ending := .returned (.tuple #[.agg (fl f), .int .i64 n, .bool b])
/-- What Class answers, begun at the text's head. -/
def ClsP (s : ByteArray) (w : World) (e : Ending) (w' : World) : Prop := Below w.heap.size w w' ∧
  match cls s.data.toList with
  | some (f, q) => ∃ m : Nat, q = s.data.toList.drop m ∧ m ≤ s.size ∧ e = cls3 f m true
  | none => ∃ n : Int, e = cls3 (fun _ => false) n false
theorem res_cls {fn : Func} {p u v : Tmp} (h : fn.results = #[.cell p 27, .tmp u, .tmp v]) (tmps : Array Value) (w : World) (g : Nat) (f : Nat → Bool) (x y : Value) (hp : tmps.getD p undef = .pointer (some ⟨g, 0, none⟩)) (hg : w.heap[g]? = some (.cells (fl f) 27 (0, 0)))
    (hx : tmps.getD u undef = x) (hy : tmps.getD v undef = y) : (results fn tmps).run Try.prog w = .ok (.tuple #[.agg (fl f), x, y]) w := by
  have hl := run_loadVar_row (P := Try.prog) w g 27 27 (fl f) (0, 0) _ hg Try.underlying27 rfl (fsize27 f)
  simp only [results, h]
  simp only [Array.getD_eq_getD_getElem?] at hp hx hy
  simp [Sem.run_bind, Result.andThen, hp, hx, hy, asAddr, hl]
theorem ClsP.none {s : ByteArray} {w w' : World} {e : Ending} (h : cls s.data.toList = Option.none) (hb : Below w.heap.size w w') (n : Int) (he : e = cls3 (fun _ => false) n false) : ClsP s w e w' := by
  unfold ClsP; rw [h]; exact ⟨hb, n, he⟩
theorem ClsP.some {s : ByteArray} {w w' : World} {e : Ending} {f : Nat → Bool} (m : Nat) (h : cls s.data.toList = Option.some (f, s.data.toList.drop m)) (hb : Below w.heap.size w w') (hm : m ≤ s.size) (he : e = cls3 f m true) : ClsP s w e w' := by
  unfold ClsP; rw [h]; exact ⟨hb, m, rfl, hm, he⟩
/-- What was said, and the numbers from a up to, not with, k. -/
def part (f : Nat → Bool) (a k n : Nat) : Bool := f n || (decide (a ≤ n) && decide (n < k))
theorem part_zero (f : Nat → Bool) (a : Nat) : fl (part f a a) = fl f := fl_congr fun j _ => by
  unfold part
  rw [show (decide (a ≤ j) && decide (j < a)) = false by rw [Bool.eq_false_iff]; simp, Bool.or_false]
theorem part_set (f : Nat → Bool) (a k : Nat) (h : a ≤ k) : (fl (part f a k)).setIfInBounds k (.bool true) = fl (part f a (k + 1)) := by
  refine fl_set _ _ k true fun j _ => ?_
  unfold part
  by_cases e : j = k
  · subst e; simp [h]
  · rw [if_neg e, show decide (j < k + 1) = decide (j < k) by rw [decide_eq_decide]; omega]
theorem part_all (f : Nat → Bool) (a b : UInt8) (h : a.toNat ≤ b.toNat) : fl (part f a.toNat (b.toNat + 1)) = fl (orF f (body.rangeG a b)) := fl_congr fun j _ => by
  unfold part orF body.rangeG
  rw [show a.toNat + (b.toNat + 1 - a.toNat) = b.toNat + 1 by omega]
theorem lowG_zero (f : Nat → Bool) : fl (fun j => if j < 0 then !f j else f j) = fl f := fl_congr fun j _ => by simp
def flip (f : Nat → Bool) (k j : Nat) : Bool := if j < k then !f j else f j
theorem flip_zero (f : Nat → Bool) : flip f 0 = f := by funext j; simp [flip]
theorem flip_set (f : Nat → Bool) (k : Nat) : (fl (flip f k)).setIfInBounds k (.bool (!f k)) = fl (flip f (k + 1)) := by
  refine fl_set _ _ k _ fun j _ => ?_
  unfold flip
  by_cases e : j = k
  · subst e; simp
  · rw [if_neg e]
    by_cases h1 : j < k
    · rw [if_pos h1, if_pos (by omega)]
    · rw [if_neg h1, if_neg (by omega)]
theorem flip_get (f : Nat → Bool) (k : Nat) : flip f k k = f k := by simp [flip]
theorem flip_all (f : Nat → Bool) : fl (flip f 256) = fl (noF f) := fl_congr fun j hj => by simp [flip, hj, noF]
/-- What is behind the opening sign, and how the whole is told of it. -/
def WholeC (s : ByteArray) (v : Bool) (R : Option ((Nat → Bool) × List UInt8)) : Prop :=
  (R = Option.none → cls s.data.toList = Option.none) ∧ ∀ f q, R = Option.some (f, q) → cls s.data.toList = Option.some (if v then noF f else f, q)
abbrev CL (w : World) (f : Nat → Bool) : List (Nat × Obj) := [(w.heap.size + 1, .cells (fl f) 27), (w.heap.size, .cells (fl fun _ => false) 27)]
end Go.Proofs.Ytennflnfjjhgpaa
