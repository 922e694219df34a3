/- Package nfa. -/
import Derived.Test.YtnhfeakndofokaaProg
import Derived.Test.YtnhfeakndofokaaN17
import Derived.Test.YtnhfeakndofokaaN6
import Derived.WalkKit
import Derived.WalkLawsBesides
import Derived.WalkSpells
import Derived.Outline
import Derived.Lib.Walk
import Derived.Lib.Hide
import Derived.Lib.Slices
import Derived.Lib.Strings
import Derived.RegionTactic
import Derived.LoopTactic
import Derived.Below
import Derived.IntWalk
import Derived.Deep.QuietTactic
import Derived.BigQuiet
import Derived.Deep.MidRow
import Derived.Maps.AppendAt
import Derived.Laws.Rows
import Derived.Laws.Tables
import Derived.Deep.WholeRow
import Derived.Deep.Cut
import Derived.Deep.CutRange
import Derived.Lib.SliceRun
import Derived.Laws.MakeOwn
import Derived.Deep.RegionLaw
import Derived.Deep.RegionLawGrows
namespace Go.Proofs.Ytnhfeakndofokaa
set_option linter.unusedSimpArgs false
set_option linter.unusedVariables false
set_option maxRecDepth 100000
open Go.RowKit
/- end; free; what is laid of a set. -/
theorem bend (r : Int) : Try.prog.built 49 [(1, .int .i64 (-1)), (3, .int .i64 r)] = some (stC uZ (-1) (.slice none 0 0) r) := by kernel_rfl
theorem wpList_bend {ops : Array Oper} {rest : List Oper} {o : Oper} {a : Act} {w : World} {Q : Exit → Act → World → Prop} {x y : Operand} {r : Int} (hg : o.guard = none) (ho : o.op = .build 49 #[(1, x), (3, y)]) (hx : a.eval x = .int .i64 (-1)) (hy : a.eval y = .int .i64 r)
    (h : wpList Try.prog ops Q rest (a.put o.dst (.agg (stC uZ (-1) (.slice none 0 0) r))) w) : wpList Try.prog ops Q (o :: rest) a w := by
  refine wpList_build hg 49 _ ho ?_ ?_
  · simp [hx, hy, bend]
  · simp [hx, hy, bend]; exact h
theorem bfree (p : Option Addr) (n c : Nat) : Try.prog.built 49 [(1, .int .i64 (-1)), (2, .slice p n c), (3, .int .i64 (-1))] = some (stC uZ (-1) (.slice p n c) (-1)) := by kernel_rfl
theorem wpList_bfree {ops : Array Oper} {rest : List Oper} {o : Oper} {a : Act} {w : World} {Q : Exit → Act → World → Prop} {x y z : Operand} {p : Option Addr} {n c : Nat} (hg : o.guard = none) (ho : o.op = .build 49 #[(1, x), (2, y), (3, z)]) (hx : a.eval x = .int .i64 (-1)) (hy : a.eval y = .slice p n c) (hz : a.eval z = .int .i64 (-1))
    (h : wpList Try.prog ops Q rest (a.put o.dst (.agg (stC uZ (-1) (.slice p n c) (-1)))) w) : wpList Try.prog ops Q (o :: rest) a w := by
  refine wpList_build hg 49 _ ho ?_ ?_
  · simp [hx, hy, hz, bfree]
  · simp [hx, hy, hz, bfree]; exact h
theorem bset (u : Nat → Int) (t : Int) : Try.prog.built 49 [(0, uV u), (1, .int .i64 t), (3, .int .i64 (-1))] = some (stC u t (.slice none 0 0) (-1)) := by kernel_rfl
theorem wpList_bset {ops : Array Oper} {rest : List Oper} {o : Oper} {a : Act} {w : World} {Q : Exit → Act → World → Prop} {x y z : Operand} {u : Nat → Int} {t : Int} (hg : o.guard = none) (ho : o.op = .build 49 #[(0, x), (1, y), (3, z)]) (hx : a.eval x = uV u) (hy : a.eval y = .int .i64 t) (hz : a.eval z = .int .i64 (-1))
    (h : wpList Try.prog ops Q rest (a.put o.dst (.agg (stC u t (.slice none 0 0) (-1)))) w) : wpList Try.prog ops Q (o :: rest) a w := by
  refine wpList_build hg 49 _ ho ?_ ?_
  · simp [hx, hy, hz, bset]
  · simp [hx, hy, hz, bset]; exact h
set_option maxHeartbeats 4000000 in
theorem end_any {B : Nat} {P : Nat → Prop} {w0 y : World} {bb : Nat} {ss : List Nq} {sl : Value} {r : Int} (h : BB B P w0 y bb ss sl) (hlen : ss.length ≤ 4096) :
    Calls Try.prog 35 #[.pointer (some ⟨bb, 0, none⟩), .int .i64 r] y fun e y' => e = .returned (.int .i64 (ss.length : Nat)) ∧ (∃ sl', BB B P w0 y' bb (ss ++ [(⟨uZ, -1, [], r⟩, none, 0)]) sl') ∧ ∀ b, P b → y'.heap[b]? = y.heap[b]? := by
  have HC := Lib.hid (add_any (u := uZ) (tg := -1) (rl := r) (fr := []) (q := none) (f := 0) h hlen (IV.nil _ _ _ _))
  rw [List.length_nil] at HC
  clear h
  go_enter Try.func35, Try.ntmps35
  go_wp2_with (refine wpList_bend (r := r) rfl rfl rfl rfl ?_)
  refine HC.out.mono ?_
  rintro _ y1 ⟨rfl, h1, h2⟩
  have H1 := Lib.hid h1
  have H2 := Lib.hid h2
  clear h1 h2 HC
  go_wp2_with fail
  go_ret
  exact ⟨rfl, H1.out, H2.out⟩
set_option maxHeartbeats 4000000 in
theorem free_any {B : Nat} {P : Nat → Prop} {w0 y : World} {bb : Nat} {ss : List Nq} {sl : Value} {fr : List Int} {q : Option Addr} {f : Nat} (h : BB B P w0 y bb ss sl) (hlen : ss.length ≤ 4096) (hfr : IV (fun b => B ≤ b ∧ b < y.heap.size ∧ some b ≠ sl.ownBlock ∧ b ≠ bb ∧ ¬ P b) y fr (.slice q fr.length f)) :
    Calls Try.prog 36 #[.pointer (some ⟨bb, 0, none⟩), .slice q fr.length f] y fun e y' => e = .returned (.int .i64 (ss.length : Nat)) ∧ (∃ sl', BB B P w0 y' bb (ss ++ [(⟨uZ, -1, fr, -1⟩, q, f)]) sl') ∧ ∀ b, P b → y'.heap[b]? = y.heap[b]? := by
  have HC := Lib.hid (add_any (u := uZ) (tg := -1) (rl := -1) h hlen hfr)
  clear h hfr
  go_enter Try.func36, Try.ntmps36
  go_wp2_with (refine wpList_bfree (p := q) (n := fr.length) (c := f) rfl rfl rfl rfl rfl ?_)
  refine HC.out.mono ?_
  rintro _ y1 ⟨rfl, h1, h2⟩
  have H1 := Lib.hid h1
  have H2 := Lib.hid h2
  clear h1 h2 HC
  go_wp2_with fail
  go_ret
  exact ⟨rfl, H1.out, H2.out⟩
/-- A pattern's cells. -/
def nodeC (k : Int) (u : Nat → Int) (sl : Value) : Array Value := #[.int .i64 k, .int .u64 (u 0), .int .u64 (u 1), .int .u64 (u 2), .int .u64 (u 3), sl]
set_option maxHeartbeats 4000000 in
theorem lay_set {B : Nat} {P : Nat → Prop} {w0 y : World} {bb : Nat} {ss : List Nq} {sl : Value} {u : Nat → Int} {t : Int} {p : Option Addr} {n c : Nat} (h : BB B P w0 y bb ss sl) (hlen : ss.length ≤ 4096) :
    Calls Try.prog 34 #[.pointer (some ⟨bb, 0, none⟩), .agg (nodeC 2 u (.slice p n c)), .int .i64 t] y fun e y' => e = .returned (.int .i64 (ss.length : Nat)) ∧ (∃ sl', BB B P w0 y' bb (ss ++ [(⟨u, t, [], -1⟩, none, 0)]) sl') ∧ ∀ b, P b → y'.heap[b]? = y.heap[b]? := by
  have hb0 := (((Below.refl y.heap.size y).alloc (Nat.le_refl _) (.cells #[.pointer (some ⟨bb, 0, none⟩)] 82)).alloc (by simp) (.cells (nodeC 2 u (.slice p n c)) 56)).alloc (by simp; omega) (.cells #[.int .i64 t] 3)
  have HC := Lib.hid (add_any (u := u) (tg := t) (rl := -1) (fr := []) (q := none) (f := 0) (h.up hb0) hlen (IV.nil _ _ _ _))
  rw [List.length_nil] at HC
  have HK := Lib.hid fun b (hp : P b) => hb0.block b (h.pr b hp).1
  clear h hb0
  unfold nodeC at *
  go_enter Try.func34, Try.ntmps34
  go_wp2_with (refine wpList_bset (u := u) (t := t) rfl rfl rfl rfl rfl ?_)
  refine HC.out.mono ?_
  rintro _ y1 ⟨rfl, h1, h2⟩
  have H1 := Lib.hid h1
  have H2 := Lib.hid h2
  clear h1 h2 HC
  go_wp2_with fail
  go_ret
  exact ⟨rfl, H1.out, fun b hp => (H2.out b hp).trans (HK.out b hp)⟩
end Go.Proofs.Ytnhfeakndofokaa
