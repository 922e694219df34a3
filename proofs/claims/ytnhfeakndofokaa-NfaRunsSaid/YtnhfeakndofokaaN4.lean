/- Package nfa, plain. -/
import Derived.Test.YtnhfeakndofokaaN3
import Derived.WalkKit
import Derived.Below
import Derived.Laws.AppendOwn
import Derived.Laws.OwnMore
import Derived.Lib.Hide
import Derived.Lib.Walk
namespace Go.Proofs.Ytnhfeakndofokaa
set_option linter.unusedSimpArgs false
set_option linter.unusedVariables false
set_option maxRecDepth 100000
open Go.RowKit
/- One number behind a row with room: the row is known whole. -/
theorem take_set (cur : Array Value) (n : Nat) (v : Value) (h : n < cur.size) : (cur.toList.take n ++ [v] ++ cur.toList.drop (n + 1)).toArray = cur.setIfInBounds n v := by
  apply Array.ext'
  rw [Array.toList_setIfInBounds]
  simp only [List.append_assoc, List.singleton_append]
  rw [List.set_eq_take_append_cons_drop, if_pos (by simpa using h)]
theorem wp_append_row1 {P : Program} (w : World) {o : Oper} {a : Act} {K : Act → World → Prop} {Q : Exit → Act → World → Prop} (s x : Operand) (t : TypeId)
    (ho : o.op = .call { callee := .builtin .append, args := #[s, x], argTypes := #[t, t] })
    (e : TypeId) (i : TypeInfo) (ht : P.underlying t = some (.slice e)) (hi : P.info? e = some i) (hsize : i.size = 1)
    (g n cap : Nat) (cur : Array Value) (hg : w.heap[g]? = some (.cells cur e (0, 0))) (hs : a.eval s = .slice (some ⟨g, 0, none⟩) n cap)
    (ad : Addr) (c : Nat) (v : Value) (hx : a.eval x = .slice (some ad) 1 c) (hv : w.cell? (ad.add 0) = some v) (h1 : v.oneCell' = true)
    (hroom : n + 1 ≤ cap) (hfit : n < cur.size)
    (h : K (a.put o.dst (.slice (some ⟨g, 0, none⟩) (n + 1) cap)) (w.setRow g (cur.setIfInBounds n v))) : o.wp P a w K Q := by
  have hr := run_append_room (P := P) w t o.type e i ht hi g n cap cur hg ad 1 c [v] (by simp [hsize]) (fun j u hu => by
    cases j with
    | zero => simp at hu; subst hu; exact hv
    | succ j => simp at hu) (fun u hu => by simp at hu; subst hu; exact h1) hroom (by simp [hsize]; omega)
  rw [hsize, Nat.mul_one, List.length_singleton, take_set cur n v hfit] at hr
  unfold Oper.wp execOp
  simp only [ho, resolve, invoke, builtin, Sem.run_bind, Sem.run_pure, Result.andThen_ok, List.map_toArray, List.map_cons, List.map_nil, hs, hx, hr]
  exact h
theorem wpList_append_row1 {P : Program} (w : World) {ops : Array Oper} {rest : List Oper} {o : Oper} {a : Act} {Q : Exit → Act → World → Prop} (hgd : o.guard = none) (s x : Operand) (t : TypeId)
    (ho : o.op = .call { callee := .builtin .append, args := #[s, x], argTypes := #[t, t] })
    (e : TypeId) (i : TypeInfo) (ht : P.underlying t = some (.slice e)) (hi : P.info? e = some i) (hsize : i.size = 1)
    (g n cap : Nat) (cur : Array Value) (hg : w.heap[g]? = some (.cells cur e (0, 0))) (hs : a.eval s = .slice (some ⟨g, 0, none⟩) n cap)
    (ad : Addr) (c : Nat) (v : Value) (hx : a.eval x = .slice (some ad) 1 c) (hv : w.cell? (ad.add 0) = some v) (h1 : v.oneCell' = true)
    (hroom : n + 1 ≤ cap) (hfit : n < cur.size)
    (h : ∀ w', Hid (w.setRow g (cur.setIfInBounds n v) = w') → wpList P ops Q rest (a.put o.dst (.slice (some ⟨g, 0, none⟩) (n + 1) cap)) w') : wpList P ops Q (o :: rest) a w :=
  wpList_plain hgd fun _ hK => wp_append_row1 w s x t ho e i ht hi hsize g n cap cur hg hs ad c v hx hv h1 hroom hfit (hK _ _ (h _ (Lib.hid rfl)))
end Go.Proofs.Ytnhfeakndofokaa
