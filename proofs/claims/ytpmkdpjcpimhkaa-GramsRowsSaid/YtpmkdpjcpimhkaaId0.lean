/- Package grams. -/
import Derived.Test.YtpmkdpjcpimhkaaProg
import Derived.Test.YtpmkdpjcpimhkaaIc
import Derived.Deep.SlicePairs
import Derived.Deep.Slices
import Derived.Laws.IdiomArrays
import Derived.OpenShut
import Derived.WideBlind
import Derived.Great.BuildSlice
import Derived.WalkKit
import Derived.Maps.OwnSet
import Derived.Maps.OwnOps
import Derived.Maps.Own
import Derived.DeepKeys5
import Derived.BigFrame
import Derived.WalkMore
import Derived.ScopeJumps
import Derived.StillTailTactics
import Derived.Stop.BytesEq
import Derived.WalkLawsBesides
import Derived.WalkSpells
import Derived.Outline
import Derived.Lib.Walk
import Derived.Lib.Hide
import Derived.Lib.Slices
import Derived.Lib.Strings
import Derived.RegionTactic
import Derived.LoopTactic
import Derived.Below
import Derived.IntWalk
import Derived.Deep.QuietTactic
import Derived.BigQuiet
import Derived.Deep.MidRow
import Derived.Maps.AppendAt
import Derived.Laws.Rows
import Derived.Laws.Tables
import Derived.Deep.WholeRow
import Derived.Deep.Cut
import Derived.Deep.CutRange
import Derived.Lib.SliceRun
import Derived.Laws.MakeOwn
import Derived.Deep.RegionLaw
import Derived.Deep.RegionLawGrows
import Derived.Deep.RegionHeld3
import Derived.RegionCalls
import Derived.Deep.RegionWith
import Derived.Deep.Light
import Derived.Laws.CopyOwn
import Derived.Laws.ResultCell
namespace Go.Proofs.Ytpmkdpjcpimhkaa
set_option linter.unusedSimpArgs false
set_option linter.unusedVariables false
set_option maxRecDepth 100000
open Go.RowKit
/- Rows of ways. -/
open Go.Maps
def zw (ws : List Way) : List Value := ws.flatMap fun w => [.int .i64 w.1, .int .i64 w.2]
theorem zw_app (ws : List Way) (a b : Int) : zw (ws ++ [(a, b)]) = zw ws ++ [.int .i64 a, .int .i64 b] := by simp [zw]
theorem zw_get : ∀ (ws : List Way) (i : Nat) (h : i < ws.length), (zw ws)[i * 2]? = some (.int .i64 ws[i].1) ∧ (zw ws)[i * 2 + 1]? = some (.int .i64 ws[i].2)
  | [], i, h => by simp at h
  | w :: ws, 0, h => ⟨rfl, rfl⟩
  | w :: ws, i + 1, h => by
    have e : zw (w :: ws) = .int .i64 w.1 :: .int .i64 w.2 :: zw ws := rfl
    have h2 := zw_get ws i (by simpa using h)
    rw [e, show (i + 1) * 2 = i * 2 + 1 + 1 by omega]
    exact h2
theorem wv_of {B : Nat} {w : World} {v : Value} {ws : List Way} (h : w.ownsRow B 70 2 v ws.length (zw ws)) : ∃ p c, v = .slice p ws.length c ∧ WV w ws p ∧ ws.length ≤ maxLen := by
  have hl := own_len h
  have hcs := fun g hg => h.cells (g := g) hg
  have hlt := h.lt
  rcases h.2 with ⟨rfl, h0⟩ | ⟨g, cap, cur, rfl, h1, h2, h3, h4, h5, h6⟩
  · have e : ws = [] := List.length_eq_zero_iff.1 h0
    subst e
    exact ⟨none, 0, rfl, fun hn => absurd rfl hn, hl⟩
  · refine ⟨some ⟨g, 0, none⟩, cap, rfl, fun _ => ⟨g, 0, rfl, (hlt g rfl).2, fun i hi => ?_⟩, hl⟩
    obtain ⟨e1, e2⟩ := zw_get ws i hi
    have a1 := hcs g rfl (i * 2) _ e1
    have a2 := hcs g rfl (i * 2 + 1) _ e2
    rw [Addr.add_mid] at a1 a2
    exact ⟨a1, a2⟩
theorem info70 : (Try.prog.info? 70).map (fun i => (i.zero, i.size, i.bytes)) = some (some (.agg #[.int .i64 0, .int .i64 0]), 2, 16) := by kernel_rfl
theorem wp_append_own {o : Oper} {a : Act} {w : World} {K : Act → World → Prop} {Q : Exit → Act → World → Prop} (s x : Operand) (t : TypeId)
    (ho : o.op = .call { callee := .builtin .append, args := #[s, x], argTypes := #[t, t] })
    (base : Nat) (e : TypeId) (i : TypeInfo) (z : Value) (size bytes : Nat) (ht : Try.prog.underlying t = some (.slice e)) (hi : Try.prog.info? e = some i) (hz : i.zero = some z)
    (hsize : i.size = size) (hby : i.bytes = bytes) (hzs : z.cells.size = size) (hsz : 0 < size)
    (v : Value) (n : Nat) (xs : List Value) (hs : a.eval s = v) (hown : w.ownsRow base e size v n xs)
    (ad : Addr) (m c : Nat) (news : List Value) (hx : a.eval x = .slice (some ad) m c) (hl : news.length = m * size) (hnews : ∀ j u, news[j]? = some u → w.cell? (ad.add j) = some u) (h1 : ∀ u ∈ news, u.oneCell' = true)
    (h63 : n + m ≤ maxLen) (hbytes : (n + m) * bytes ≤ 140737488355328) (hbase : base ≤ w.heap.size)
    (h : ∀ v' w', w'.ownsRow base e size v' (n + m) (xs ++ news) → w.grownBy w' v.ownBlock → (v'.ownBlock = v.ownBlock ∨ v'.ownBlock = some w.heap.size) → K (a.put o.dst v') w') : o.wp Try.prog a w K Q := by
  obtain ⟨v', w', hr, h2, h3, h4, h5⟩ := run_append_own_at (P := Try.prog) w base t o.type e i z size bytes ht hi hz hsize hby hzs hsz v n xs hown ad m c news hl hnews h1 h63 hbytes hbase
  unfold Oper.wp execOp
  simp only [ho, resolve, invoke, builtin, Sem.run_bind, Sem.run_pure, Result.andThen_ok, List.map_toArray, List.map_cons, List.map_nil, hs, hx, hr]
  exact h v' w' h2 h3 h5
abbrev rwW (v : Value) (ws : List Way) : It := .row v 70 2 ws.length (zw ws)
/-- One way more behind a row of them. -/
theorem Sep.way {B : Nat} {w0 w w' : World} {v v' : Value} {ws : List Way} {a b : Int} {L : List It} (h : Sep B w0 w (rwW v ws :: L)) (hown : w'.ownsRow B 70 2 v' (ws.length + 1) (zw ws ++ [.int .i64 a, .int .i64 b])) (hg : w.grownBy w' v.ownBlock) (hat : v'.ownBlock = v.ownBlock ∨ v'.ownBlock = some w.heap.size) : Sep B w0 w' (rwW v' (ws ++ [(a, b)]) :: L) := by
  have h2 : w'.ownsRow B 70 2 v' (ws ++ [(a, b)]).length (zw (ws ++ [(a, b)])) := by
    rw [List.length_append, zw_app]; exact hown
  exact h.app h2 hg hat
theorem Sep.wayAt {B : Nat} {w0 w w' : World} {v v' : Value} {ws : List Way} {a b : Int} (l₁ : List It) {L : List It} (h : Sep B w0 w (l₁ ++ rwW v ws :: L)) (hown : w'.ownsRow B 70 2 v' (ws.length + 1) (zw ws ++ [.int .i64 a, .int .i64 b])) (hg : w.grownBy w' v.ownBlock) (hat : v'.ownBlock = v.ownBlock ∨ v'.ownBlock = some w.heap.size) : Sep B w0 w' (l₁ ++ rwW v' (ws ++ [(a, b)]) :: L) :=
  ((h.perm List.perm_middle).way hown hg hat).perm List.perm_middle.symm
theorem new_pair (w : World) (a b : Value) (t : TypeId) : ∀ j u, [a, b][j]? = some u → (w.alloc (.cells #[a, b] t)).cell? ((⟨w.heap.size, 0, none⟩ : Addr).add j) = some u := fun j u hj => by
  rw [Addr.add_mid, cell_of_row _ w.heap.size (0 + j) _ t (0, 0) (heap_alloc_last w _), Nat.zero_add]
  rw [← hj]; simp
theorem hd_get : ∀ {l : List Int} (h : 0 < l.length), l[0] = l.headD 0
  | a :: l, h => rfl
end Go.Proofs.Ytpmkdpjcpimhkaa
