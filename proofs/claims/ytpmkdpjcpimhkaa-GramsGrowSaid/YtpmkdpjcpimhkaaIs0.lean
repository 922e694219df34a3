/- Package grams. -/
import Derived.Test.YtpmkdpjcpimhkaaProg
import Derived.Test.YtpmkdpjcpimhkaaIn
import Derived.Deep.SlicePairs
import Derived.Deep.Slices
import Derived.Laws.IdiomArrays
import Derived.OpenShut
import Derived.WideBlind
import Derived.Great.BuildSlice
import Derived.WalkKit
import Derived.Maps.OwnSet
import Derived.Maps.OwnOps
import Derived.Maps.Own
import Derived.DeepKeys5
import Derived.BigFrame
import Derived.WalkMore
import Derived.ScopeJumps
import Derived.StillTailTactics
import Derived.Stop.BytesEq
import Derived.WalkLawsBesides
import Derived.WalkSpells
import Derived.Outline
import Derived.Lib.Walk
import Derived.Lib.Hide
import Derived.Lib.Slices
import Derived.Lib.Strings
import Derived.RegionTactic
import Derived.LoopTactic
import Derived.Below
import Derived.IntWalk
import Derived.Deep.QuietTactic
import Derived.BigQuiet
import Derived.Deep.MidRow
import Derived.Maps.AppendAt
import Derived.Laws.Rows
import Derived.Laws.Tables
import Derived.Deep.WholeRow
import Derived.Deep.Cut
import Derived.Deep.CutRange
import Derived.Lib.SliceRun
import Derived.Laws.MakeOwn
import Derived.Deep.RegionLaw
import Derived.Deep.RegionLawGrows
import Derived.Deep.RegionHeld3
import Derived.RegionCalls
import Derived.Deep.RegionWith
import Derived.Deep.Light
import Derived.Laws.CopyOwn
import Derived.Laws.ResultCell
namespace Go.Proofs.Ytpmkdpjcpimhkaa
set_option linter.unusedSimpArgs false
set_option linter.unusedVariables false
set_option maxRecDepth 100000
open Go.RowKit
/- Grammars with the same productions, or more; productions turned. -/
open Go.Maps
structure SubG (g g' : Gr) : Prop where
  t : g'.t = g.t
  s : g'.s = g.s
  st : g'.st = g.st
  ps : ∀ p ∈ g.ps, ∃ p' ∈ g'.ps, p'.hd = p.hd ∧ p'.bd = p.bd
theorem SubG.come {g g' : Gr} (h : SubG g g') {x : Int} (hx : Come g x) : Come g' x := by
  induction hx with
  | st => rw [← h.st]; exact .st
  | go hp _ hx ih =>
    obtain ⟨p', hp', e1, e2⟩ := h.ps _ hp
    exact .go hp' (by rw [e1]; exact ih) (by rw [e2]; exact hx)
theorem SubG.good {g g' : Gr} (h : SubG g g') {x : Int} (hx : Good g x) : Good g' x := by
  induction hx with
  | tm h0 h1 => exact .tm h0 (by rw [h.t]; exact h1)
  | go hp _ ih =>
    obtain ⟨p', hp', e1, e2⟩ := h.ps _ hp
    rw [← e1]
    exact .go hp' (fun x hx => ih x (by rw [← e2]; exact hx))
theorem SubG.rnd {g g' : Gr} (h : SubG g g') {x y : Int} (hx : Rnd g x y) : Rnd g' x y := by
  induction hx with
  | one hp e =>
    obtain ⟨p', hp', e1, e2⟩ := h.ps _ hp
    rw [← e1]; exact .one hp' (by rw [e2]; exact e)
  | go hp e _ ih =>
    obtain ⟨p', hp', e1, e2⟩ := h.ps _ hp
    rw [← e1]; exact .go hp' (by rw [e2]; exact e) ih
theorem SubG.beg {g g' : Gr} (h : SubG g g') {x y : Int} (hx : Beg g x y) : Beg g' x y := by
  induction hx with
  | tm h0 h1 => exact .tm h0 (by rw [h.t]; exact h1)
  | go hp e _ ih =>
    obtain ⟨p', hp', e1, e2⟩ := h.ps _ hp
    rw [← e1]; exact .go hp' (by rw [e2]; exact e) ih
theorem SubG.fol {g g' : Gr} (h : SubG g g') {x y : Int} (hx : Fol g x y) : Fol g' x y := by
  induction hx with
  | fin => rw [← h.st, ← h.t]; exact .fin
  | nx hp e hb =>
    obtain ⟨p', hp', e1, e2⟩ := h.ps _ hp
    exact .nx hp' (by rw [e2]; exact e) (h.beg hb)
  | last hp e _ ih =>
    obtain ⟨p', hp', e1, e2⟩ := h.ps _ hp
    exact .last hp' (by rw [e2]; exact e) (by rw [e1]; exact ih)
def tuP (p : Pr) : Pr := ⟨p.hd, p.bd, !p.rt⟩
def tuL (l : List Pr) : List Pr := (l.map tuP).reverse
def tuG (g : Gr) : Gr := ⟨g.t, g.s, g.st, tuL g.ps⟩
theorem tu_mem {l : List Pr} {p : Pr} : p ∈ tuL l ↔ ∃ q ∈ l, tuP q = p := by
  unfold tuL; rw [List.mem_reverse, List.mem_map]
theorem tu_len (l : List Pr) : (tuL l).length = l.length := by simp [tuL]
theorem tu_to (g : Gr) : SubG g (tuG g) := ⟨rfl, rfl, rfl, fun p hp => ⟨tuP p, tu_mem.2 ⟨p, hp, rfl⟩, rfl, rfl⟩⟩
theorem tu_back (g : Gr) : SubG (tuG g) g := ⟨rfl, rfl, rfl, fun p hp => by
  obtain ⟨q, hq, rfl⟩ := tu_mem.1 hp
  exact ⟨q, hq, rfl, rfl⟩⟩
theorem tu_twins (l : List Pr) : Twins (tuL l) ↔ Twins l := by
  unfold Twins tuL
  rw [List.pairwise_reverse, List.pairwise_map]
  refine not_congr ⟨fun h => h.imp (fun h e => h ⟨e.1.symm, e.2.symm⟩), fun h => h.imp (fun h e => h ⟨e.1.symm, e.2.symm⟩)⟩
theorem num_sub {g g' : Gr} (h : SubG g' g) (hl : g'.ps.length = g.ps.length) (hn : NumOk g) : NumOk g' := by
  refine ⟨by rw [← h.t]; exact hn.t1, by rw [← h.t]; exact hn.t2, by rw [← h.t, ← h.s]; exact hn.s1, by rw [← h.s]; exact hn.s2, by rw [← h.t, ← h.st]; exact hn.st1, by rw [← h.s, ← h.st]; exact hn.st2, by rw [hl]; exact hn.n1, by rw [hl]; exact hn.n2, fun p hp => ?_, fun p hp => ?_⟩
  · obtain ⟨q, hq, e1, e2⟩ := h.ps p hp
    rw [← h.t, ← h.s, ← e1]; exact hn.hd q hq
  · obtain ⟨q, hq, e1, e2⟩ := h.ps p hp
    rw [← h.s, ← e2]; exact hn.bd q hq
theorem tu_num (g : Gr) : NumOk (tuG g) ↔ NumOk g := ⟨num_sub (tu_to g) (tu_len g.ps).symm, num_sub (tu_back g) (tu_len g.ps)⟩
theorem ite_iff {α : Type} {a b : Prop} {x y z w : α} {i : Decidable a} {j : Decidable b} (h : a ↔ b) (h1 : x = z) (h2 : y = w) : @ite α a i x y = @ite α b j z w := by
  subst h1 h2
  by_cases ha : a
  · rw [if_pos ha, if_pos (h.1 ha)]
  · rw [if_neg ha, if_neg (fun hb => ha (h.2 hb))]
theorem tu_chk (g : Gr) : chk (tuG g) = chk g := by
  unfold chk
  refine ite_iff (by rw [tu_num]; exact or_congr Iff.rfl (tu_twins g.ps)) rfl ?_
  refine ite_iff ⟨fun ⟨p, hp, h⟩ => ?_, fun ⟨p, hp, h⟩ => ?_⟩ rfl ?_
  · obtain ⟨q, hq, e1, e2⟩ := (tu_back g).ps p hp
    exact ⟨q, hq, by rw [e2]; exact h⟩
  · obtain ⟨q, hq, e1, e2⟩ := (tu_to g).ps p hp
    exact ⟨q, hq, by rw [e2]; exact h⟩
  refine ite_iff ⟨fun ⟨p, hp, h⟩ => ?_, fun ⟨p, hp, h⟩ => ?_⟩ rfl ?_
  · obtain ⟨q, hq, e1, e2⟩ := (tu_back g).ps p hp
    exact ⟨q, hq, by rw [e2]; exact h⟩
  · obtain ⟨q, hq, e1, e2⟩ := (tu_to g).ps p hp
    exact ⟨q, hq, by rw [e2]; exact h⟩
  refine ite_iff (not_congr ⟨fun h x a b => ?_, fun h x a b => ?_⟩) rfl ?_
  · have := h x a b
    exact ⟨(tu_back g).come this.1, (tu_back g).good this.2⟩
  · have := h x a b
    exact ⟨(tu_to g).come this.1, (tu_to g).good this.2⟩
  refine ite_iff ⟨fun ⟨x, a, b, h⟩ => ⟨x, a, b, (tu_back g).rnd h⟩, fun ⟨x, a, b, h⟩ => ⟨x, a, b, (tu_to g).rnd h⟩⟩ rfl rfl
theorem tu_ask (g : Gr) (s f : Int) : askV (tuG g) s f = askV g s f := by
  unfold askV
  rw [tu_chk]; rfl
theorem tu_fir (g : Gr) (s : Int) : firL (tuG g) s = firL g s := by
  unfold firL
  rw [tu_ask, wd_congr (P := fun k => Beg (tuG g) s k) (Q := fun k => Beg g s k) fun k _ => ⟨(tu_back g).beg, (tu_to g).beg⟩]
theorem tu_fol (g : Gr) (s : Int) : folL (tuG g) s = folL g s := by
  unfold folL
  rw [tu_ask, wd_congr (P := fun k => Fol (tuG g) s k) (Q := fun k => Fol g s k) fun k _ => ⟨(tu_back g).fol, (tu_to g).fol⟩]
/- Rows of productions. -/
abbrev Zp := Pr × (Option Addr × Nat)
def zP (zs : List Zp) : List Value := zs.flatMap fun z => [.int .i64 z.1.hd, .slice z.2.1 z.1.bd.length z.2.2, .bool z.1.rt]
theorem zP_app (zs : List Zp) (z : Zp) : zP (zs ++ [z]) = zP zs ++ [.int .i64 z.1.hd, .slice z.2.1 z.1.bd.length z.2.2, .bool z.1.rt] := by simp [zP]
theorem zP_get : ∀ (zs : List Zp) (i : Nat) (h : i < zs.length), (zP zs)[i * 3]? = some (.int .i64 zs[i].1.hd) ∧ (zP zs)[i * 3 + 1]? = some (.slice zs[i].2.1 zs[i].1.bd.length zs[i].2.2) ∧ (zP zs)[i * 3 + 2]? = some (.bool zs[i].1.rt)
  | [], i, h => by simp at h
  | w :: ws, 0, h => ⟨rfl, rfl, rfl⟩
  | w :: ws, i + 1, h => by
    have e : zP (w :: ws) = .int .i64 w.1.hd :: .slice w.2.1 w.1.bd.length w.2.2 :: .bool w.1.rt :: zP ws := rfl
    have h2 := zP_get ws i (by simpa using h)
    rw [e, show (i + 1) * 3 = i * 3 + 1 + 1 + 1 by omega]
    exact h2
/-- What a row of productions leads to lies below. -/
def ZOk (D : Nat → Prop) (w : World) (zs : List Zp) : Prop := ∀ z ∈ zs, IV D w z.1.bd (.slice z.2.1 z.1.bd.length z.2.2) ∧ z.1.bd.length ≤ 9223372036854775806 ∧ z.1.bd.length ≤ z.2.2
theorem gm_of {B : Nat} {w0 w : World} {D : Nat → Prop} {v : Value} {zs : List Zp} (h : w.ownsRow B 38 3 v zs.length (zP zs)) (hD : ∀ b, D b → b < w0.heap.size) (hz : ZOk D w0 zs) (hb : Below w0.heap.size w0 w) (hn : zs.length ≤ 9223372036854775806) :
    ∃ p c, v = .slice p zs.length c ∧ GM (fun b => b < w.heap.size) w (zs.map fun z => z.1) p ∧ zs.length ≤ c := by
  have hcs := fun g hg => h.cells (g := g) hg
  have hlt := h.lt
  have hbl : ∀ q ∈ zs.map (fun z => z.1), q.bd.length ≤ 9223372036854775806 := fun q hq => by
    obtain ⟨z, hz2, rfl⟩ := List.mem_map.1 hq
    exact (hz z hz2).2.1
  rcases h.2 with ⟨rfl, h0⟩ | ⟨g, cap, cur, rfl, h1, h2, h3, h4, h5, h6⟩
  · have e : zs = [] := List.length_eq_zero_iff.1 h0
    subst e
    exact ⟨none, 0, rfl, ⟨fun h => absurd rfl h, fun b h => h, by simp, hbl⟩, by simp⟩
  · refine ⟨some ⟨g, 0, none⟩, cap, rfl, ⟨fun _ => ⟨g, 0, rfl, (hlt g rfl).2, fun i hi => ?_⟩, fun b h => h, by rw [List.length_map]; exact hn, hbl⟩, h3⟩
    have hi2 : i < zs.length := by rw [List.length_map] at hi; exact hi
    obtain ⟨e1, e2, e3⟩ := zP_get zs i hi2
    have a1 := hcs g rfl (i * 3) _ e1
    have a2 := hcs g rfl (i * 3 + 1) _ e2
    have a3 := hcs g rfl (i * 3 + 2) _ e3
    rw [Addr.add_mid] at a1 a2 a3
    have hzi := hz zs[i] (List.getElem_mem hi2)
    rw [List.getElem_map]
    exact ⟨zs[i].2.1, zs[i].2.2, a1, a2, a3, hzi.1.mono (fun b hb2 => Nat.lt_of_lt_of_le (hD b hb2) hb.size) (fun b hb2 _ => hb.block b (hD b hb2)), hzi.2.2⟩
theorem info38b : (Try.prog.info? 38).map (fun i => (i.zero, i.size, i.bytes)) = some (some (.agg #[.int .i64 0, .slice none 0 0, .bool false]), 3, 40) := by kernel_rfl
abbrev rP (v : Value) (zs : List Zp) : It := .row v 38 3 zs.length (zP zs)
theorem new_three (w : World) (a b c : Value) (t : TypeId) : ∀ j u, [a, b, c][j]? = some u → (w.alloc (.cells #[a, b, c] t)).cell? ((⟨w.heap.size, 0, none⟩ : Addr).add j) = some u := fun j u hj => by
  rw [Addr.add_mid, cell_of_row _ w.heap.size (0 + j) _ t (0, 0) (heap_alloc_last w _), Nat.zero_add]
  rw [← hj]; simp
theorem Sep.prodAt {B : Nat} {w0 w w' : World} {v v' : Value} {zs : List Zp} {z : Zp} (l₁ : List It) {L : List It} (h : Sep B w0 w (l₁ ++ rP v zs :: L)) (hown : w'.ownsRow B 38 3 v' (zs.length + 1) (zP zs ++ [.int .i64 z.1.hd, .slice z.2.1 z.1.bd.length z.2.2, .bool z.1.rt])) (hg : w.grownBy w' v.ownBlock) (hat : v'.ownBlock = v.ownBlock ∨ v'.ownBlock = some w.heap.size) : Sep B w0 w' (l₁ ++ rP v' (zs ++ [z]) :: L) := by
  have h2 : w'.ownsRow B 38 3 v' (zs ++ [z]).length (zP (zs ++ [z])) := by
    rw [List.length_append, zP_app]; exact hown
  exact ((h.perm List.perm_middle).app h2 hg hat).perm List.perm_middle.symm
end Go.Proofs.Ytpmkdpjcpimhkaa
