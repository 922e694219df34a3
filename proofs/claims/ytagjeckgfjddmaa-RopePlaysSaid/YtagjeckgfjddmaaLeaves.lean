/- leaves: the leaves of a tree, behind those that were collected. -/
import Derived.Test.YtagjeckgfjddmaaRAt
import Derived.Test.YtagjeckgfjddmaaWords
import Derived.RegionTactic
namespace Go.Proofs.Ytagjeckgfjddmaa
set_option linter.unusedSimpArgs false
set_option linter.unusedVariables false
open Go.RowKit

def lfPtr (x : Lf) : Value := ptr x.1
def ptrs (l : List Lf) : List Value := l.map lfPtr
theorem ptrs_length (l : List Lf) : (ptrs l).length = l.length := List.length_map ..
theorem ptrs_app (a b : List Lf) : ptrs (a ++ b) = ptrs a ++ ptrs b := List.map_append ..
theorem ptrs_one (l : List Lf) : ∀ u ∈ ptrs l, u.oneCell' = true := by
  intro u hu
  obtain ⟨x, -, rfl⟩ := List.mem_map.1 hu
  rfl
theorem info60 : (Try.prog.info? 60).map (fun i => (i.zero, i.size, i.bytes)) = some (some (.pointer none), 1, 8) := by kernel_rfl
theorem reads_cell (w : World) (u : Value) (T : TypeId) : Reads (w.alloc (.cells #[u] T)) (w.heap.size + 1) 1 (some ⟨w.heap.size, 0, none⟩) 1 [u] :=
  ⟨by simp, fun _ => ⟨_, rfl, by simp, cell_one_new _ _ _⟩⟩
theorem owns_below {w w' : World} {base : Nat} {e : TypeId} {size : Nat} {v : Value} {n : Nat} {xs : List Value} (h : w.ownsRow base e size v n xs) (hb : Below w.heap.size w w') : w'.ownsRow base e size v n xs := by
  refine ⟨h.1, ?_⟩
  rcases h.2 with h0 | ⟨g, cap, cur, hv, hg, hh, hc⟩
  · exact .inl h0
  · refine .inr ⟨g, cap, cur, hv, hg, (hb.block g ?_).trans hh, hc⟩
    rcases Nat.lt_or_ge g w.heap.size with hlt | hge
    · exact hlt
    · rw [Array.getElem?_eq_none hge] at hh; cases hh
theorem owns_base {w : World} {base base' : Nat} {e : TypeId} {size : Nat} {v : Value} {n : Nat} {xs : List Value} (h : w.ownsRow base e size v n xs) (hb : base' ≤ base) : w.ownsRow base' e size v n xs := by
  refine ⟨h.1, ?_⟩
  rcases h.2 with h0 | ⟨g, cap, cur, hv, hg, hh, hc⟩
  · exact .inl h0
  · exact .inr ⟨g, cap, cur, hv, by omega, hh, hc⟩
theorem owns_slice {w : World} {base : Nat} {e : TypeId} {size : Nat} {v : Value} {n : Nat} {xs : List Value} (h : w.ownsRow base e size v n xs) : ∃ A c, v = .slice A n c := by
  rcases h.2 with ⟨rfl, rfl⟩ | ⟨g, cap, cur, rfl, _⟩
  · exact ⟨_, _, rfl⟩
  · exact ⟨_, _, rfl⟩

/-- A row of leaves' pointers, made beyond what was there, which is as it was. -/
def LvOk (w0 : World) (v : Value) (l : List Lf) (w : World) : Prop := w.ownsRow w0.heap.size 60 1 v l.length (ptrs l) ∧ Below w0.heap.size w0 w
theorem LvOk.drew {w0 w : World} {v : Value} {l : List Lf} (h : LvOk w0 v l w) : LvOk w0 v l w.drew := ⟨h.1, h.2.drew⟩
def Lvs (w0 : World) (l : List Lf) (e : Ending) (w' : World) : Prop := ∃ v, e = .returned v ∧ LvOk w0 v l w'

theorem leaves_nil (w0 : World) (v : Value) (l : List Lf) (w : World) (h : LvOk w0 v l w) : Calls Try.prog 43 #[.pointer none, v] w (Lvs w0 l) := by
  have h' := Lib.hid h
  clear h
  go_enter Try.func43, Try.ntmps43
  go_wp2
  go_ret
  exact ⟨v, rfl, h'.out⟩
set_option maxHeartbeats 1000000 in
theorem leaves_leaf (w0 : World) (b : Nat) (s : ByteArray) (v : Value) (l : List Lf) (w : World) (ht : Rep w0 (.leaf b s)) (h : LvOk w0 v l w) (hl : l.length ≤ 1000000) :
    Calls Try.prog 43 #[ptr b, v] w (Lvs w0 (l ++ [(b, s)])) := by
  obtain ⟨i0, hi0, hz0, hz1, hz2⟩ := info_parts info60
  obtain ⟨a0, a1, a2, a3, a4, a5, a6, az⟩ := (ht.below h.2).1
  have h' := Lib.hid h
  have hL := h.2.size
  clear h ht
  go_enter Try.func43, Try.ntmps43
  go_wp2_with (at_builtin; refine wpList_append_any _ rfl (.tmp 15) (.tmp 17) _ rfl w0.heap.size 60 i0 _ 1 8 Try.underlying79 hi0 hz0 hz1 hz2 rfl (by omega) _ l.length (ptrs l) rfl (h'.out.1.alloc _) (w.heap.size + 1) (some ⟨w.heap.size, 0, none⟩) 1 1 [ptr b] rfl (reads_cell w _ _) (ptrs_one [(b, s)]) (by simp only [maxLen]; omega) (by omega) (by simp; omega) ?_; intro v2 w2 hown2 hg2 hat2)
  have L2 : Below w0.heap.size w0 w2 := (h'.out.2.alloc hL _).grown hg2 (by simp; omega) (fun g hg => by have := (h'.out.1.lt g hg).1; exact this)
  have O2 : LvOk w0 v2 (l ++ [(b, s)]) w2 := ⟨by rw [ptrs_app, List.length_append]; exact hown2, L2⟩
  have O2' := Lib.hid O2
  clear hown2 hg2 hat2 L2 O2
  go_wp2
  go_ret
  exact ⟨v2, rfl, O2'.out⟩

def LeavesAt (w0 : World) (t : T) : Prop := ∀ (v : Value) (l : List Lf) (w : World), LvOk w0 v l w → l.length + t.leaves.length ≤ 1000000 → Calls Try.prog 43 #[ptr t.blk, v] w (Lvs w0 (l ++ t.leaves))
/-- What is held through the two calls. -/
def LfS (w0 : World) (tb : Nat) (x y : Value) (w : World) : Prop := w.cell? ⟨tb, 0, none⟩ = some x ∧ w.cell? ⟨tb, 1, none⟩ = some y ∧ tb < w.heap.size ∧ Below w0.heap.size w0 w
theorem LfS.mk {w0 : World} {tb : Nat} {x y : Value} (h0 : w0.cell? ⟨tb, 0, none⟩ = some x) (h1 : w0.cell? ⟨tb, 1, none⟩ = some y) (hz : tb < w0.heap.size) {w : World} (h : Below w0.heap.size w0 w) : LfS w0 tb x y w :=
  ⟨(h.cell (p := ⟨tb, 0, none⟩) hz).trans h0, (h.cell (p := ⟨tb, 1, none⟩) hz).trans h1, Nat.lt_of_lt_of_le hz h.size, h⟩
set_option maxHeartbeats 2000000 in
set_option maxRecDepth 100000 in
theorem leaves_fork (w0 : World) (tb : Nat) (x y : T) (hx : LeavesAt w0 x) (hy : LeavesAt w0 y) (v : Value) (l : List Lf) (w : World) (ht : Rep w0 (.fork tb x y)) (h : LvOk w0 v l w) (hl : l.length + (x.leaves.length + y.leaves.length) ≤ 1000000) :
    Calls Try.prog 43 #[ptr tb, v] w (Lvs w0 (l ++ (x.leaves ++ y.leaves))) := by
  have hmk := Lib.hid (fun wz (h : Below w0.heap.size w0 wz) => (show LfS w0 tb (ptr x.blk) (ptr y.blk) wz from LfS.mk ht.1.1 ht.1.2.1 ht.1.2.2.2.2.2.2.2 h))
  have cc := Lib.hid (fun (u : T) (v1 : Value) (l1 : List Lf) (wz : World) (q0 : LeavesAt w0 u) (q : LvOk w0 v1 l1 wz) (q2 : l1.length + u.leaves.length ≤ 1000000) => q0 v1 l1 wz q q2)
  have hb1 : l.length + x.leaves.length ≤ 1000000 := by omega
  have hb2 : (l ++ x.leaves).length + y.leaves.length ≤ 1000000 := by rw [List.length_append]; omega
  rw [← List.append_assoc]
  obtain ⟨a0, a1, az, -⟩ := hmk.out w h.2
  have h' := Lib.hid h
  clear h ht
  go_enter Try.func43, Try.ntmps43
  go_wp2_with fail
  go_region_held3 (fun w' => w'.cell? ⟨tb, 0, none⟩ = some (ptr x.blk) ∧ w'.cell? ⟨tb, 1, none⟩ = some (ptr y.blk) ∧ tb < w'.heap.size ∧ Below w0.heap.size w0 w')
    (first | assumption | exact hmk.out _ h'.out.2.drew | exact hmk.out _ hq.2)
    (first | (go_at_call 43; refine (cc.out _ _ _ _ (by assumption) (by first | assumption | exact h'.out.drew) (by assumption)).mono ?_; rintro _ w' ⟨v1, rfl, hq⟩))
  all_goals
    go_wp2
    go_ret
    exact ⟨_, rfl, hq⟩
theorem leaves_at (w0 : World) (t : T) (ht : Rep w0 t) : LeavesAt w0 t := by
  induction t with
  | leaf b s => intro v l w h hl; exact leaves_leaf w0 b s v l w ht h (by simp [T.leaves] at hl; omega)
  | fork b x y hx hy => intro v l w h hl; exact leaves_fork w0 b x y (hx ht.2.1) (hy ht.2.2) v l w ht h (by simpa [T.leaves] using hl)
theorem leaves_any (o : Option T) (w : World) (ho : RepO w o) (hl : (lvs o).length ≤ 1000000) : Calls Try.prog 43 #[topPtr o, .slice none 0 0] w (Lvs w (lvs o)) := by
  have h0 : LvOk w (.slice none 0 0) [] w := ⟨World.ownsRow_nil _ _ _ _, Below.refl _ _⟩
  cases o with
  | none => exact leaves_nil w _ [] w h0
  | some t =>
    have := leaves_at w t ho (.slice none 0 0) [] w h0 (by simpa [lvs] using hl)
    simpa [topPtr, lvs] using this
end Go.Proofs.Ytagjeckgfjddmaa
