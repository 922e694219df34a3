/- Texts of package regs, one behind the other. -/
import Derived.Test.YthglciccejholaaDoorProg
import Derived.Test.YthglciccejholaaDoorV16
import Derived.Test.YthglciccejholaaDoorRG42
import Derived.RangeFuncNested
import Derived.RangeFuncBound
import Derived.RangeFuncCalls
import Derived.RangeFuncLeaves
import Derived.RangeFuncBox
import Derived.Shelf.Abstract
import Derived.Shelf.RegionOpen
import Derived.WalkKit
import Derived.OwnWalkIn
import Derived.TacticsInMore
import Derived.LoopNIn
import Derived.LoopIn
import Derived.Below
import Derived.Lib.Hide
import Derived.Lib.Walk
import Derived.Test.YthglciccejholaaDoorV3
import Derived.Maps.OwnSet
import Derived.Maps.OwnOps
import Derived.Maps.Own
import Derived.DeepKeys5
import Derived.BigFrame
import Derived.WalkMore
import Derived.ScopeJumps
import Derived.StillTailTactics
import Derived.Stop.BytesEq
import Derived.WalkLawsBesides
import Derived.WalkSpells
import Derived.Outline
import Derived.Lib.Slices
import Derived.Lib.Strings
import Derived.RegionTactic
import Derived.LoopTactic
import Derived.IntWalk
import Derived.Deep.QuietTactic
import Derived.BigQuiet
import Derived.Deep.MidRow
import Derived.Maps.AppendAt
import Derived.Laws.Rows
import Derived.Laws.Tables
import Derived.Deep.WholeRow
import Derived.Deep.Cut
import Derived.Deep.CutRange
import Derived.Lib.SliceRun
import Derived.Laws.MakeOwn
import Derived.Deep.RegionLaw
import Derived.Deep.RegionLawGrows
import Derived.Deep.RegionHeld3
import Derived.RegionCalls
import Derived.Deep.RegionWith
import Derived.Deep.Light
import Derived.Laws.CopyOwn
import Derived.Laws.ResultCell
section
/- Package dfa. -/
namespace Go.Proofs.YthglciccejholaaDoor
set_option linter.unusedSimpArgs false
set_option linter.unusedVariables false
set_option maxRecDepth 100000
open Go.RowKit Go.Shelf
/- The least rule of a set. -/
attribute [local go_sem] Oper.semAt_some
def lstF (ss : List Nst) (l : Int) (s : Nat) : Int := match ss[s]? with
  | some x => if 0 ≤ x.rl ∧ (l = -1 ∨ x.rl < l) then x.rl else l
  | none => l
def lstR (ss : List Nst) (xs : List Nat) : Int := xs.foldl (lstF ss) (-1)
theorem lstR_snoc (ss : List Nst) (xs : List Nat) (x : Nat) : lstR ss (xs ++ [x]) = lstF ss (lstR ss xs) x := by simp [lstR]
/-- rule's two boxes. -/
def Ru (w : World) (bb : Nat) (ss : List Nst) (pre : List Nat) (W : World) : Prop := Below w.heap.size w W ∧ W.heap[w.heap.size]? = some (.cells #[.pointer (some ⟨bb, 0, none⟩)] 101) ∧ W.heap[w.heap.size + 1]? = some (.cells #[.int .i64 (lstR ss pre)] 3)
theorem Ru.own {w : World} {bb : Nat} {ss : List Nst} : OwnFrom (w.heap.size + 2) (Ru w bb ss) := by
  rintro pre W W' row ⟨h1, h2, h3⟩ hg hr
  have hlt2 := (Array.getElem?_eq_some_iff.1 h2).1
  have hlt3 := (Array.getElem?_eq_some_iff.1 h3).1
  refine ⟨below_grown h1 hg (fun r e => by have := (hr r e).1; omega) h1.size, (hg.block _ hlt2 (fun e => by have := (hr _ e.symm).1; omega)).trans h2, (hg.block _ hlt3 (fun e => by have := (hr _ e.symm).1; omega)).trans h3⟩
set_option maxHeartbeats 8000000 in
theorem rule_any {D : Nat → Prop} {w : World} {bb g m cap k : Nat} {stp : Value} {ss : List Nst} {f : Nat → Bool} (c0 : w.cell? ⟨bb, 0, none⟩ = some stp) (hSV : SV D w ss stp) (hDl : ∀ z, D z → z < w.heap.size)
    (c5 : w.cell? ⟨bb, 323, none⟩ = some (.slice (some ⟨g, 0, none⟩) m cap)) (hk : k < m) (hm : m ≤ 4096) (hs : SW w g (k * 64) f) (hf : ∀ x, x < 4096 → f x = true → x < ss.length) (hT : R5.Tb w) :
    Calls Tryd.prog 100 #[.pointer (some ⟨bb, 0, none⟩), .int .i64 (k : Nat)] w fun e w' => e = .returned (.int .i64 (lstR ss ((List.range 4096).filter f))) ∧ Below w.heap.size w w' := by
  have hb0 := blk_lt c0
  have HSV := Lib.hid hSV
  have HDL := Lib.hid hDl
  have HS := Lib.hid hs
  have HF := Lib.hid hf
  have HT := Lib.hid hT
  have hkI : (k : Int) < (m : Int) := by omega
  have hkI' : ¬ (k : Int) < 0 := by omega
  clear hSV hDl hs hf hT
  refine (callsIn_wide (n := 3)).1 ?_
  refine callsIn_of_wp_marks Tryd.func100 rfl trivial ?_ rfl
  simp only [Tryd.ntmps100, List.size_toArray, List.length_cons, List.length_nil, Nat.reduceAdd, Nat.reduceSub, Array.replicate_succ, Array.replicate_zero, List.push_toArray, List.append_toArray, List.nil_append, List.cons_append]
  have c5' : ∀ W : World, Below w.heap.size w W → W.cell? ⟨bb, 323, none⟩ = some (.slice (some ⟨g, 0, none⟩) m cap) := fun W hb => (cell_same (hb.block bb hb0) _).trans c5
  have c5a := c5' ((w.alloc (.cells #[.pointer (some ⟨bb, 0, none⟩)] 101)).alloc (.cells #[.int .i64 (-1)] 3)) (((Below.refl _ _).alloc (Nat.le_refl _) _).alloc (by simp) _)
  clear c5'
  gi_wp2
  clear c5a
  refine range_each (b := g) (o := k * 64) (f := f) rfl (Ru w bb ss) ?hS ?hT ?hD ?hI ?h0 (fun x => { tmps := #[Value.pointer (some { block := bb, off := 0 }), Value.int IntKind.i64 ↑k, Value.pointer (some { block := w.heap.size, off := 0 }), undef, Value.int IntKind.i64 0, Value.pointer (some { block := w.heap.size + 1, off := 0 }), Value.int IntKind.i64 ↑x, undef, Value.pointer (some { block := bb, off := 0 }), Value.pointer (some { block := bb, off := 0 }), Value.pointer (some { block := bb, off := 323 }), Value.slice (some { block := g, off := 0 }) m cap, Value.int IntKind.i64 ↑k, Value.pointer (some { block := g, off := k * 64 }), Value.func (Fn.func 119) #[Value.pointer (some { block := g, off := k * 64 })] #[], Value.int IntKind.i64 ↑x, undef, undef, undef, undef, undef, undef, undef, undef, undef, undef, undef, undef, undef, undef, undef, undef, undef, undef, undef, undef, undef], defers := [] }) ?assign ?body ?done
  case hS => exact fun pre W h => HS.out.up h.1
  case hT => exact fun pre W h => R5.Tb.mono HT.out (h.1.block 0 (by have := HS.out.lt; omega))
  case hD => exact fun pre W h => ⟨h.1.drew, h.2⟩
  case hI =>
    have e : ((w.alloc (.cells #[.pointer (some ⟨bb, 0, none⟩)] 101)).alloc (.cells #[.int .i64 (-1)] 3)).heap.size = w.heap.size + 2 := by simp
    rw [e]; exact Ru.own
  case h0 =>
    refine ⟨((Below.refl _ _).alloc (Nat.le_refl _) _).alloc (by simp) _, (heap_alloc_old _ _ (by simp)).trans (heap_alloc_last w _), ?_⟩
    have hl : ∀ u v : Obj, ((w.alloc u).alloc v).heap[w.heap.size + 1]? = some v := fun u v => by have := heap_alloc_last (w.alloc u) v; simpa using this
    exact hl _ _
  case assign =>
    intro l x W K hK
    simp only [List.setIfInBounds_toArray, List.set_cons_succ, List.set_cons_zero]
    gi_wp2
    exact hK
  case body =>
    rintro l pre x W h hx hfx
    have hxn := HF.out x hx hfx
    obtain ⟨q, c, rfl, hsv⟩ := HSV.out
    obtain ⟨b2, o2, rfl, hDb, hxs⟩ := hsv (by intro e; rw [e] at hxn; simp at hxn)
    obtain ⟨qf, fc, hiv, hcell⟩ := hxs x hxn
    have cr : W.cell? ⟨b2, o2 + x * 7 + 6, none⟩ = some (.int .i64 ss[x].rl) := (cell_same (h.1.block b2 (HDL.out b2 hDb)) _).trans (hcell 6 _ rfl)
    have cb : W.cell? ⟨bb, 0, none⟩ = some (.slice (some ⟨b2, o2, none⟩) ss.length c) := (cell_same (h.1.block bb hb0) _).trans c0
    have c2 : W.cell? ⟨w.heap.size, 0, none⟩ = some (.pointer (some ⟨bb, 0, none⟩)) := cell_of_row W w.heap.size 0 _ 101 (0, 0) h.2.1
    have c3 : W.cell? ⟨w.heap.size + 1, 0, none⟩ = some (.int .i64 (lstR ss pre)) := cell_of_row W (w.heap.size + 1) 0 _ 3 (0, 0) h.2.2
    have f3 : W.frozen? ⟨w.heap.size + 1, 0, none⟩ = false := frozen_of_row W (w.heap.size + 1) 0 _ 3 h.2.2
    have H := Lib.hid h
    have hxI : (x : Int) < (ss.length : Int) := by omega
    have hxI' : ¬ (x : Int) < 0 := by omega
    have hst : Hid (lstR ss (pre ++ [x]) = if 0 ≤ ss[x].rl ∧ (lstR ss pre = -1 ∨ ss[x].rl < lstR ss pre) then ss[x].rl else lstR ss pre) := Lib.hid (by rw [lstR_snoc, lstF, List.getElem?_eq_getElem hxn])
    have hset : Hid (∀ v : Int, Ru w bb ss pre W → lstR ss (pre ++ [x]) = v → Ru w bb ss (pre ++ [x]) (W.setCell ⟨w.heap.size + 1, 0, none⟩ (.int .i64 v))) := Lib.hid fun v h e => by
      refine ⟨h.1.setCell (p := ⟨w.heap.size + 1, 0, none⟩) (by simp) _, (heap_setCell_other W ⟨w.heap.size + 1, 0, none⟩ _ _ (by simp)).trans h.2.1, ?_⟩
      rw [e]
      exact heap_setCell_same W (w.heap.size + 1) 0 _ 3 (.int .i64 v) h.2.2
    have hkeep : Hid (lstR ss (pre ++ [x]) = lstR ss pre → Ru w bb ss pre W → Ru w bb ss (pre ++ [x]) W) := Lib.hid fun e h => ⟨h.1, h.2.1, by rw [e]; exact h.2.2⟩
    generalize ss[x].rl = r at *
    generalize lstR ss pre = y at *
    clear h hcell hxs hsv hiv HS HT HF HSV HDL hx hfx
    gi_wp2
    all_goals first
      | exact ⟨(KeepsOthers.setCell _ _ _).from _, hset.out _ H.out (by rw [hst.out]; split <;> first | rfl | (exfalso; omega) | (exfalso; simp only [beq_iff_eq] at *; omega))⟩
      | exact ⟨KeepsFrom.refl _ _, hkeep.out (by rw [hst.out]; split <;> first | rfl | (exfalso; omega) | (exfalso; simp only [beq_iff_eq] at *; omega)) H.out⟩
  case done =>
    intro D W hD h hK
    have c3 : W.cell? ⟨w.heap.size + 1, 0, none⟩ = some (.int .i64 (lstR ss ((List.range 4096).filter f))) := cell_of_row W (w.heap.size + 1) 0 _ 3 (0, 0) h.2.2
    have H := Lib.hid h
    clear h HS HT HF HSV HDL
    obtain ⟨v, hv⟩ : ∃ v, lstR ss ((List.range 4096).filter f) = v := ⟨_, rfl⟩
    rw [hv] at c3
    have HV := Lib.hid hv
    clear hv
    gi_wp2
    refine ⟨by simp, .inl ⟨_, _, rfl, run_takeDeferred hK, ?_⟩⟩
    refine ⟨_, results_tmp rfl _ _ _, by rw [HV.out]; rfl, ?_⟩
    exact H.out.1.trans (belowK_b (w := w) (Nat.le_refl _) W D _ _ (by simp at hD; omega) hK rfl rfl)
end Go.Proofs.YthglciccejholaaDoor
end
section
/- Package dfa. -/
namespace Go.Proofs.YthglciccejholaaDoor
set_option linter.unusedSimpArgs false
set_option linter.unusedVariables false
set_option maxRecDepth 100000
open Go.RowKit
/- Sets as keys. -/
open Go.Maps
theorem mapM_all {α β : Type} {g : α → Option β} {h : α → β} : ∀ (L : List α), (∀ x ∈ L, g x = some (h x)) → L.mapM g = some (L.map h)
  | [], _ => rfl
  | x :: r, hx => by
    rw [List.mapM_cons, hx x (by simp), mapM_all r (fun y hy => hx y (by simp [hy]))]
    rfl
theorem cells139 : Tryd.prog.cellsOf 139 = 64 := by kernel_rfl
theorem cells22 : Tryd.prog.cellsOf 22 = 1 := by kernel_rfl
def litsS (f : Nat → Bool) : List Lit := (List.range 64).map fun i => .int .u64 (W f i : Nat)
theorem keyLits_one (d : Nat) (n : Nat) (h : n < 18446744073709551616) : Tryd.prog.keyLits (d + 1) 22 [.int .u64 (n : Nat)] = some [.int .u64 (n : Nat)] := by
  unfold Program.keyLits
  rw [Tryd.underlying22]
  have hw : (Lit.int .u64 (n : Nat)).wf = true := by
    simp [Lit.wf, IntKind.min, IntKind.max, IntKind.bits, IntKind.signed]; omega
  simp [hw]
theorem keyLits_S (d : Nat) (f : Nat → Bool) : Tryd.prog.keyLits (d + 2) 139 (sA f).toList = some (litsS f) := by
  rw [show d + 2 = (d + 1) + 1 from rfl]
  unfold Program.keyLits
  rw [Tryd.underlying139]
  simp only [cells139, cells22, Array.length_toList, sA_size, if_true, Nat.mul_one]
  rw [mapM_all (h := fun i => [Lit.int .u64 (W f i : Nat)])]
  · have e : ∀ L : List Nat, (L.map fun i => [Lit.int .u64 (W f i : Nat)]).flatten = L.map fun i => Lit.int .u64 (W f i : Nat) := by
      intro L
      induction L with
      | nil => rfl
      | cons x r ih => rw [List.map_cons, List.flatten_cons, ih]; rfl
    rw [Option.map_some, e]; rfl
  · intro i hi
    have hi : i < 64 := by simpa using hi
    have e : ((sA f).toList.drop i).take 1 = [.int .u64 (W f i : Nat)] := by
      have h1 : i < (sA f).toList.length := by simpa [sA_size] using hi
      rw [List.drop_eq_getElem_cons h1, List.take_succ_cons, List.take_zero]
      have := sA_get f hi
      rw [Array.getElem?_eq_getElem (by rw [sA_size]; exact hi)] at this
      have h2 := Option.some.inj this
      rw [Array.getElem_toList, h2]
    rw [e, keyLits_one _ _ (W_lt f i)]
theorem keyType139 : Tryd.prog.keyType 139 = true := by kernel_rfl
theorem typesN : ∃ n, Tryd.prog.types.size + 1 = n + 2 := ⟨Tryd.prog.types.size - 1, by have : (1 : Nat) ≤ Tryd.prog.types.size := of_decide_eq_true (by kernel_rfl); omega⟩
theorem keyS (f : Nat → Bool) : keyOf Tryd.prog 139 (sV f) = some (.string (keyBytes (litsS f))) := by
  obtain ⟨n, hn⟩ := typesN
  have hf : (sV f).formed Tryd.prog 139 = true := by
    unfold sV Value.formed
    rw [Tryd.underlying139, cells139]
    show ((sA f).size == 64) = true
    rw [sA_size]; rfl
  unfold keyOf
  rw [Tryd.underlying139]
  simp only [keyType139, hf, Bool.and_self, if_true]
  show (Tryd.prog.keyLits (Tryd.prog.types.size + 1) 139 (sA f).toList).map _ = _
  rw [hn, keyLits_S]; rfl
theorem laidOutA : laidOutB Tryd.prog = true := by kernel_rfl
theorem keyedS : Keyed Tryd.prog 139 := Keyed.of_law (deep_law_laid laidOutA (m := 3) (by omega) (of_decide_eq_true (by kernel_rfl)) (by kernel_rfl) (by kernel_rfl))
theorem u64_inj {a b : Nat} (h : some (Value.int .u64 (a : Int)) = some (Value.int .u64 (b : Int))) : a = b := by
  injection h with h
  injection h with _ h
  exact Int.ofNat.inj h
theorem keyS_inj {f g : Nat → Bool} (h : keyBytes (litsS f) = keyBytes (litsS g)) {x : Nat} (hx : x < 4096) : f x = g x := by
  have e := keyedS.inj (keyS f) (by rw [h]; exact keyS g)
  have e2 : sA f = sA g := by unfold sV at e; exact Value.agg.inj e
  have h1 := sA_get f (i := x / 64) (by omega)
  rw [e2, sA_get g (by omega)] at h1
  have h2 : W g (x / 64) = W f (x / 64) := u64_inj h1
  have := W_inj h2 (x % 64) (Nat.mod_lt _ (by omega))
  rw [Nat.div_add_mod] at this
  exact this.symm
end Go.Proofs.YthglciccejholaaDoor
end
section
/- Package dfa. -/
namespace Go.Proofs.YthglciccejholaaDoor
set_option linter.unusedSimpArgs false
set_option linter.unusedVariables false
set_option maxRecDepth 100000
open Go.RowKit
/- A map that numbers what it is given, in the order of its coming. -/
open Go.Maps
section
variable {κ : Type} [DecidableEq κ]
/-- A place in a list. -/
def idx (L : List κ) (x : κ) : Nat := L.idxOf x
theorem idx_lt {L : List κ} {x : κ} (h : x ∈ L) : idx L x < L.length := List.idxOf_lt_length_of_mem h
theorem idx_app {L : List κ} {x : κ} (h : ¬ x ∈ L) : idx (L ++ [x]) x = L.length := by unfold idx; rw [List.idxOf_append]; simp [h]
/-- The map D numbers the list L. -/
structure MK (kl : κ → Lit) (G : κ → Prop) (q : IntKind) (D : DataW Unit) (L : List κ) : Prop where
  tidy : Tidy D
  size : Maps.size D = L.length
  good : ∀ x ∈ L, G x
  has : ∀ x, G x → Maps.has D (kl x) = decide (x ∈ L)
  key : ∀ x, x ∈ L → ∀ z, D.atKey (kl x) z = .lit (.int q (idx L x : Nat))
theorem MK.nil (kl : κ → Lit) (G : κ → Prop) (q : IntKind) : MK kl G q (.map []) [] := ⟨tidy_empty, rfl, by simp, fun x _ => by simp [Maps.has_eq], by simp⟩
theorem MK.put {kl : κ → Lit} {G : κ → Prop} {q : IntKind} {D : DataW Unit} {L : List κ} (h : MK kl G q D L) (hkey : ∀ x, G x → WideAt.IsKeyLit (kl x)) (hinj : ∀ x y, G x → G y → kl x = kl y → x = y) {x : κ} (hx : G x) (hn : ¬ x ∈ L) :
    MK kl G q (D.put (kl x) (.lit (.int q (L.length : Nat)))) (L ++ [x]) := by
  have hne : ∀ y, G y → y ≠ x → kl y ≠ kl x := fun y hy e e2 => e (hinj y x hy hx e2)
  refine ⟨h.tidy.put (hkey x hx) _, ?_, ?_, ?_, ?_⟩
  · rw [size_put h.tidy, h.has x hx, h.size]; simp [hn]
  · intro y hy
    rcases List.mem_append.1 hy with hy | hy
    · exact h.good y hy
    · simp at hy; subst hy; exact hx
  · intro y hy
    by_cases e : y = x
    · subst e; rw [has_put_same h.tidy.isMap (hkey y hx)]; simp
    · rw [has_put_other (hne y hy e), h.has y hy]; simp [e]
  · intro y hy z
    by_cases e : y = x
    · subst e
      rw [atKey_put_same h.tidy.isMap (hkey y hx)]; unfold idx; rw [List.idxOf_append]
      simp [hn]
    · have hy2 : y ∈ L := by simpa [e] using hy
      rw [atKey_put_other (hne y (h.good y hy2) e), h.key y hy2 z]; unfold idx; rw [List.idxOf_append]
      simp [hy2]
end
/-- What is numbered, in order. -/
def seen {κ : Type} [DecidableEq κ] (key : Nat → κ) : Nat → List κ
  | 0 => []
  | k + 1 => if key k ∈ seen key k then seen key k else seen key k ++ [key k]
theorem seen_len {κ : Type} [DecidableEq κ] (key : Nat → κ) : ∀ k, (seen key k).length ≤ k
  | 0 => by simp [seen]
  | k + 1 => by
    have := seen_len key k
    unfold seen
    split
    · omega
    · simp; omega
theorem seen_mem {κ : Type} [DecidableEq κ] (key : Nat → κ) : ∀ k j, j < k → key j ∈ seen key k
  | k + 1, j, h => by
    unfold seen
    split
    · rename_i hk
      by_cases e : j = k
      · subst e; exact hk
      · exact seen_mem key k j (by omega)
    · by_cases e : j = k
      · subst e; simp
      · exact List.mem_append_left _ (seen_mem key k j (by omega))
theorem seen_in {κ : Type} [DecidableEq κ] {key : Nat → κ} {k : Nat} (h : key k ∈ seen key k) : seen key (k + 1) = seen key k := by
  show (if key k ∈ seen key k then seen key k else seen key k ++ [key k]) = _
  rw [if_pos h]
theorem seen_out {κ : Type} [DecidableEq κ] {key : Nat → κ} {k : Nat} (h : ¬ key k ∈ seen key k) : seen key (k + 1) = seen key k ++ [key k] := by
  show (if key k ∈ seen key k then seen key k else seen key k ++ [key k]) = _
  rw [if_neg h]
theorem seen_idx {κ : Type} [DecidableEq κ] (key : Nat → κ) (x : κ) : ∀ k j, j ≤ k → x ∈ seen key j → idx (seen key k) x = idx (seen key j) x
  | 0, j, h, hx => by obtain rfl : j = 0 := by omega
                      rfl
  | k + 1, j, h, hx => by
    by_cases e : j = k + 1
    · subst e; rfl
    · have ih := seen_idx key x k j (by omega) hx
      rw [← ih]
      have hm : x ∈ seen key k := by
        clear ih
        have : ∀ k, j ≤ k → x ∈ seen key k := by
          intro k
          induction k with
          | zero => intro h2; obtain rfl : j = 0 := by omega
                    exact hx
          | succ n ihn =>
            intro h2
            by_cases e2 : j = n + 1
            · subst e2; exact hx
            · have := ihn (by omega)
              unfold seen; split
              · exact this
              · exact List.mem_append_left _ this
        exact this k (by omega)
      unfold idx
      show (if key k ∈ seen key k then seen key k else seen key k ++ [key k]).idxOf x = _
      split
      · rfl
      · rw [List.idxOf_append]; simp [hm]
/-- Pairs of numbers as keys. -/
def klP (x : Nat × Int) : Lit := .string (keyBytes [.int .i64 (x.1 : Nat), .int .i64 x.2])
def GP (x : Nat × Int) : Prop := x.1 < 256 ∧ -9223372036854775808 ≤ x.2 ∧ x.2 ≤ 9223372036854775807
def pV (x : Nat × Int) : Value := .agg #[.int .i64 (x.1 : Nat), .int .i64 x.2]
theorem cells167 : Tryd.prog.cellsOf 167 = 2 := by kernel_rfl
theorem cells3k : Tryd.prog.cellsOf 3 = 1 := by kernel_rfl
theorem keyType167 : Tryd.prog.keyType 167 = true := by kernel_rfl
theorem keyLits_i (d : Nat) (n : Int) (h : -9223372036854775808 ≤ n ∧ n ≤ 9223372036854775807) : Tryd.prog.keyLits (d + 1) 3 [.int .i64 n] = some [.int .i64 n] := by
  unfold Program.keyLits
  rw [Tryd.underlying3]
  have hw : (Lit.int .i64 n).wf = true := WalkArith.wf_i64 h
  simp [hw]
theorem keyP {x : Nat × Int} (h : GP x) : keyOf Tryd.prog 167 (pV x) = some (klP x) := by
  obtain ⟨n, hn⟩ := typesN
  have hf : (pV x).formed Tryd.prog 167 = true := by
    unfold pV Value.formed
    rw [Tryd.underlying167, cells167]; rfl
  unfold keyOf
  rw [Tryd.underlying167]
  simp only [keyType167, hf, Bool.and_self, if_true]
  rw [hn, show n + 2 = (n + 1) + 1 from rfl]
  unfold Program.keyLits
  rw [Tryd.underlying167]
  have h1 := keyLits_i n (x.1 : Nat) (by have := h.1; omega)
  have h2 := keyLits_i n x.2 h.2
  simp [cells167, cells3k, pV, Value.cells, List.range_succ, h1, h2, klP]
theorem keyedP : Keyed Tryd.prog 167 := Keyed.of_law (deep_law_laid laidOutA (m := 3) (by omega) (of_decide_eq_true (by kernel_rfl)) (by kernel_rfl) (by kernel_rfl))
theorem klP_inj (x y : Nat × Int) (hx : GP x) (hy : GP y) (h : klP x = klP y) : x = y := by
  have e := keyedP.inj (keyP hx) (by rw [h]; exact keyP hy)
  unfold pV at e
  injection e with e
  simp at e
  exact Prod.ext (by omega) e.2
theorem klP_key (x : Nat × Int) (hx : GP x) : WideAt.IsKeyLit (klP x) := keyedP.key (keyP hx)
end Go.Proofs.YthglciccejholaaDoor
end
section
/- Package dfa. -/
namespace Go.Proofs.YthglciccejholaaDoor
set_option linter.unusedSimpArgs false
set_option linter.unusedVariables false
set_option maxRecDepth 100000
open Go.RowKit
/- Sets compared. -/
open Go.Maps
/-- A set's key. -/
def kS (f : Nat → Bool) : List UInt8 := keyBytes (litsS f)
theorem kS_iff {f g : Nat → Bool} : kS f = kS g ↔ ∀ x, x < 4096 → f x = g x := by
  constructor
  · intro h x hx; exact keyS_inj h hx
  · intro h
    have e : litsS f = litsS g := by
      unfold litsS
      refine List.map_congr_left fun i hi => ?_
      have hi : i < 64 := by simpa using hi
      rw [W_congr i (fun k hk => h _ (by omega))]
    unfold kS; rw [e]
def eqS (f g : Nat → Bool) : Bool := decide (kS f = kS g)
theorem keyAt139 : Tryd.prog.keyTypeAt 3 139 = true := by kernel_rfl
theorem wide139 : (match Tryd.prog.underlying 139 with | some (.array _ _) | some (.struct _) => true | _ => false) = true := by kernel_rfl
theorem run_eq_agg {xs ys : Array Value} {r : Bool} {w : World} (h : (Op.equal 139 (.agg xs) (.agg ys)).run Tryd.prog w = .ok r w) : (binOp .eql 139 (.agg xs) (.agg ys)).run Tryd.prog w = .ok (.bool r) w := by
  simp only [binOp]
  simp [h, Result.andThen]
theorem run_eqS (f g : Nat → Bool) (w : World) : (binOp .eql 139 (sV f) (sV g)).run Tryd.prog w = .ok (.bool (eqS f g)) w := by
  obtain ⟨r, hr, hiff⟩ := run_equal_deep (P := Tryd.prog) w (m := 3) (by omega) keyAt139 wide139 (keyS f) (keyS g)
  have e : r = eqS f g := by
    unfold eqS
    rw [Bool.eq_iff_iff, hiff, decide_eq_true_eq]
    unfold kS
    exact ⟨fun h => by injection h, fun h => by rw [h]⟩
  rw [← e]
  exact run_eq_agg hr
theorem guard139 (x y : Operand) (xs ys : Array Value) (w : World) : (eqGuard .eql 139 x y (.agg xs) (.agg ys)).run Tryd.prog w = .ok () w := by
  have h : Tryd.prog.eqGuardType Tryd.prog.depth 139 = false := by kernel_rfl
  simp [eqGuard, h, go_sem]
theorem guardS (x y : Operand) (f g : Nat → Bool) (w : World) : (eqGuard .eql 139 x y (sV f) (sV g)).run Tryd.prog w = .ok () w := guard139 x y _ _ w
theorem run_build139 (w : World) : (Instr.build 139 #[]).run Tryd.prog w = .ok (sV noS) w := by
  have e2 : sV noS = .agg (Array.replicate 64 (.int .u64 0)) := by unfold sV noS; rw [sA_no]
  rw [e2]; exact run_build w 139 #[] _ built139
set_option maxHeartbeats 8000000 in
/-- A set that is not alive has no number. -/
theorem number_dead {w : World} {bb : Nat} {f lv : Nat → Bool} (hf : SW w bb 326 f) (hl : SW w bb 2 lv) (hd : ∀ x, x < 4096 → (f x && lv x) = false) :
    Calls Tryd.prog 118 #[.pointer (some ⟨bb, 0, none⟩)] w fun e w' => e = .returned (.int .i64 (-1)) ∧ Below w.heap.size w w' := by
  have hm := Lib.hid (meet_any hf hl)
  have hmd : ∀ y : World, Below w.heap.size w y → Calls Tryd.prog 124 #[.pointer (some ⟨bb, 326, none⟩), .pointer (some ⟨bb, 2, none⟩)] y fun e w' => e = .returned (sV fun x => f x && lv x) ∧ Below y.heap.size y w' := fun y hb => meet_any (hf.same (hb.block _ hf.lt)) (hl.same (hb.block _ hl.lt))
  have he : eqS (fun x => f x && lv x) noS = true := by
    unfold eqS; rw [decide_eq_true_eq, kS_iff]; intro x hx; rw [hd x hx]; rfl
  have hre := fun z => run_eqS (fun x => f x && lv x) noS z
  rw [he] at hre
  have hgu := fun x y z => guardS x y (fun x => f x && lv x) noS z
  have hbu := fun z => run_build139 z
  generalize hzv : sV noS = zv at hre hgu hbu
  obtain ⟨mv, hmv⟩ : ∃ mv, (sV fun x => f x && lv x) = mv := ⟨_, rfl⟩
  rw [hmv] at hre hgu hmd
  have HM := Lib.hid hmd
  have HRE := Lib.hid hre
  have HGU := Lib.hid hgu
  have HBU := Lib.hid hbu
  clear hzv hmv he hbu
  clear hm hmd hre hgu hf hl
  go_enter Tryd.func118, Tryd.ntmps118
  go_upto_region 1 with fail
  refine wp_region_held_drew (S := fun v => Below w.heap.size w v) (by kernel_rfl) ((Below.refl _ _).drew) (fun hHeld => ?_)
  refine wpAnyH_take (i := 0) (v := (.pointer (some ⟨bb, 0, none⟩))) rfl (by kernel_rfl) (by kernel_rfl) (by kernel_rfl) (fun _ _ _ h => h) (Or.inl ⟨by rfl, by (intro w hSw; (try dsimp only at hSw); go_simp)⟩) hHeld ?_
  (try simp only [Act.put, List.getElem_toArray, List.getElem_cons_zero, List.getElem_cons_succ, List.setIfInBounds_toArray, List.set_cons_zero, List.set_cons_succ])
  refine wpAnyH_take (i := 1) (v := (.pointer (some ⟨bb, 0, none⟩))) rfl (by kernel_rfl) (by kernel_rfl) (by kernel_rfl) (fun _ _ _ h => h) (Or.inl ⟨by rfl, by (intro w hSw; (try dsimp only at hSw); go_simp)⟩) hHeld ?_
  (try simp only [Act.put, List.getElem_toArray, List.getElem_cons_zero, List.getElem_cons_succ, List.setIfInBounds_toArray, List.set_cons_zero, List.set_cons_succ])
  refine wpAnyH_take (i := 2) (v := (.pointer (some ⟨bb, 326, none⟩))) rfl (by kernel_rfl) (by kernel_rfl) (by kernel_rfl) (fun _ _ _ h => h) (Or.inl ⟨by rfl, by (intro w hSw; (try dsimp only at hSw); go_simp)⟩) hHeld ?_
  (try simp only [Act.put, List.getElem_toArray, List.getElem_cons_zero, List.getElem_cons_succ, List.setIfInBounds_toArray, List.set_cons_zero, List.set_cons_succ])
  refine wpAnyH_take (i := 3) (v := (.pointer (some ⟨bb, 326, none⟩))) rfl (by kernel_rfl) (by kernel_rfl) (by kernel_rfl) (fun _ _ _ h => h) (Or.inl ⟨by rfl, by (intro w hSw; (try dsimp only at hSw); go_simp)⟩) hHeld ?_
  (try simp only [Act.put, List.getElem_toArray, List.getElem_cons_zero, List.getElem_cons_succ, List.setIfInBounds_toArray, List.set_cons_zero, List.set_cons_succ])
  refine wpAnyH_take (i := 4) (v := (.pointer (some ⟨bb, 0, none⟩))) rfl (by kernel_rfl) (by kernel_rfl) (by kernel_rfl) (fun _ _ _ h => h) (Or.inl ⟨by rfl, by (intro w hSw; (try dsimp only at hSw); go_simp)⟩) hHeld ?_
  (try simp only [Act.put, List.getElem_toArray, List.getElem_cons_zero, List.getElem_cons_succ, List.setIfInBounds_toArray, List.set_cons_zero, List.set_cons_succ])
  refine wpAnyH_take (i := 5) (v := (.pointer (some ⟨bb, 0, none⟩))) rfl (by kernel_rfl) (by kernel_rfl) (by kernel_rfl) (fun _ _ _ h => h) (Or.inl ⟨by rfl, by (intro w hSw; (try dsimp only at hSw); go_simp)⟩) hHeld ?_
  (try simp only [Act.put, List.getElem_toArray, List.getElem_cons_zero, List.getElem_cons_succ, List.setIfInBounds_toArray, List.set_cons_zero, List.set_cons_succ])
  refine wpAnyH_take (i := 6) (v := (.pointer (some ⟨bb, 2, none⟩))) rfl (by kernel_rfl) (by kernel_rfl) (by kernel_rfl) (fun _ _ _ h => h) (Or.inl ⟨by rfl, by (intro w hSw; (try dsimp only at hSw); go_simp)⟩) hHeld ?_
  (try simp only [Act.put, List.getElem_toArray, List.getElem_cons_zero, List.getElem_cons_succ, List.setIfInBounds_toArray, List.set_cons_zero, List.set_cons_succ])
  refine wpAnyH_take (i := 8) (v := zv) rfl (by kernel_rfl) (by kernel_rfl) (by kernel_rfl) (fun _ _ _ h => h) (Or.inl ⟨by rfl, by (intro w hSw; simp only [execOp]; simp [HBU.out, Result.andThen])⟩) hHeld ?_
  (try simp only [Act.put, List.getElem_toArray, List.getElem_cons_zero, List.getElem_cons_succ, List.setIfInBounds_toArray, List.set_cons_zero, List.set_cons_succ])
  refine wpAnyH_ready (rs := [7]) (by kernel_rfl) (by simp) ?_
  refine AllReadyH.cons rfl (fun K hK => ?_) (AllReadyH.nil)
  rw [if_pos (by rfl)]
  go_wp2_with fail
  refine (HM.out _ (Below.refl _ _).drew).mono ?_
  rintro _ w2 ⟨rfl, hb⟩
  have hb2 : Below w.heap.size w w2 := ((Below.refl _ _).drew).trans hb
  have HB := Lib.hid hb2
  clear hb HM
  refine hK.out _ _ hb2 (fun hHeld2 => ?_)
  clear hHeld hK hb2
  have hHeld := hHeld2
  clear hHeld2
  (try simp only [Act.put, List.getElem_toArray, List.getElem_cons_zero, List.getElem_cons_succ, List.setIfInBounds_toArray, List.set_cons_zero, List.set_cons_succ])
  refine wpAnyH_take (i := 9) (v := .bool true) rfl (by kernel_rfl) (by kernel_rfl) (by kernel_rfl) (fun _ _ _ h => h) (Or.inl ⟨by rfl, by (intro w hSw; have h1 := HGU.out; have h2 := HRE.out; go_simp)⟩) hHeld ?_
  (try simp only [Act.put, List.getElem_toArray, List.getElem_cons_zero, List.getElem_cons_succ, List.setIfInBounds_toArray, List.set_cons_zero, List.set_cons_succ])
  refine wpAnyH_done (by kernel_rfl) ?_ _
  go_wp2_with fail
  go_ret
  exact ⟨rfl, HB.out⟩
end Go.Proofs.YthglciccejholaaDoor
end
section
/- Package dfa. -/
namespace Go.Proofs.YthglciccejholaaDoor
set_option linter.unusedSimpArgs false
set_option linter.unusedVariables false
set_option maxRecDepth 100000
open Go.RowKit Go.Shelf
/- A front, told anew from another world. -/
section
variable {D : Nat → Prop} {B : Nat} {w0 y z : World} {F o T : Nat} {R0 : Array Value} {la l : List Nat} {sl : Value}
theorem FS.rlt (h : FS D B w0 y F o T R0 la l sl) {g : Nat} (hg : sl.ownBlock = some g) : B ≤ g ∧ g < y.heap.size := World.ownsRow.lt h.row g hg
theorem row_below {w w' : World} {e : TypeId} {size n : Nat} {v : Value} {xs : List Value} (h : w.ownsRow B e size v n xs) (hb : Below w.heap.size w w') : w'.ownsRow B e size v n xs := by
  refine World.ownsRow.kept h (row := none) ⟨hb.os, hb.tape, hb.output, hb.size, fun k hk _ => hb.block k hk⟩ ?_
  by_cases hp : v.ownBlock = none
  · exact .inl hp
  · exact .inr (fun e => hp e)
/-- The same front, held against a later world, with what is new kept too. -/
theorem FS.rebase (h : FS D B w0 y F o T R0 la l sl) (hb : Below y.heap.size y z) : FS (fun b => D b ∨ (y.heap.size ≤ b ∧ b < z.heap.size)) B z z F o T R0 la l sl := by
  have hlt := h.lt
  obtain ⟨R, hR, hr⟩ := h.f
  refine ⟨Below.refl _ _, ⟨R, (hb.block F hlt).trans hR, hr⟩, row_below h.row hb, h.hF, h.sF, Nat.le_trans h.sz hb.size, fun _ _ => rfl, ?_, ?_, ?_⟩
  · rintro (hd | hd)
    · exact h.dF hd
    · omega
  · rintro g hg (hd | hd)
    · exact h.dS g hg hd
    · have := (h.rlt hg).2; omega
  · rintro b (hd | hd)
    · exact Nat.lt_of_lt_of_le (h.dl b hd) hb.size
    · exact hd.2
/-- .. and back. -/
theorem FS.back {v : World} {la' l' : List Nat} {sl' : Value} (h : FS D B w0 y F o T R0 la l sl) (hb : Below y.heap.size y z) (h2 : FS (fun b => D b ∨ (y.heap.size ≤ b ∧ b < z.heap.size)) B z v F o T R0 la' l' sl') : FS D B w0 v F o T R0 la' l' sl' := by
  have hz : Below B y z := hb.mono h.sz
  refine ⟨h.bel.trans (hz.trans h2.bel), h2.f, h2.row, h2.hF, h2.sF, h2.sz, fun b hd => ?_, fun hd => h2.dF (.inl hd), fun g hg hd => h2.dS g hg (.inl hd), fun b hd => h2.dl b (.inl hd)⟩
  exact (h2.kp b (.inl hd)).trans ((hb.block b (h.dl b hd)).trans (h.kp b hd))
/-- What is no cells may turn. -/
theorem FS.turn {v : World} {row : Option Nat} (h : FS D B w0 y F o T R0 la l sl) (hg : y.grownBy v row) (hB : ∀ r, row = some r → B ≤ r ∧ ¬ D r ∧ ∃ ob : Obj, y.heap[r]? = some ob ∧ ob.isCells = false) : FS D B w0 v F o T R0 la l sl := by
  have hlt := h.lt
  obtain ⟨R, hR, hr⟩ := h.f
  have hne : ∀ b cs t fz, y.heap[b]? = some (.cells cs t fz) → some b ≠ row := by
    intro b cs t fz hc e
    obtain ⟨-, -, ob, ho, hoc⟩ := hB b e.symm
    rw [hc] at ho
    cases ho
    cases hoc
  refine ⟨below_grown h.bel hg (fun r e => (hB r e).1) h.sz, ⟨R, (hg.block F hlt (hne F _ _ _ hR)).trans hR, hr⟩, ?_, h.hF, h.sF, Nat.le_trans h.sz hg.size, fun b hd => (hg.block b (h.dl b hd) (fun e => (hB b e.symm).2.1 hd)).trans (h.kp b hd), h.dF, h.dS, fun b hd => Nat.lt_of_lt_of_le (h.dl b hd) hg.size⟩
  refine World.ownsRow.kept h.row hg ?_
  cases hp : sl.ownBlock with
  | none => exact .inl rfl
  | some g =>
    refine .inr ?_
    rcases h.row.2 with ⟨e, _⟩ | ⟨g', cap, cur, e, h1, h2, _⟩
    · rw [e] at hp; cases hp
    · rw [e] at hp; cases hp
      exact hne _ _ _ _ h2
end
end Go.Proofs.YthglciccejholaaDoor
end
