/- Texts of package regs, one behind the other. -/
import Derived.Test.YthglciccejholaaDoorProg
import Derived.Test.YthglciccejholaaDoorV2
import Derived.WalkKit
import Derived.BigFrame
import Derived.WalkMore
import Derived.ScopeJumps
import Derived.StillTailTactics
import Derived.Stop.BytesEq
import Derived.WalkLawsBesides
import Derived.WalkSpells
import Derived.Outline
import Derived.Lib.Walk
import Derived.Lib.Hide
import Derived.Lib.Slices
import Derived.Lib.Strings
import Derived.RegionTactic
import Derived.LoopTactic
import Derived.Below
import Derived.IntWalk
import Derived.Deep.QuietTactic
import Derived.BigQuiet
import Derived.Deep.MidRow
import Derived.Maps.AppendAt
import Derived.Laws.Rows
import Derived.Laws.Tables
import Derived.Deep.WholeRow
import Derived.Deep.Cut
import Derived.Deep.CutRange
import Derived.Lib.SliceRun
import Derived.Laws.MakeOwn
import Derived.Deep.RegionLaw
import Derived.Deep.RegionLawGrows
import Derived.Deep.RegionHeld3
import Derived.RegionCalls
import Derived.Deep.RegionWith
import Derived.Deep.Light
import Derived.Laws.CopyOwn
import Derived.Laws.ResultCell
import Derived.Test.YthglciccejholaaDoorV1
section
/- Package dfa. -/
namespace Go.Proofs.YthglciccejholaaDoor
set_option linter.unusedSimpArgs false
set_option linter.unusedVariables false
set_option maxRecDepth 100000
open Go.RowKit
/- meet. -/
def sA (f : Nat → Bool) : Array Value := Array.ofFn fun i : Fin 64 => .int .u64 (W f i.val)
theorem sA_size (f : Nat → Bool) : (sA f).size = 64 := by simp [sA]
theorem sA_get (f : Nat → Bool) {i : Nat} (h : i < 64) : (sA f)[i]? = some (.int .u64 (W f i)) := by simp [sA, Array.getElem?_ofFn, h]
theorem sA_one (f : Nat → Bool) : (sA f).all (·.oneCell') = true := by
  rw [Array.all_eq_true_iff_forall_mem]
  intro v hv
  obtain ⟨i, hi, rfl⟩ := Array.getElem_of_mem hv
  simp [sA, Value.oneCell']
def sV (f : Nat → Bool) : Value := .agg (sA f)
theorem W_no (i : Nat) : W (fun _ => false) i = 0 := (W_eq _ i 0 (by omega) (fun k _ => by simp)).symm
theorem sA_no : sA (fun _ => false) = Array.replicate 64 (.int .u64 0) := by
  apply Array.ext
  · simp [sA]
  · intro i h1 h2; simp [sA, W_no]
theorem info139 : (Tryd.prog.info? 139).map (·.size) = some 64 := by kernel_rfl
/-- The first k words of f, then those of g. -/
def sM (f g : Nat → Bool) (k : Nat) : Array Value := Array.ofFn fun i : Fin 64 => .int .u64 (if i.val < k then W f i.val else W g i.val)
theorem sM_zero (f g : Nat → Bool) : sM f g 0 = sA g := by simp [sM, sA]
theorem sM_end (f g : Nat → Bool) : sM f g 64 = sA f := by
  apply Array.ext
  · simp [sM, sA]
  · intro i h1 h2
    have h2 : i < 64 := by simpa [sA] using h2
    simp [sM, sA, h2]
theorem sM_set (f g : Nat → Bool) {k : Nat} (h : k < 64) : (sM f g k).setIfInBounds k (.int .u64 (W f k)) = sM f g (k + 1) := by
  apply Array.ext
  · simp [sM]
  · intro i h1 h2
    have h2 : i < 64 := by simpa [sM] using h2
    rw [Array.getElem_setIfInBounds (by simpa [sM] using h2)]
    simp only [sM, Array.getElem_ofFn]
    by_cases e : k = i
    · subst e; simp
    · rw [if_neg e]
      by_cases e2 : i < k
      · rw [if_pos e2, if_pos (by omega)]
      · rw [if_neg e2, if_neg (by omega)]
theorem W_and' (f g : Nat → Bool) (i : Nat) : bits .and .u64 (W f i : Int) (W g i : Int) = ((W (fun x => f x && g x) i : Nat) : Int) := by
  rw [bits_and_u64_nat _ _ (W_lt f i) (W_lt g i)]
  refine congrArg (fun n : Nat => (n : Int)) ?_
  refine W_eq _ _ _ (Nat.lt_of_le_of_lt Nat.and_le_left (W_lt f i)) fun k hk => ?_
  rw [Nat.testBit_and, W_test f i k hk, W_test g i k hk]
theorem wpList_load_S {ops : Array Oper} {rest : List Oper} {op : Oper} {a : Act} {w : World} {Q : Exit → Act → World → Prop} (hgd : op.guard = none) (x : Operand) (ho : op.op = .load 139 x) (b o : Nat) (f : Nat → Bool) (hx : a.eval x = .pointer (some ⟨b, o, none⟩)) (hc : SW w b o f)
    (h : wpList Tryd.prog ops Q rest (a.put op.dst (sV f)) w) : wpList Tryd.prog ops Q (op :: rest) a w :=
  wpList_load_mid hgd 139 x ho b o hx (sA f).toList _ (fun j v hj => by
    have hj' : (sA f)[j]? = some v := by simpa using hj
    have hlt : j < 64 := by have := (Array.getElem?_eq_some_iff.1 hj').1; rwa [sA_size] at this
    rw [sA_get f hlt] at hj'
    cases hj'
    exact hc j hlt) Tryd.underlying139 rfl (by rw [info139]; simp [sA_size]) (by simpa [sV] using h)
theorem SW.row {w : World} {b T : Nat} {f : Nat → Bool} (h : w.heap[b]? = some (.cells (sA f) T)) : SW w b 0 f := fun i hi => by
  rw [Nat.zero_add, cell_of_row w b i _ T (0, 0) h, sA_get f hi]
/-- meet's two blocks. -/
def Me (w y : World) (f g : Nat → Bool) (k : Nat) : Prop := Below w.heap.size w y ∧ y.heap[w.heap.size]? = some (.cells (sA fun _ => false) 139) ∧ y.heap[w.heap.size + 1]? = some (.cells (sM (fun x => f x && g x) (fun _ => false) k) 139)
set_option maxHeartbeats 8000000 in
theorem meet_any {w : World} {b o b' o' : Nat} {f g : Nat → Bool} (h : SW w b o f) (h' : SW w b' o' g) :
    Calls Tryd.prog 124 #[.pointer (some ⟨b, o, none⟩), .pointer (some ⟨b', o', none⟩)] w fun e w' => e = .returned (sV fun x => f x && g x) ∧ Below w.heap.size w w' := by
  have H := Lib.hid h
  have H' := Lib.hid h'
  clear h h'
  go_enter Tryd.func124, Tryd.ntmps124
  go_wp2_with fail
  refine at_world (fun y => Me w y f g 0) ?start fun y hy => ?_
  case start =>
    refine ⟨((Below.refl _ _).alloc (Nat.le_refl _) _).alloc (by simp) _, ?_, ?_⟩
    · rw [sA_no]; exact (heap_alloc_old _ _ (by simp)).trans (heap_alloc_last w _)
    · rw [sM_zero, sA_no]
      have hl : ∀ u v : Obj, ((w.alloc u).alloc v).heap[w.heap.size + 1]? = some v := fun u v => by have := heap_alloc_last (w.alloc u) v; simpa using this
      exact hl _ _
  have HY := Lib.hid hy
  clear hy
  go_loopw [7] (fun i wr => ∃ k : Nat, i = .int .i64 (k : Nat) ∧ k ≤ 64 ∧ Hid (Me w wr f g k)) (fun i _ => 64 - (intOf i).toNat)
  case atStart => exact ⟨0, rfl, by omega, HY⟩
  case round =>
    clear HY
    obtain ⟨k, rfl, hk, HY⟩ := hrel
    obtain ⟨wo, rfl⟩ : ∃ wo : World, wo = wr := ⟨_, rfl⟩
    by_cases hlt : k < 64
    · have hltI : (k : Int) < 64 := by omega
      have hkI : ¬ (k : Int) < 0 := by omega
      have hkI' : 0 ≤ (k : Int) := by omega
      have c1 := (H.out.same (HY.out.1.block b H.out.lt)) k hlt
      have c2 := (H'.out.same (HY.out.1.block b' H'.out.lt)) k hlt
      have c1' : wo.drew.cell? ⟨b, o + k, none⟩ = some (.int .u64 (W f k)) := c1
      have c2' : wo.drew.cell? ⟨b', o' + k, none⟩ = some (.int .u64 (W g k)) := c2
      have c3 : wo.drew.cell? ⟨w.heap.size + 1, k, none⟩ = some (.int .u64 (if k < k then W (fun x => f x && g x) k else W (fun _ => false) k)) := by
        refine (cell_of_row wo (w.heap.size + 1) k _ 139 (0, 0) HY.out.2.2).trans ?_
        simp [sM, hlt]
      have c4 : wo.drew.frozen? ⟨w.heap.size + 1, k, none⟩ = false := frozen_of_row wo (w.heap.size + 1) k _ 139 HY.out.2.2
      have ha := W_and' f g k
      have hnext : Hid (Me w ((wo.setCell ⟨w.heap.size + 1, k, none⟩ (.int .u64 ((W (fun x => f x && g x) k : Nat) : Int))).drew) f g (k + 1)) := Lib.hid ⟨(HY.out.1.setCell (p := ⟨w.heap.size + 1, k, none⟩) (by simp) _).drew, (heap_setCell_other wo ⟨w.heap.size + 1, k, none⟩ _ _ (by simp)).trans HY.out.2.1, by
        have := heap_setCell_same wo (w.heap.size + 1) k _ 139 (.int .u64 ((W (fun x => f x && g x) k : Nat) : Int)) HY.out.2.2
        rwa [sM_set _ _ hlt] at this⟩
      clear HY
      generalize ((W (fun x => f x && g x) k : Nat) : Int) = v at *
      go_upto_region 5 with fail
      go_still_tail 13, (by kernel_rfl)
      change wpList _ _ _ _ _ wo.drew
      go_wp2_with fail
      go_roundw
      case rel => exact ⟨k + 1, by go_num, by omega, hnext⟩
      case measure => simp [intOf]; omega
    · obtain rfl : k = 64 := by omega
      have hY := HY.out
      unfold Me at hY
      rw [sM_end] at hY
      obtain ⟨h1, h2, h3⟩ := hY
      have H1 := Lib.hid h1
      have H2 := Lib.hid h2
      have H3 := Lib.hid h3
      clear h1 h2 h3 HY
      go_wp2_with (first | (refine wpList_load_S rfl (.tmp 5) rfl (w.heap.size + 1) 0 _ rfl (SW.row H3.out) ?_) | (refine wpList_store_row rfl 139 (.tmp 4) (.tmp 24) rfl w.heap.size (sA fun x => f x && g x) rfl rfl 139 _ H2.out (by rw [info139, sA_size]) (by rw [sA_size, sA_size]) (sA_one _) ?_))
      refine bodyPost_ret (v := sV fun x => f x && g x) (results_cell_row rfl _ _ w.heap.size 139 _ (0, 0) _ rfl (setRow_heap _ w.heap.size _ _ 139 (0, 0) H2.out) Tryd.underlying139 rfl (by rw [info139, sA_size])) rfl ⟨rfl, ?_⟩
      exact below_setRow H1.out (Nat.le_refl _) _
end Go.Proofs.YthglciccejholaaDoor
end
section
/- Package dfa. -/
namespace Go.Proofs.YthglciccejholaaDoor
set_option linter.unusedSimpArgs false
set_option linter.unusedVariables false
set_option maxRecDepth 100000
open Go.RowKit
/- empty. -/
def noS : Nat → Bool := fun _ => false
theorem built139 : Tryd.prog.built 139 [] = some (Array.replicate 64 (.int .u64 0)) := by kernel_rfl
theorem wpList_build_S {ops : Array Oper} {rest : List Oper} {op : Oper} {a : Act} {w : World} {Q : Exit → Act → World → Prop} (hgd : op.guard = none) (ho : op.op = .build 139 #[])
    (h : wpList Tryd.prog ops Q rest (a.put op.dst (sV noS)) w) : wpList Tryd.prog ops Q (op :: rest) a w := by
  have e : ∀ f : Nat × Operand → Nat × Value, (Array.map f #[]).toList = [] := fun f => by simp
  have e2 : sV noS = .agg (Array.replicate 64 (.int .u64 0)) := by unfold sV noS; rw [sA_no]
  rw [e2] at h
  refine wpList_build hgd 139 #[] ho ?_ ?_
  · rw [e, built139]; rfl
  · rw [e, built139]; exact h
theorem own_take0 {y : World} {B : Nat} {sl : Value} {n : Nat} {xs : List Value} (h : y.ownsRow B 3 1 sl n xs) : ∃ p c, sl = .slice p n c ∧ y.ownsRow B 3 1 (.slice p 0 c) 0 [] ∧ (Value.slice p 0 c).ownBlock = sl.ownBlock := by
  rcases h.2 with ⟨rfl, h1⟩ | ⟨g, cap, cur, rfl, h1, h2, h3, h4, h5, h6⟩
  · have e : n = 0 := by have := h.1; subst h1; simp at this; omega
    subst e
    exact ⟨_, _, rfl, ⟨by simp, .inl ⟨rfl, rfl⟩⟩, rfl⟩
  · exact ⟨_, _, rfl, ⟨by simp, .inr ⟨g, cap, cur, rfl, h1, h2, by omega, h4, by omega, by simp⟩⟩, rfl⟩
theorem FRow.all {R0 R : Array Value} {o : Nat} {la : List Nat} {sl : Value} (h : FRow R0 R o la sl) (l : List Nat) : FRow R0 (putA R o (sA (mb l)).toList) o l sl := by
  have hsz := (Array.getElem?_eq_some_iff.1 h.ls).1
  have hl : (sA (mb l)).toList.length = 64 := by simp [sA_size]
  refine ⟨by rw [putA_size]; exact h.sz, fun j hj => ?_, fun i hi => ?_, ?_⟩
  · rw [putA_get _ _ _ _ (by rw [hl]; omega), if_neg (by rw [hl]; omega)]; exact h.out j hj
  · rw [putA_get _ _ _ _ (by rw [hl]; omega), if_pos (by rw [hl]; omega), show o + i - o = i by omega, Array.getElem?_toList, sA_get _ hi]
  · rw [putA_get _ _ _ _ (by rw [hl]; omega), if_neg (by rw [hl]; omega)]; exact h.ls
variable {D : Nat → Prop} {B : Nat} {w0 y : World} {F o T : Nat} {R0 : Array Value} {la l : List Nat} {sl : Value}
theorem FS.keep {y' : World} (h : FS D B w0 y F o T R0 la l sl) {la' : List Nat} (R' : Array Value) (hR' : y'.heap[F]? = some (.cells R' T)) (hr : FRow R0 R' o la' sl) (hb : Below B w0 y') (hs : y'.heap.size = y.heap.size) (ho : ∀ z, z ≠ F → y'.heap[z]? = y.heap[z]?)
    (hos : y'.os = y.os) (ht : y'.tape = y.tape) (hou : y'.output = y.output) : FS D B w0 y' F o T R0 la' l sl := by
  refine ⟨hb, ⟨R', hR', hr⟩, ?_, h.hF, h.sF, by rw [hs]; exact h.sz, fun b hd => (ho b (fun e => h.dF (e ▸ hd))).trans (h.kp b hd), h.dF, h.dS, fun b hd => by rw [hs]; exact h.dl b hd⟩
  refine World.ownsRow.kept h.row (row := some F) ⟨hos, ht, hou, by omega, fun k hk hne => ho k (fun e => hne (by rw [e]))⟩ ?_
  by_cases hp : sl.ownBlock = none
  · exact .inl hp
  · exact .inr h.sF
theorem setCells_rest (b : Nat) : ∀ (vs : List Value) (o : Nat) (w : World), (w.setCells b o vs).os = w.os ∧ (w.setCells b o vs).tape = w.tape ∧ (w.setCells b o vs).output = w.output
  | [], _, _ => ⟨rfl, rfl, rfl⟩
  | v :: r, o, w => by
    obtain ⟨h1, h2, h3⟩ := setCells_rest b r (o + 1) (w.setCell ⟨b, o, none⟩ v)
    exact ⟨h1, h2, h3⟩
theorem FS.all (h : FS D B w0 y F o T R0 la l sl) (l' : List Nat) : FS D B w0 (y.setCells F o (sA (mb l')).toList) F o T R0 l' l sl := by
  obtain ⟨R, hR, hr⟩ := h.f
  obtain ⟨h1, h2, h3⟩ := setCells_rest F (sA (mb l')).toList o y
  exact h.keep _ (setCells_heap _ o y R hR) (hr.all l') (setCells_below h.hF _ _ _ h.bel) (setCells_size _ _ _) (fun z hz => setCells_other hz _ _ _) h1 h2 h3
theorem FS.there (h : FS D B w0 y F o T R0 la l sl) : y.there F o 64 := fun j hj => ⟨by rw [h.sw j hj]; rfl, h.fz _⟩
theorem mb_nil : mb [] = noS := by funext x; simp [mb, noS]
set_option maxHeartbeats 4000000 in
theorem emptyS_any (h : FS D B w0 y F o T R0 la l sl) : Calls Tryd.prog 123 #[.pointer (some ⟨F, o, none⟩)] y fun e y' => e = .returned (.tuple #[]) ∧ ∃ sl', FS D B w0 y' F o T R0 [] [] sl' := by
  have H := Lib.hid h
  have HT := Lib.hid h.there
  have H1 := Lib.hid (h.all [])
  rw [mb_nil] at H1
  clear h
  go_enter Tryd.func123, Tryd.ntmps123
  go_upto_region 0 with fail
  refine wp_region_list ?_
  refine wpList_plain rfl fun K hK => ?_
  have hK2 := Lib.hid hK
  clear hK
  go_wp2_with fail
  refine hK2.out _ _ ?_
  clear hK2 K
  refine wpList_build_S rfl rfl ?_
  simp only [Act.put, List.setIfInBounds_toArray, List.set_cons_succ, List.set_cons_zero]
  refine wpList_plain rfl fun K hK => ?_
  have hK2 := Lib.hid hK
  clear hK
  go_wp2_with fail
  refine hK2.out _ _ ?_
  clear hK2 K
  refine wpList_plain rfl fun K hK => ?_
  have hK2 := Lib.hid hK
  clear hK
  go_wp2_with fail
  refine hK2.out _ _ ?_
  clear hK2 K
  refine wpList_store_mid rfl 139 (.tmp 5) (.tmp 3) rfl F o (sA noS) rfl rfl (by rw [sA_size]; exact HT.out) (by rw [info139, sA_size]) (sA_one _) ?_
  simp only [Act.put]
  refine wpList_nil ?_
  refine at_worldQ (fun z => FS D B w0 z F o T R0 [] l sl) H1.out fun z hz => ?_
  obtain ⟨p, c, rfl, hrow, hown⟩ := own_take0 hz.row
  have H2 := Lib.hid hz
  have HR := Lib.hid hrow
  have HO := Lib.hid hown
  have c1 : z.cell? ⟨F, o + 64, none⟩ = some (.slice p l.length c) := hz.cl
  have f1 : z.frozen? ⟨F, o + 64, none⟩ = false := hz.fz _
  clear hz hrow hown HT H1 H
  go_wp2_with fail
  go_end0
  refine ⟨rfl, .slice p 0 c, ?_⟩
  have h := H2.out
  obtain ⟨R, hR, hr⟩ := h.f
  refine ⟨h.bel.setCell (p := ⟨F, o + 64, none⟩) h.hF _, ⟨_, heap_setCell_same z F (o + 64) R T _ hR, hr.sl _⟩, ?_, h.hF, by rw [HO.out]; exact h.sF, by simpa using h.sz, fun b hb => (heap_setCell_other z ⟨F, o + 64, none⟩ b _ (fun e => h.dF (by cases (show b = F from e); exact hb))).trans (h.kp b hb), h.dF, fun g hg => h.dS g (by rw [← HO.out]; exact hg), fun b hb => by simpa using h.dl b hb⟩
  refine World.ownsRow.kept HR.out (row := some F) ⟨rfl, rfl, rfl, by simp, fun k hk hne => heap_setCell_other z _ k _ (fun e => hne (by rw [e]))⟩ ?_
  by_cases hp : (Value.slice p 0 c).ownBlock = none
  · exact .inl hp
  · exact .inr (by rw [HO.out]; exact h.sF)
end Go.Proofs.YthglciccejholaaDoor
end
