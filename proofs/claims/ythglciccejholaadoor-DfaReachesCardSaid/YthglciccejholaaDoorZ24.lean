/- Texts of package regs, one behind the other. -/
import Derived.Test.YthglciccejholaaDoorProg
import Derived.Test.YthglciccejholaaDoorZ23
import Derived.WalkKit
import Derived.Maps.OwnSet
import Derived.Maps.OwnOps
import Derived.Maps.Own
import Derived.DeepKeys5
import Derived.BigFrame
import Derived.WalkMore
import Derived.ScopeJumps
import Derived.StillTailTactics
import Derived.Stop.BytesEq
import Derived.WalkLawsBesides
import Derived.WalkSpells
import Derived.Outline
import Derived.Lib.Walk
import Derived.Lib.Hide
import Derived.Lib.Slices
import Derived.Lib.Strings
import Derived.RegionTactic
import Derived.LoopTactic
import Derived.Below
import Derived.IntWalk
import Derived.Deep.QuietTactic
import Derived.BigQuiet
import Derived.Deep.MidRow
import Derived.Maps.AppendAt
import Derived.Laws.Rows
import Derived.Laws.Tables
import Derived.Deep.WholeRow
import Derived.Deep.Cut
import Derived.Deep.CutRange
import Derived.Lib.SliceRun
import Derived.Laws.MakeOwn
import Derived.Deep.RegionLaw
import Derived.Deep.RegionLawGrows
import Derived.Deep.RegionHeld3
import Derived.RegionCalls
import Derived.Deep.RegionWith
import Derived.Deep.Light
import Derived.Laws.CopyOwn
import Derived.Laws.ResultCell
import Derived.RangeFuncNested
import Derived.RangeFuncBound
import Derived.RangeFuncCalls
import Derived.RangeFuncLeaves
import Derived.RangeFuncBox
import Derived.Shelf.Abstract
import Derived.Shelf.RegionOpen
import Derived.OwnWalkIn
import Derived.TacticsInMore
import Derived.LoopNIn
import Derived.LoopIn
section
/- Package dfa. -/
namespace Go.Proofs.YthglciccejholaaDoor
set_option linter.unusedSimpArgs false
set_option linter.unusedVariables false
set_option maxRecDepth 100000
open Go.RowKit
/- Sets compared. -/
open Go.Maps
/-- A set's key. -/
def kS (f : Nat → Bool) : List UInt8 := keyBytes (litsS f)
theorem kS_iff {f g : Nat → Bool} : kS f = kS g ↔ ∀ x, x < 4096 → f x = g x := by
  constructor
  · intro h x hx; exact keyS_inj h hx
  · intro h
    have e : litsS f = litsS g := by
      unfold litsS
      refine List.map_congr_left fun i hi => ?_
      have hi : i < 64 := by simpa using hi
      rw [W_congr i (fun k hk => h _ (by omega))]
    unfold kS; rw [e]
def eqS (f g : Nat → Bool) : Bool := decide (kS f = kS g)
theorem keyAt139 : Tryd.prog.keyTypeAt 3 139 = true := by kernel_rfl
theorem wide139 : (match Tryd.prog.underlying 139 with | some (.array _ _) | some (.struct _) => true | _ => false) = true := by kernel_rfl
theorem run_eq_agg {xs ys : Array Value} {r : Bool} {w : World} (h : (Op.equal 139 (.agg xs) (.agg ys)).run Tryd.prog w = .ok r w) : (binOp .eql 139 (.agg xs) (.agg ys)).run Tryd.prog w = .ok (.bool r) w := by
  simp only [binOp]
  simp [h, Result.andThen]
theorem run_eqS (f g : Nat → Bool) (w : World) : (binOp .eql 139 (sV f) (sV g)).run Tryd.prog w = .ok (.bool (eqS f g)) w := by
  obtain ⟨r, hr, hiff⟩ := run_equal_deep (P := Tryd.prog) w (m := 3) (by omega) keyAt139 wide139 (keyS f) (keyS g)
  have e : r = eqS f g := by
    unfold eqS
    rw [Bool.eq_iff_iff, hiff, decide_eq_true_eq]
    unfold kS
    exact ⟨fun h => by injection h, fun h => by rw [h]⟩
  rw [← e]
  exact run_eq_agg hr
theorem guard139 (x y : Operand) (xs ys : Array Value) (w : World) : (eqGuard .eql 139 x y (.agg xs) (.agg ys)).run Tryd.prog w = .ok () w := by
  have h : Tryd.prog.eqGuardType Tryd.prog.depth 139 = false := by kernel_rfl
  simp [eqGuard, h, go_sem]
theorem guardS (x y : Operand) (f g : Nat → Bool) (w : World) : (eqGuard .eql 139 x y (sV f) (sV g)).run Tryd.prog w = .ok () w := guard139 x y _ _ w
theorem run_build139 (w : World) : (Instr.build 139 #[]).run Tryd.prog w = .ok (sV noS) w := by
  have e2 : sV noS = .agg (Array.replicate 64 (.int .u64 0)) := by unfold sV noS; rw [sA_no]
  rw [e2]; exact run_build w 139 #[] _ built139
set_option maxHeartbeats 8000000 in
/-- A set that is not alive has no number. -/
theorem number_dead {w : World} {bb : Nat} {f lv : Nat → Bool} (hf : SW w bb 326 f) (hl : SW w bb 2 lv) (hd : ∀ x, x < 4096 → (f x && lv x) = false) :
    Calls Tryd.prog 118 #[.pointer (some ⟨bb, 0, none⟩)] w fun e w' => e = .returned (.int .i64 (-1)) ∧ Below w.heap.size w w' := by
  have hm := Lib.hid (meet_any hf hl)
  have hmd : ∀ y : World, Below w.heap.size w y → Calls Tryd.prog 124 #[.pointer (some ⟨bb, 326, none⟩), .pointer (some ⟨bb, 2, none⟩)] y fun e w' => e = .returned (sV fun x => f x && lv x) ∧ Below y.heap.size y w' := fun y hb => meet_any (hf.same (hb.block _ hf.lt)) (hl.same (hb.block _ hl.lt))
  have he : eqS (fun x => f x && lv x) noS = true := by
    unfold eqS; rw [decide_eq_true_eq, kS_iff]; intro x hx; rw [hd x hx]; rfl
  have hre := fun z => run_eqS (fun x => f x && lv x) noS z
  rw [he] at hre
  have hgu := fun x y z => guardS x y (fun x => f x && lv x) noS z
  have hbu := fun z => run_build139 z
  generalize hzv : sV noS = zv at hre hgu hbu
  obtain ⟨mv, hmv⟩ : ∃ mv, (sV fun x => f x && lv x) = mv := ⟨_, rfl⟩
  rw [hmv] at hre hgu hmd
  have HM := Lib.hid hmd
  have HRE := Lib.hid hre
  have HGU := Lib.hid hgu
  have HBU := Lib.hid hbu
  clear hzv hmv he hbu
  clear hm hmd hre hgu hf hl
  go_enter Tryd.func118, Tryd.ntmps118
  go_upto_region 1 with fail
  refine wp_region_held_drew (S := fun v => Below w.heap.size w v) (by kernel_rfl) ((Below.refl _ _).drew) (fun hHeld => ?_)
  refine wpAnyH_take (i := 0) (v := (.pointer (some ⟨bb, 0, none⟩))) rfl (by kernel_rfl) (by kernel_rfl) (by kernel_rfl) (fun _ _ _ h => h) (Or.inl ⟨by rfl, by (intro w hSw; (try dsimp only at hSw); go_simp)⟩) hHeld ?_
  (try simp only [Act.put, List.getElem_toArray, List.getElem_cons_zero, List.getElem_cons_succ, List.setIfInBounds_toArray, List.set_cons_zero, List.set_cons_succ])
  refine wpAnyH_take (i := 1) (v := (.pointer (some ⟨bb, 0, none⟩))) rfl (by kernel_rfl) (by kernel_rfl) (by kernel_rfl) (fun _ _ _ h => h) (Or.inl ⟨by rfl, by (intro w hSw; (try dsimp only at hSw); go_simp)⟩) hHeld ?_
  (try simp only [Act.put, List.getElem_toArray, List.getElem_cons_zero, List.getElem_cons_succ, List.setIfInBounds_toArray, List.set_cons_zero, List.set_cons_succ])
  refine wpAnyH_take (i := 2) (v := (.pointer (some ⟨bb, 326, none⟩))) rfl (by kernel_rfl) (by kernel_rfl) (by kernel_rfl) (fun _ _ _ h => h) (Or.inl ⟨by rfl, by (intro w hSw; (try dsimp only at hSw); go_simp)⟩) hHeld ?_
  (try simp only [Act.put, List.getElem_toArray, List.getElem_cons_zero, List.getElem_cons_succ, List.setIfInBounds_toArray, List.set_cons_zero, List.set_cons_succ])
  refine wpAnyH_take (i := 3) (v := (.pointer (some ⟨bb, 326, none⟩))) rfl (by kernel_rfl) (by kernel_rfl) (by kernel_rfl) (fun _ _ _ h => h) (Or.inl ⟨by rfl, by (intro w hSw; (try dsimp only at hSw); go_simp)⟩) hHeld ?_
  (try simp only [Act.put, List.getElem_toArray, List.getElem_cons_zero, List.getElem_cons_succ, List.setIfInBounds_toArray, List.set_cons_zero, List.set_cons_succ])
  refine wpAnyH_take (i := 4) (v := (.pointer (some ⟨bb, 0, none⟩))) rfl (by kernel_rfl) (by kernel_rfl) (by kernel_rfl) (fun _ _ _ h => h) (Or.inl ⟨by rfl, by (intro w hSw; (try dsimp only at hSw); go_simp)⟩) hHeld ?_
  (try simp only [Act.put, List.getElem_toArray, List.getElem_cons_zero, List.getElem_cons_succ, List.setIfInBounds_toArray, List.set_cons_zero, List.set_cons_succ])
  refine wpAnyH_take (i := 5) (v := (.pointer (some ⟨bb, 0, none⟩))) rfl (by kernel_rfl) (by kernel_rfl) (by kernel_rfl) (fun _ _ _ h => h) (Or.inl ⟨by rfl, by (intro w hSw; (try dsimp only at hSw); go_simp)⟩) hHeld ?_
  (try simp only [Act.put, List.getElem_toArray, List.getElem_cons_zero, List.getElem_cons_succ, List.setIfInBounds_toArray, List.set_cons_zero, List.set_cons_succ])
  refine wpAnyH_take (i := 6) (v := (.pointer (some ⟨bb, 2, none⟩))) rfl (by kernel_rfl) (by kernel_rfl) (by kernel_rfl) (fun _ _ _ h => h) (Or.inl ⟨by rfl, by (intro w hSw; (try dsimp only at hSw); go_simp)⟩) hHeld ?_
  (try simp only [Act.put, List.getElem_toArray, List.getElem_cons_zero, List.getElem_cons_succ, List.setIfInBounds_toArray, List.set_cons_zero, List.set_cons_succ])
  refine wpAnyH_take (i := 8) (v := zv) rfl (by kernel_rfl) (by kernel_rfl) (by kernel_rfl) (fun _ _ _ h => h) (Or.inl ⟨by rfl, by (intro w hSw; simp only [execOp]; simp [HBU.out, Result.andThen])⟩) hHeld ?_
  (try simp only [Act.put, List.getElem_toArray, List.getElem_cons_zero, List.getElem_cons_succ, List.setIfInBounds_toArray, List.set_cons_zero, List.set_cons_succ])
  refine wpAnyH_ready (rs := [7]) (by kernel_rfl) (by simp) ?_
  refine AllReadyH.cons rfl (fun K hK => ?_) (AllReadyH.nil)
  rw [if_pos (by rfl)]
  go_wp2_with fail
  refine (HM.out _ (Below.refl _ _).drew).mono ?_
  rintro _ w2 ⟨rfl, hb⟩
  have hb2 : Below w.heap.size w w2 := ((Below.refl _ _).drew).trans hb
  have HB := Lib.hid hb2
  clear hb HM
  refine hK.out _ _ hb2 (fun hHeld2 => ?_)
  clear hHeld hK hb2
  have hHeld := hHeld2
  clear hHeld2
  (try simp only [Act.put, List.getElem_toArray, List.getElem_cons_zero, List.getElem_cons_succ, List.setIfInBounds_toArray, List.set_cons_zero, List.set_cons_succ])
  refine wpAnyH_take (i := 9) (v := .bool true) rfl (by kernel_rfl) (by kernel_rfl) (by kernel_rfl) (fun _ _ _ h => h) (Or.inl ⟨by rfl, by (intro w hSw; have h1 := HGU.out; have h2 := HRE.out; go_simp)⟩) hHeld ?_
  (try simp only [Act.put, List.getElem_toArray, List.getElem_cons_zero, List.getElem_cons_succ, List.setIfInBounds_toArray, List.set_cons_zero, List.set_cons_succ])
  refine wpAnyH_done (by kernel_rfl) ?_ _
  go_wp2_with fail
  go_ret
  exact ⟨rfl, HB.out⟩
end Go.Proofs.YthglciccejholaaDoor
end
section
/- Package dfa. -/
namespace Go.Proofs.YthglciccejholaaDoor
set_option linter.unusedSimpArgs false
set_option linter.unusedVariables false
set_option maxRecDepth 100000
open Go.RowKit Go.Shelf
/- A front, told anew from another world. -/
section
variable {D : Nat → Prop} {B : Nat} {w0 y z : World} {F o T : Nat} {R0 : Array Value} {la l : List Nat} {sl : Value}
theorem FS.rlt (h : FS D B w0 y F o T R0 la l sl) {g : Nat} (hg : sl.ownBlock = some g) : B ≤ g ∧ g < y.heap.size := World.ownsRow.lt h.row g hg
theorem row_below {w w' : World} {e : TypeId} {size n : Nat} {v : Value} {xs : List Value} (h : w.ownsRow B e size v n xs) (hb : Below w.heap.size w w') : w'.ownsRow B e size v n xs := by
  refine World.ownsRow.kept h (row := none) ⟨hb.os, hb.tape, hb.output, hb.size, fun k hk _ => hb.block k hk⟩ ?_
  by_cases hp : v.ownBlock = none
  · exact .inl hp
  · exact .inr (fun e => hp e)
/-- The same front, held against a later world, with what is new kept too. -/
theorem FS.rebase (h : FS D B w0 y F o T R0 la l sl) (hb : Below y.heap.size y z) : FS (fun b => D b ∨ (y.heap.size ≤ b ∧ b < z.heap.size)) B z z F o T R0 la l sl := by
  have hlt := h.lt
  obtain ⟨R, hR, hr⟩ := h.f
  refine ⟨Below.refl _ _, ⟨R, (hb.block F hlt).trans hR, hr⟩, row_below h.row hb, h.hF, h.sF, Nat.le_trans h.sz hb.size, fun _ _ => rfl, ?_, ?_, ?_⟩
  · rintro (hd | hd)
    · exact h.dF hd
    · omega
  · rintro g hg (hd | hd)
    · exact h.dS g hg hd
    · have := (h.rlt hg).2; omega
  · rintro b (hd | hd)
    · exact Nat.lt_of_lt_of_le (h.dl b hd) hb.size
    · exact hd.2
/-- .. and back. -/
theorem FS.back {v : World} {la' l' : List Nat} {sl' : Value} (h : FS D B w0 y F o T R0 la l sl) (hb : Below y.heap.size y z) (h2 : FS (fun b => D b ∨ (y.heap.size ≤ b ∧ b < z.heap.size)) B z v F o T R0 la' l' sl') : FS D B w0 v F o T R0 la' l' sl' := by
  have hz : Below B y z := hb.mono h.sz
  refine ⟨h.bel.trans (hz.trans h2.bel), h2.f, h2.row, h2.hF, h2.sF, h2.sz, fun b hd => ?_, fun hd => h2.dF (.inl hd), fun g hg hd => h2.dS g hg (.inl hd), fun b hd => h2.dl b (.inl hd)⟩
  exact (h2.kp b (.inl hd)).trans ((hb.block b (h.dl b hd)).trans (h.kp b hd))
/-- What is no cells may turn. -/
theorem FS.turn {v : World} {row : Option Nat} (h : FS D B w0 y F o T R0 la l sl) (hg : y.grownBy v row) (hB : ∀ r, row = some r → B ≤ r ∧ ¬ D r ∧ ∃ ob : Obj, y.heap[r]? = some ob ∧ ob.isCells = false) : FS D B w0 v F o T R0 la l sl := by
  have hlt := h.lt
  obtain ⟨R, hR, hr⟩ := h.f
  have hne : ∀ b cs t fz, y.heap[b]? = some (.cells cs t fz) → some b ≠ row := by
    intro b cs t fz hc e
    obtain ⟨-, -, ob, ho, hoc⟩ := hB b e.symm
    rw [hc] at ho
    cases ho
    cases hoc
  refine ⟨below_grown h.bel hg (fun r e => (hB r e).1) h.sz, ⟨R, (hg.block F hlt (hne F _ _ _ hR)).trans hR, hr⟩, ?_, h.hF, h.sF, Nat.le_trans h.sz hg.size, fun b hd => (hg.block b (h.dl b hd) (fun e => (hB b e.symm).2.1 hd)).trans (h.kp b hd), h.dF, h.dS, fun b hd => Nat.lt_of_lt_of_le (h.dl b hd) hg.size⟩
  refine World.ownsRow.kept h.row hg ?_
  cases hp : sl.ownBlock with
  | none => exact .inl rfl
  | some g =>
    refine .inr ?_
    rcases h.row.2 with ⟨e, _⟩ | ⟨g', cap, cur, e, h1, h2, _⟩
    · rw [e] at hp; cases hp
    · rw [e] at hp; cases hp
      exact hne _ _ _ _ h2
end
end Go.Proofs.YthglciccejholaaDoor
end
