/- Package dfa. -/
import Derived.Test.YthglciccejholaaDoorProg
import Derived.Test.YthglciccejholaaDoorGd
import Derived.Test.YthglciccejholaaDoorV18
import Derived.Great.BuildSlice
import Derived.WalkKit
import Derived.Maps.OwnSet
import Derived.Maps.OwnOps
import Derived.Maps.Own
import Derived.DeepKeys5
import Derived.BigFrame
import Derived.WalkMore
import Derived.ScopeJumps
import Derived.StillTailTactics
import Derived.Stop.BytesEq
import Derived.WalkLawsBesides
import Derived.WalkSpells
import Derived.Outline
import Derived.Lib.Walk
import Derived.Lib.Hide
import Derived.Lib.Slices
import Derived.Lib.Strings
import Derived.RegionTactic
import Derived.LoopTactic
import Derived.Below
import Derived.IntWalk
import Derived.Deep.QuietTactic
import Derived.BigQuiet
import Derived.Deep.MidRow
import Derived.Maps.AppendAt
import Derived.Laws.Rows
import Derived.Laws.Tables
import Derived.Deep.WholeRow
import Derived.Deep.Cut
import Derived.Deep.CutRange
import Derived.Lib.SliceRun
import Derived.Laws.MakeOwn
import Derived.Deep.RegionLaw
import Derived.Deep.RegionLawGrows
import Derived.Deep.RegionHeld3
import Derived.RegionCalls
import Derived.Deep.RegionWith
import Derived.Deep.Light
import Derived.Laws.CopyOwn
import Derived.Laws.ResultCell
namespace Go.Proofs.YthglciccejholaaDoor
set_option linter.unusedSimpArgs false
set_option linter.unusedVariables false
set_option maxRecDepth 100000
open Go.RowKit
/- number. -/
open Go.Maps
theorem lookN {z : World} {M n : Nat} {E : DataW Unit} {L : List (List UInt8)} (h : z.ownsMap Tryd.prog 139 (plainElem (H := Unit) Tryd.prog 3) M n E) (hk : MS E L) (f : Nat → Bool) (hin : ¬ kS f ∈ L) :
    (Instr.lookup 137 (.map (some M)) (sV f) true).run Tryd.prog z = .ok (.tuple #[.int .i64 0, .bool false]) z := by
  obtain ⟨v, ps, hrun, hv⟩ := h.look_ok keyedS Tryd.underlying137 (Tryd.zeroValue3 z) (zd := .lit (.int .i64 0)) (zp := []) (plainElem_int Tryd.underlying3 (by decide)) (keyS f)
  obtain ⟨c, rfl, hc, hwc⟩ := plainElem_int_inv Tryd.underlying3 hv
  have h2 := congrArg Prod.fst hc
  have h3 : E.atKey (.string (kS f)) (.lit (.int .i64 0)) = .lit (.int .i64 c) := h2
  have h4 : Maps.has E (.string (kS f)) = false := by rw [hk.has _ trivial]; simp [hin]
  rw [atKey_of_not_has h4] at h3
  injection h3 with h3
  injection h3 with _ h3
  rw [hrun, ← h3]
  have h5 : Maps.has E (.string (keyBytes (litsS f))) = false := h4
  rw [h5]
set_option maxHeartbeats 8000000 in
theorem number_new {w : World} {bb M n : Nat} {E : DataW Unit} {L : List (List UInt8)} {f lv : Nat → Bool} (hf : SW w bb 326 f) (hl : SW w bb 2 lv) (hd : ∃ x, x < 4096 ∧ (f x && lv x) = true)
    (c6 : w.cell? ⟨bb, 324, none⟩ = some (.map (some M))) (hown : w.ownsMap Tryd.prog 139 (plainElem (H := Unit) Tryd.prog 3) M n E) (hk : MS E L) (hin : ¬ kS f ∈ L) {r0 : Int} {Q : World → Prop}
    (hadd : ∀ z, Below w.heap.size w z → Calls Tryd.prog 97 #[.pointer (some ⟨bb, 0, none⟩)] z fun e y' => e = .returned (.int .i64 r0) ∧ Q y') :
    Calls Tryd.prog 118 #[.pointer (some ⟨bb, 0, none⟩)] w fun e w' => e = .returned (.int .i64 r0) ∧ Q w' := by
  have HADD := Lib.hid hadd
  clear hadd
  have hmd : ∀ y : World, Below w.heap.size w y → Calls Tryd.prog 124 #[.pointer (some ⟨bb, 326, none⟩), .pointer (some ⟨bb, 2, none⟩)] y fun e w' => e = .returned (sV fun x => f x && lv x) ∧ Below y.heap.size y w' := fun y hb => meet_any (hf.same (hb.block _ hf.lt)) (hl.same (hb.block _ hl.lt))
  have he : eqS (fun x => f x && lv x) noS = false := by
    unfold eqS; rw [decide_eq_false_iff_not, kS_iff]; intro h
    obtain ⟨x, hx, hx2⟩ := hd
    have := h x hx
    simp only [noS] at this
    rw [this] at hx2; cases hx2
  have hre := fun z => run_eqS (fun x => f x && lv x) noS z
  rw [he] at hre
  have hgu := fun x y z => guardS x y (fun x => f x && lv x) noS z
  have hbu := fun z => run_build139 z
  generalize hzv : sV noS = zv at hre hgu hbu
  obtain ⟨mv, hmv⟩ : ∃ mv, (sV fun x => f x && lv x) = mv := ⟨_, rfl⟩
  rw [hmv] at hre hgu hmd
  have HM := Lib.hid hmd
  have HRE := Lib.hid hre
  have HGU := Lib.hid hgu
  have HBU := Lib.hid hbu
  clear hzv hmv he hbu hmd hre hgu
  obtain ⟨fv, hfv⟩ : ∃ fv, sV f = fv := ⟨_, rfl⟩
  have hlk : ∀ z : World, Below w.heap.size w z → (Instr.lookup 137 (.map (some M)) fv true).run Tryd.prog z = .ok (.tuple #[.int .i64 0, .bool false]) z := fun z hb => by
    rw [← hfv]; exact lookN (ownsMap_up hown hb) hk f hin
  have hc6 : ∀ z : World, Below w.heap.size w z → z.cell? ⟨bb, 324, none⟩ = some (.map (some M)) := fun z hb => (cell_same (hb.block bb (blk_lt c6)) _).trans c6
  have hsw : ∀ z : World, Below w.heap.size w z → SW z bb 326 f := fun z hb => hf.same (hb.block _ hf.lt)
  have HLK := Lib.hid hlk
  have HC6 := Lib.hid hc6
  have HSW := Lib.hid hsw
  have HFV := Lib.hid hfv
  clear hlk hc6 hsw hfv hown hk hin c6 hf hl hd
  go_enter Tryd.func118, Tryd.ntmps118
  go_upto_region 1 with fail
  refine wp_region_held_drew (S := fun v => Below w.heap.size w v) (by kernel_rfl) ((Below.refl _ _).drew) (fun hHeld => ?_)
  refine wpAnyH_take (i := 0) (v := (.pointer (some ⟨bb, 0, none⟩))) rfl (by kernel_rfl) (by kernel_rfl) (by kernel_rfl) (fun _ _ _ h => h) (Or.inl ⟨by rfl, by (intro w hSw; (try dsimp only at hSw); go_simp)⟩) hHeld ?_
  (try simp only [Act.put, List.getElem_toArray, List.getElem_cons_zero, List.getElem_cons_succ, List.setIfInBounds_toArray, List.set_cons_zero, List.set_cons_succ])
  refine wpAnyH_take (i := 1) (v := (.pointer (some ⟨bb, 0, none⟩))) rfl (by kernel_rfl) (by kernel_rfl) (by kernel_rfl) (fun _ _ _ h => h) (Or.inl ⟨by rfl, by (intro w hSw; (try dsimp only at hSw); go_simp)⟩) hHeld ?_
  (try simp only [Act.put, List.getElem_toArray, List.getElem_cons_zero, List.getElem_cons_succ, List.setIfInBounds_toArray, List.set_cons_zero, List.set_cons_succ])
  refine wpAnyH_take (i := 2) (v := (.pointer (some ⟨bb, 326, none⟩))) rfl (by kernel_rfl) (by kernel_rfl) (by kernel_rfl) (fun _ _ _ h => h) (Or.inl ⟨by rfl, by (intro w hSw; (try dsimp only at hSw); go_simp)⟩) hHeld ?_
  (try simp only [Act.put, List.getElem_toArray, List.getElem_cons_zero, List.getElem_cons_succ, List.setIfInBounds_toArray, List.set_cons_zero, List.set_cons_succ])
  refine wpAnyH_take (i := 3) (v := (.pointer (some ⟨bb, 326, none⟩))) rfl (by kernel_rfl) (by kernel_rfl) (by kernel_rfl) (fun _ _ _ h => h) (Or.inl ⟨by rfl, by (intro w hSw; (try dsimp only at hSw); go_simp)⟩) hHeld ?_
  (try simp only [Act.put, List.getElem_toArray, List.getElem_cons_zero, List.getElem_cons_succ, List.setIfInBounds_toArray, List.set_cons_zero, List.set_cons_succ])
  refine wpAnyH_take (i := 4) (v := (.pointer (some ⟨bb, 0, none⟩))) rfl (by kernel_rfl) (by kernel_rfl) (by kernel_rfl) (fun _ _ _ h => h) (Or.inl ⟨by rfl, by (intro w hSw; (try dsimp only at hSw); go_simp)⟩) hHeld ?_
  (try simp only [Act.put, List.getElem_toArray, List.getElem_cons_zero, List.getElem_cons_succ, List.setIfInBounds_toArray, List.set_cons_zero, List.set_cons_succ])
  refine wpAnyH_take (i := 5) (v := (.pointer (some ⟨bb, 0, none⟩))) rfl (by kernel_rfl) (by kernel_rfl) (by kernel_rfl) (fun _ _ _ h => h) (Or.inl ⟨by rfl, by (intro w hSw; (try dsimp only at hSw); go_simp)⟩) hHeld ?_
  (try simp only [Act.put, List.getElem_toArray, List.getElem_cons_zero, List.getElem_cons_succ, List.setIfInBounds_toArray, List.set_cons_zero, List.set_cons_succ])
  refine wpAnyH_take (i := 6) (v := (.pointer (some ⟨bb, 2, none⟩))) rfl (by kernel_rfl) (by kernel_rfl) (by kernel_rfl) (fun _ _ _ h => h) (Or.inl ⟨by rfl, by (intro w hSw; (try dsimp only at hSw); go_simp)⟩) hHeld ?_
  (try simp only [Act.put, List.getElem_toArray, List.getElem_cons_zero, List.getElem_cons_succ, List.setIfInBounds_toArray, List.set_cons_zero, List.set_cons_succ])
  refine wpAnyH_take (i := 8) (v := zv) rfl (by kernel_rfl) (by kernel_rfl) (by kernel_rfl) (fun _ _ _ h => h) (Or.inl ⟨by rfl, by (intro w hSw; simp only [execOp]; simp [HBU.out, Result.andThen])⟩) hHeld ?_
  (try simp only [Act.put, List.getElem_toArray, List.getElem_cons_zero, List.getElem_cons_succ, List.setIfInBounds_toArray, List.set_cons_zero, List.set_cons_succ])
  refine wpAnyH_ready (rs := [7]) (by kernel_rfl) (by simp) ?_
  refine AllReadyH.cons rfl (fun K hK => ?_) (AllReadyH.nil)
  rw [if_pos (by rfl)]
  go_wp2_with fail
  refine (HM.out _ (Below.refl _ _).drew).mono ?_
  rintro _ w2 ⟨rfl, hb⟩
  have hb2 : Below w.heap.size w w2 := ((Below.refl _ _).drew).trans hb
  have HB := Lib.hid hb2
  clear hb HM
  refine hK.out _ _ hb2 (fun hHeld2 => ?_)
  clear hHeld hK hb2
  have hHeld := hHeld2
  clear hHeld2
  (try simp only [Act.put, List.getElem_toArray, List.getElem_cons_zero, List.getElem_cons_succ, List.setIfInBounds_toArray, List.set_cons_zero, List.set_cons_succ])
  refine wpAnyH_take (i := 9) (v := .bool false) rfl (by kernel_rfl) (by kernel_rfl) (by kernel_rfl) (fun _ _ _ h => h) (Or.inl ⟨by rfl, by (intro w hSw; have h1 := HGU.out; have h2 := HRE.out; go_simp)⟩) hHeld ?_
  (try simp only [Act.put, List.getElem_toArray, List.getElem_cons_zero, List.getElem_cons_succ, List.setIfInBounds_toArray, List.set_cons_zero, List.set_cons_succ])
  refine wpAnyH_done (by kernel_rfl) ?_ _
  go_upto_region 3 with fail
  refine wp_region_held_drew (S := fun v => Below w.heap.size w v) (by kernel_rfl) HB.out.drew (fun hHeld => ?_)
  refine wpAnyH_take (i := 0) (v := (.pointer (some ⟨bb, 0, none⟩))) rfl (by kernel_rfl) (by kernel_rfl) (by kernel_rfl) (fun _ _ _ h => h) (Or.inl ⟨by rfl, by (intro w hSw; (try dsimp only at hSw); go_simp)⟩) hHeld ?_
  (try simp only [Act.put, List.getElem_toArray, List.getElem_cons_zero, List.getElem_cons_succ, List.setIfInBounds_toArray, List.set_cons_zero, List.set_cons_succ])
  refine wpAnyH_take (i := 1) (v := (.pointer (some ⟨bb, 0, none⟩))) rfl (by kernel_rfl) (by kernel_rfl) (by kernel_rfl) (fun _ _ _ h => h) (Or.inl ⟨by rfl, by (intro w hSw; (try dsimp only at hSw); go_simp)⟩) hHeld ?_
  (try simp only [Act.put, List.getElem_toArray, List.getElem_cons_zero, List.getElem_cons_succ, List.setIfInBounds_toArray, List.set_cons_zero, List.set_cons_succ])
  refine wpAnyH_take (i := 2) (v := (.pointer (some ⟨bb, 324, none⟩))) rfl (by kernel_rfl) (by kernel_rfl) (by kernel_rfl) (fun _ _ _ h => h) (Or.inl ⟨by rfl, by (intro w hSw; (try dsimp only at hSw); go_simp)⟩) hHeld ?_
  (try simp only [Act.put, List.getElem_toArray, List.getElem_cons_zero, List.getElem_cons_succ, List.setIfInBounds_toArray, List.set_cons_zero, List.set_cons_succ])
  refine wpAnyH_take (i := 3) (v := .map (some M)) rfl (by kernel_rfl) (by kernel_rfl) (by kernel_rfl) (fun _ _ _ h => h) (Or.inl ⟨by rfl, by (intro w hSw; have h1 := HC6.out w hSw; go_simp)⟩) hHeld ?_
  (try simp only [Act.put, List.getElem_toArray, List.getElem_cons_zero, List.getElem_cons_succ, List.setIfInBounds_toArray, List.set_cons_zero, List.set_cons_succ])
  refine wpAnyH_take (i := 4) (v := (.pointer (some ⟨bb, 0, none⟩))) rfl (by kernel_rfl) (by kernel_rfl) (by kernel_rfl) (fun _ _ _ h => h) (Or.inl ⟨by rfl, by (intro w hSw; (try dsimp only at hSw); go_simp)⟩) hHeld ?_
  (try simp only [Act.put, List.getElem_toArray, List.getElem_cons_zero, List.getElem_cons_succ, List.setIfInBounds_toArray, List.set_cons_zero, List.set_cons_succ])
  refine wpAnyH_take (i := 5) (v := (.pointer (some ⟨bb, 0, none⟩))) rfl (by kernel_rfl) (by kernel_rfl) (by kernel_rfl) (fun _ _ _ h => h) (Or.inl ⟨by rfl, by (intro w hSw; (try dsimp only at hSw); go_simp)⟩) hHeld ?_
  (try simp only [Act.put, List.getElem_toArray, List.getElem_cons_zero, List.getElem_cons_succ, List.setIfInBounds_toArray, List.set_cons_zero, List.set_cons_succ])
  refine wpAnyH_take (i := 6) (v := (.pointer (some ⟨bb, 326, none⟩))) rfl (by kernel_rfl) (by kernel_rfl) (by kernel_rfl) (fun _ _ _ h => h) (Or.inl ⟨by rfl, by (intro w hSw; (try dsimp only at hSw); go_simp)⟩) hHeld ?_
  (try simp only [Act.put, List.getElem_toArray, List.getElem_cons_zero, List.getElem_cons_succ, List.setIfInBounds_toArray, List.set_cons_zero, List.set_cons_succ])
  refine wpAnyH_take (i := 7) (v := (.pointer (some ⟨bb, 326, none⟩))) rfl (by kernel_rfl) (by kernel_rfl) (by kernel_rfl) (fun _ _ _ h => h) (Or.inl ⟨by rfl, by (intro w hSw; (try dsimp only at hSw); go_simp)⟩) hHeld ?_
  (try simp only [Act.put, List.getElem_toArray, List.getElem_cons_zero, List.getElem_cons_succ, List.setIfInBounds_toArray, List.set_cons_zero, List.set_cons_succ])
  refine wpAnyH_take (i := 8) (v := fv) rfl (by kernel_rfl) (by kernel_rfl) (by kernel_rfl) (fun _ _ _ h => h) (yieldsIf_load_S (by rfl) (.tmp 23) rfl bb 326 rfl HFV.out (fun v hv => HSW.out v hv)) hHeld ?_
  (try simp only [Act.put, List.getElem_toArray, List.getElem_cons_zero, List.getElem_cons_succ, List.setIfInBounds_toArray, List.set_cons_zero, List.set_cons_succ])
  refine wpAnyH_take (i := 9) (v := .tuple #[.int .i64 0, .bool false]) rfl (by kernel_rfl) (by kernel_rfl) (by kernel_rfl) (fun _ _ _ h => h) (Or.inl ⟨by rfl, by (intro w hSw; have h1 := HLK.out w hSw; go_simp)⟩) hHeld ?_
  (try simp only [Act.put, List.getElem_toArray, List.getElem_cons_zero, List.getElem_cons_succ, List.setIfInBounds_toArray, List.set_cons_zero, List.set_cons_succ])
  refine wpAnyH_take (i := 10) (v := .tuple #[.int .i64 0, .bool false]) rfl (by kernel_rfl) (by kernel_rfl) (by kernel_rfl) (fun _ _ _ h => h) (Or.inl ⟨by rfl, by (intro w hSw; (try dsimp only at hSw); go_simp)⟩) hHeld ?_
  (try simp only [Act.put, List.getElem_toArray, List.getElem_cons_zero, List.getElem_cons_succ, List.setIfInBounds_toArray, List.set_cons_zero, List.set_cons_succ])
  refine wpAnyH_take (i := 11) (v := .int .i64 0) rfl (by kernel_rfl) (by kernel_rfl) (by kernel_rfl) (fun _ _ _ h => h) (Or.inl ⟨by rfl, by (intro w hSw; (try dsimp only at hSw); go_simp)⟩) hHeld ?_
  (try simp only [Act.put, List.getElem_toArray, List.getElem_cons_zero, List.getElem_cons_succ, List.setIfInBounds_toArray, List.set_cons_zero, List.set_cons_succ])
  refine wpAnyH_take (i := 12) (v := .bool false) rfl (by kernel_rfl) (by kernel_rfl) (by kernel_rfl) (fun _ _ _ h => h) (Or.inl ⟨by rfl, by (intro w hSw; (try dsimp only at hSw); go_simp)⟩) hHeld ?_
  (try simp only [Act.put, List.getElem_toArray, List.getElem_cons_zero, List.getElem_cons_succ, List.setIfInBounds_toArray, List.set_cons_zero, List.set_cons_succ])
  refine wpAnyH_take (i := 13) (v := .int .i64 0) rfl (by kernel_rfl) (by kernel_rfl) (by kernel_rfl) (fun _ _ _ h => h) (Or.inl ⟨by rfl, by (intro w hSw; (try dsimp only at hSw); go_simp)⟩) hHeld ?_
  (try simp only [Act.put, List.getElem_toArray, List.getElem_cons_zero, List.getElem_cons_succ, List.setIfInBounds_toArray, List.set_cons_zero, List.set_cons_succ])
  refine wpAnyH_take (i := 14) (v := .bool false) rfl (by kernel_rfl) (by kernel_rfl) (by kernel_rfl) (fun _ _ _ h => h) (Or.inl ⟨by rfl, by (intro w hSw; (try dsimp only at hSw); go_simp)⟩) hHeld ?_
  (try simp only [Act.put, List.getElem_toArray, List.getElem_cons_zero, List.getElem_cons_succ, List.setIfInBounds_toArray, List.set_cons_zero, List.set_cons_succ])
  refine wpAnyH_done (by kernel_rfl) ?_ _
  go_wp2_with fail
  refine (HADD.out _ HB.out.drew).mono ?_
  rintro _ y9 ⟨rfl, h9⟩
  have H9 := Lib.hid h9
  clear h9
  go_wp2_with fail
  go_ret
  exact ⟨rfl, H9.out⟩
/-- The number that a set is told, and the numbered sets behind it. -/
def nmA (lv : Nat → Bool) (l : List Nat) : Bool := l.any lv
def nmI (sets : List (List Nat)) (l : List Nat) : Bool := decide (kS (mb l) ∈ sets.map fun l => kS (mb l))
def nmR (lv : Nat → Bool) (sets : List (List Nat)) (l : List Nat) : Int := if nmA lv l then (if nmI sets l then ((idx (sets.map fun l => kS (mb l)) (kS (mb l)) : Nat) : Int) else (sets.length : Nat)) else -1
def nmS (lv : Nat → Bool) (sets : List (List Nat)) (l : List Nat) : List (List Nat) := if nmA lv l && !nmI sets l then sets ++ [l] else sets
section
variable {K : BK} {X : List It} {sets : List (List Nat)} {zs : List (List Int × Nat)} {M : Nat} {la l : List Nat} {R R0 : Array Value} {sl sv rv : Value} {mo : Obj} {y z : World}
theorem number_bs (h : BS K X sets zs M l l R R0 sl sv rv mo y) (hs : sets.length ≤ 5000) (hl : ∀ x ∈ l, x < 4096) :
    Calls Tryd.prog 118 #[.pointer (some ⟨K.bb, 0, none⟩)] y fun e y' => e = .returned (.int .i64 (nmR K.lv sets l)) ∧ ∃ R' R0' sv' mo', BS K X (nmS K.lv sets l) zs M l l R' R0' sl sv' rv mo' y' := by
  obtain ⟨E, n, hn, hown, hms⟩ := h.map
  have c6 : y.cell? ⟨K.bb, 324, none⟩ = some (.map (some M)) := (h.cell (by omega)).trans h.c324
  unfold nmR nmS
  by_cases ha : nmA K.lv l = true
  · have hd : ∃ x, x < 4096 ∧ (mb l x && K.lv x) = true := by
      obtain ⟨x, hx, hv⟩ := List.any_eq_true.1 ha
      exact ⟨x, hl x hx, by rw [mb_in hx, hv]; rfl⟩
    by_cases hi : nmI sets l = true
    · have hin : kS (mb l) ∈ sets.map fun l => kS (mb l) := of_decide_eq_true hi
      simp only [ha, hi, if_true, Bool.not_true, Bool.and_false]
      refine (number_there h.front h.live hd c6 hown hms hin).mono ?_
      rintro e y' ⟨rfl, hb⟩
      exact ⟨rfl, _, _, _, _, by simpa using h.up hb⟩
    · have hin : ¬ kS (mb l) ∈ sets.map fun l => kS (mb l) := fun hc => hi (decide_eq_true hc)
      have hi : nmI sets l = false := by simpa using hi
      simp only [ha, hi, if_true, Bool.not_false, Bool.and_true, Bool.false_eq_true, if_false]
      exact number_new h.front h.live hd c6 hown hms hin (fun z hb => add_bs (h.up hb) hin hs)
  · have ha : nmA K.lv l = false := by simpa using ha
    simp only [ha, Bool.false_and, Bool.false_eq_true, if_false]
    refine (number_dead h.front h.live fun x _ => ?_).mono ?_
    · cases hm : mb l x with
      | false => rfl
      | true =>
        have hx : x ∈ l := by simpa [mb] using hm
        have := List.any_eq_false.1 ha x hx
        simpa using this
    · rintro e y' ⟨rfl, hb⟩
      exact ⟨rfl, _, _, _, _, h.up hb⟩
/-- A box of one's own beside the builder. -/
theorem Sep.mid5 {B : Nat} {w0 w : World} {a b c d e x : It} {L : List It} (h : Sep B w0 w (x :: a :: b :: c :: d :: e :: L)) : Sep B w0 w (a :: b :: c :: d :: e :: x :: L) :=
  h.perm (List.perm_middle (l₁ := [a, b, c, d, e]) (l₂ := L) (a := x)).symm
theorem Sep.top5 {B : Nat} {w0 w : World} {a b c d e x : It} {L : List It} (h : Sep B w0 w (a :: b :: c :: d :: e :: x :: L)) : Sep B w0 w (x :: a :: b :: c :: d :: e :: L) :=
  h.perm (List.perm_middle (l₁ := [a, b, c, d, e]) (l₂ := L) (a := x))
theorem BS.xin (h : BS K X sets zs M la l R R0 sl sv rv mo y) (o : Obj) : BS K (.box y.heap.size o :: X) sets zs M la l R R0 sl sv rv mo (y.alloc o) :=
  ⟨h.fr, h.sz, h.c0, h.c1, h.c2, h.c66, h.c322, h.c323, h.c324, h.c325, h.mp, fun s hs => (h.by_ s hs).up ((Below.refl _ _).alloc (Nat.le_refl _) o), h.gbC, (h.sep.alloc o).mid5⟩
theorem BS.xput {rb : Nat} {o o' : Obj} (h : BS K (.box rb o :: X) sets zs M la l R R0 sl sv rv mo y) (hg : y.grownBy z (some rb)) (hb : z.heap[rb]? = some o') : BS K (.box rb o' :: X) sets zs M la l R R0 sl sv rv mo z :=
  ⟨h.fr, h.sz, h.c0, h.c1, h.c2, h.c66, h.c322, h.c323, h.c324, h.c325, h.mp, fun s hs => (h.by_ s hs).same (hg.block _ (h.by_ s hs).lt (fun e => by
    obtain ⟨x, hx, he⟩ := h.gbC
    have e : K.gb = rb := by simpa using e
    exact (List.pairwise_cons.1 h.sep.top5.ap).1 x (by simp [hx]) rb rfl (by rw [he, e]))), h.gbC, (h.sep.top5.put hg hb).mid5⟩
theorem BS.xat {rb : Nat} {o : Obj} (h : BS K (.box rb o :: X) sets zs M la l R R0 sl sv rv mo y) : y.heap[rb]? = some o := (h.sep.li (.box rb o) (by simp)).2
/-- The row of a set that was gone on from is put behind the others. -/
theorem BS.xrow {nums : List Int} {rb : Nat} (h : BS K (.box rb (.cells (zA nums) 3) :: X) sets zs M la l R R0 sl sv rv mo y) {rv' : Value} {w1 : World} (hown : w1.ownsRow K.B 39 1 rv' (zs ++ [(nums, rb)]).length ((zs ++ [(nums, rb)]).map zV)) (hg : y.grownBy w1 rv.ownBlock)
    (hat : rv'.ownBlock = rv.ownBlock ∨ rv'.ownBlock = some y.heap.size) : BS K X sets (zs ++ [(nums, rb)]) M la l (R.setIfInBounds 325 rv') (R0.setIfInBounds 325 rv') sl sv rv' mo (w1.setCell ⟨K.bb, 325, none⟩ rv') := by
  have hs7 := Sep.repAt (l₁ := [_, _, _, _]) (x := .row rv 39 1 zs.length (zs.map zV)) (x' := .row rv' 39 1 (zs ++ [(nums, rb)]).length ((zs ++ [(nums, rb)]).map zV)) h.sep hg hown (fun b hb => hat.elim (fun e => .inl (e.symm.trans hb)) fun e => .inr (by have h2 : rv'.ownBlock = some b := hb; rw [e] at h2; cases h2; exact Nat.le_refl _))
  simp only [List.cons_append, List.nil_append] at hs7
  have hF7 : w1.heap[K.bb]? = some (.cells R 144) := (hs7.li _ (List.mem_cons_self ..)).2
  have hgr : K.gb ≠ K.bb := fun e => by
    obtain ⟨x, hx, he⟩ := h.gbC
    exact (List.pairwise_cons.1 h.sep.ap).1 x (by simp [hx]) K.bb rfl (by rw [he, e])
  have hgs : rv.ownBlock ≠ some K.gb := fun e => by
    obtain ⟨x, hx, he⟩ := h.gbC
    exact (List.pairwise_cons.1 (List.pairwise_cons.1 (List.pairwise_cons.1 (List.pairwise_cons.1 (List.pairwise_cons.1 h.sep.ap).2).2).2).2).1 x (by simp [hx]) K.gb e he
  have hs8 := hs7.put (w' := w1.setCell ⟨K.bb, 325, none⟩ rv') ⟨rfl, rfl, rfl, by simp, fun k hk hne => heap_setCell_other w1 _ k _ (fun e => hne (by rw [e]))⟩ (heap_setCell_same w1 K.bb 325 R 144 rv' hF7)
  have hz := h.sz
  refine ⟨h.fr.both (by omega) rv', by simpa using hz, ?_, ?_, fun i hi => ?_, fun i hi => ?_, ?_, ?_, ?_, ?_, h.mp, fun s hs => ((h.by_ s hs).same (hg.block _ (h.by_ s hs).lt (fun e => hgs e.symm))).same (heap_setCell_other w1 _ K.gb _ hgr), h.gbC, hs8.perm ?_⟩
  · rw [Array.getElem?_setIfInBounds_ne (by omega)]; exact h.c0
  · rw [Array.getElem?_setIfInBounds_ne (by omega)]; exact h.c1
  · rw [Array.getElem?_setIfInBounds_ne (by omega)]; exact h.c2 i hi
  · rw [Array.getElem?_setIfInBounds_ne (by omega)]; exact h.c66 i hi
  · rw [Array.getElem?_setIfInBounds_ne (by omega)]; exact h.c322
  · rw [Array.getElem?_setIfInBounds_ne (by omega)]; exact h.c323
  · rw [Array.getElem?_setIfInBounds_ne (by omega)]; exact h.c324
  · rw [Array.getElem?_setIfInBounds]; simp [hz]
  · refine .cons _ (.cons _ (.cons _ (.cons _ (.cons _ ?_))))
    rw [List.map_append]
    show List.Perm (zI (nums, rb) :: (X ++ zs.map zI ++ K.C)) (X ++ (zs.map zI ++ [zI (nums, rb)]) ++ K.C)
    rw [← List.append_assoc X, List.append_assoc (X ++ zs.map zI), List.singleton_append]
    exact List.perm_middle.symm
end
end Go.Proofs.YthglciccejholaaDoor
