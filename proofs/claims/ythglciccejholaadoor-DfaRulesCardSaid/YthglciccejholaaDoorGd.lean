/- Package dfa. -/
import Derived.Test.YthglciccejholaaDoorProg
import Derived.Test.YthglciccejholaaDoorV23
import Derived.Test.YthglciccejholaaDoorV19
import Derived.Great.BuildSlice
import Derived.WalkKit
import Derived.Maps.OwnSet
import Derived.Maps.OwnOps
import Derived.Maps.Own
import Derived.DeepKeys5
import Derived.BigFrame
import Derived.WalkMore
import Derived.ScopeJumps
import Derived.StillTailTactics
import Derived.Stop.BytesEq
import Derived.WalkLawsBesides
import Derived.WalkSpells
import Derived.Outline
import Derived.Lib.Walk
import Derived.Lib.Hide
import Derived.Lib.Slices
import Derived.Lib.Strings
import Derived.RegionTactic
import Derived.LoopTactic
import Derived.Below
import Derived.IntWalk
import Derived.Deep.QuietTactic
import Derived.BigQuiet
import Derived.Deep.MidRow
import Derived.Maps.AppendAt
import Derived.Laws.Rows
import Derived.Laws.Tables
import Derived.Deep.WholeRow
import Derived.Deep.Cut
import Derived.Deep.CutRange
import Derived.Lib.SliceRun
import Derived.Laws.MakeOwn
import Derived.Deep.RegionLaw
import Derived.Deep.RegionLawGrows
import Derived.Deep.RegionHeld3
import Derived.RegionCalls
import Derived.Deep.RegionWith
import Derived.Deep.Light
import Derived.Laws.CopyOwn
import Derived.Laws.ResultCell
namespace Go.Proofs.YthglciccejholaaDoor
set_option linter.unusedSimpArgs false
set_option linter.unusedVariables false
set_option maxRecDepth 100000
open Go.RowKit
/- add. -/
open Go.Maps
theorem Sep.perm {B : Nat} {w0 w : World} {L L' : List It} (h : Sep B w0 w L) (p : L.Perm L') : Sep B w0 w L' :=
  ⟨h.bel, h.sz, fun x hx => h.li x (p.mem_iff.2 hx), (p.pairwise_iff (fun h => h.symm)).1 h.ap⟩
theorem Sep.repAt {B : Nat} {w0 w w' : World} {l₁ l₂ : List It} {x x' : It} (h : Sep B w0 w (l₁ ++ x :: l₂)) (hg : w.grownBy w' x.blk) (hl : x'.lies B w') (hat : ∀ b, x'.blk = some b → x.blk = some b ∨ w.heap.size ≤ b) : Sep B w0 w' (l₁ ++ x' :: l₂) :=
  ((h.perm List.perm_middle).rep hg hl hat).perm List.perm_middle.symm
theorem mpi_of {w : World} {M n : Nat} {E : DataW Unit} {mo : Obj} {sets : List (List Nat)} (h : w.ownsMap Tryd.prog 139 (plainElem (H := Unit) Tryd.prog 3) M n E) (hm : w.heap[M]? = some mo) (hn : n ≤ sets.length) (hk : MS E (sets.map fun l => kS (mb l))) : MpI M mo sets := fun z hz => by
  obtain ⟨es, clock, h1, h2⟩ := h
  rw [hm] at h1
  cases h1
  exact ⟨E, n, hn, ⟨es, clock, hz, h2⟩, hk⟩
theorem MS.put {E : DataW Unit} {sets : List (List Nat)} {l : List Nat} (h : MS E (sets.map fun l => kS (mb l))) (hn : ¬ kS (mb l) ∈ sets.map fun l => kS (mb l)) : MS (E.put (.string (kS (mb l))) (.lit (.int .i64 (sets.length : Nat)))) ((sets ++ [l]).map fun l => kS (mb l)) := by
  have := MK.put h (fun x _ => by simp [WideAt.IsKeyLit]) (fun x y _ _ e => by injection e) (x := kS (mb l)) trivial hn
  simpa using this
theorem wp_load_slice {o : Oper} {a : Act} {w : World} {K : Act → World → Prop} {Q : Exit → Act → World → Prop} (ty : TypeId) (x : Operand) (ho : o.op = .load ty x) (ad : Addr) (hx : a.eval x = .pointer (some ad)) {e : TypeId} (hu : Tryd.prog.underlying ty = some (.slice e)) (v : Value) (hc : w.cell? ad = some v) (h : K (a.put o.dst v) w) : o.wp Tryd.prog a w K Q := by
  have hagg : (isAgg ty).run Tryd.prog w = .ok false w := by
    unfold isAgg
    rw [Sem.run_bind, run_underlying hu w]
    simp
  have hl : (loadVar ty ad).run Tryd.prog w = .ok v w := by
    simp [loadVar, Sem.run_bind, hagg, hc]
  unfold Oper.wp execOp
  simp only [ho, hx, Instr.loadAt, Instr.sureAddr, Sem.run_bind, Sem.run_pure, Result.andThen_ok, hl]
  exact h
theorem rowF_ {y : World} {B : Nat} {e : TypeId} {sl : Value} {n : Nat} {xs : List Value} {k : Nat} (h : y.ownsRow B e k sl n xs) : ∃ p c, sl = .slice p n c := by
  rcases h.2 with ⟨rfl, rfl⟩ | ⟨g, cap, cur, rfl, _⟩
  · exact ⟨_, _, rfl⟩
  · exact ⟨_, _, rfl⟩
theorem FRow.both {R0 R : Array Value} {o : Nat} {la : List Nat} {sl : Value} (h : FRow R0 R o la sl) {j : Nat} (hj : j < o) (v : Value) : FRow (R0.setIfInBounds j v) (R.setIfInBounds j v) o la sl := by
  refine ⟨by simpa using h.sz, fun k hk => ?_, fun i hi => ?_, ?_⟩
  · by_cases e : j = k
    · subst e
      rw [Array.getElem?_setIfInBounds, Array.getElem?_setIfInBounds, h.sz, if_pos rfl, if_pos rfl]
    · rw [Array.getElem?_setIfInBounds_ne e, Array.getElem?_setIfInBounds_ne e]; exact h.out k hk
  · rw [Array.getElem?_setIfInBounds_ne (by omega)]; exact h.ws i hi
  · rw [Array.getElem?_setIfInBounds_ne (by omega)]; exact h.ls
section
variable {K : BK} {X : List It} {sets : List (List Nat)} {zs : List (List Int × Nat)} {M : Nat} {la l : List Nat} {R R0 : Array Value} {sl sv rv : Value} {mo : Obj} {y z : World}
/-- The list of sets, appended «to»: the builder behind it. -/
theorem BS.added (h : BS K X sets zs M l l R R0 sl sv rv mo y) {mo' : Obj} {sv' : Value} (hm : MpI M mo' (sets ++ [l])) (hby : ∀ s (hs : s < K.bys.length), SW z K.gb (s * 64) K.bys[s])
    (hs : Sep K.B K.w0 z (.box K.bb (.cells (R.setIfInBounds 323 sv') 144) :: .row sl 3 1 l.length (ints l) :: .row sv' 139 64 (sets ++ [l]).length (setC (sets ++ [l])) :: .box M mo' :: .row rv 39 1 zs.length (zs.map zV) :: (X ++ zs.map zI ++ K.C))) : BS K X (sets ++ [l]) zs M l l (R.setIfInBounds 323 sv') (R0.setIfInBounds 323 sv') sl sv' rv mo' z := by
  have hz := h.sz
  refine ⟨h.fr.both (by omega) sv', by simpa using hz, ?_, ?_, fun i hi => ?_, fun i hi => ?_, ?_, ?_, ?_, ?_, hm, hby, h.gbC, hs⟩
  · rw [Array.getElem?_setIfInBounds_ne (by omega)]; exact h.c0
  · rw [Array.getElem?_setIfInBounds_ne (by omega)]; exact h.c1
  · rw [Array.getElem?_setIfInBounds_ne (by omega)]; exact h.c2 i hi
  · rw [Array.getElem?_setIfInBounds_ne (by omega)]; exact h.c66 i hi
  · rw [Array.getElem?_setIfInBounds_ne (by omega)]; exact h.c322
  · rw [Array.getElem?_setIfInBounds]; simp [hz]
  · rw [Array.getElem?_setIfInBounds_ne (by omega)]; exact h.c324
  · rw [Array.getElem?_setIfInBounds_ne (by omega)]; exact h.c325
set_option maxHeartbeats 16000000 in
theorem add_bs (h : BS K X sets zs M l l R R0 sl sv rv mo y) (hn : ¬ kS (mb l) ∈ sets.map fun l => kS (mb l)) (hs : sets.length ≤ 5000) :
    Calls Tryd.prog 97 #[.pointer (some ⟨K.bb, 0, none⟩)] y fun e y' => e = .returned (.int .i64 (sets.length : Nat)) ∧ ∃ R' R0' sv' mo', BS K X (sets ++ [l]) zs M l l R' R0' sl sv' rv mo' y' := by
  obtain ⟨i0, hi, hz0, hz1, hz2⟩ := info_parts info139z
  obtain ⟨p, c, rfl⟩ := rowF_ h.setsR
  have H := Lib.hid h
  have c323 : y.cell? ⟨K.bb, 323, none⟩ = some (.slice p sets.length c) := (h.cell (by omega)).trans h.c323
  obtain ⟨E, n, hne, hown, hms⟩ := h.map
  have HOWN := Lib.hid hown
  have HMS := Lib.hid hms
  obtain ⟨fv, hfv⟩ : ∃ fv, sV (mb l) = fv := ⟨_, rfl⟩
  have HFV := Lib.hid hfv
  have HNE := Lib.hid hne
  have HN := Lib.hid hn
  have hbox := h.sep.li _ (List.mem_cons_self ..)
  have HRD : Hid (∀ v : World, v.heap[K.bb]? = some (.cells R 144) → v.cell? ⟨K.bb, 324, none⟩ = some (.map (some M)) ∧ SW v K.bb 326 (mb l)) := Lib.hid fun v hv => ⟨by rw [cell_of_row v K.bb 324 R 144 (0, 0) hv, H.out.fr.out 324 (by omega)]; exact H.out.c324, fun i hi => by rw [cell_of_row v K.bb _ R 144 (0, 0) hv]; exact H.out.fr.ws i hi⟩
  have HBX : Hid (y.drew.heap[K.bb]? = some (.cells R 144)) := Lib.hid hbox.2
  have HMne : Hid (K.bb ≠ M) := Lib.hid (fun e => by
    have := (List.pairwise_cons.1 h.sep.ap).1 (.box M mo) (by simp) K.bb rfl
    exact this (by rw [e]; rfl))
  have HGM : Hid (K.gb ≠ M) := Lib.hid (fun e => by
    obtain ⟨x, hx, he⟩ := h.gbC
    have h1 := (List.pairwise_cons.1 (List.pairwise_cons.1 (List.pairwise_cons.1 (List.pairwise_cons.1 h.sep.ap).2).2).2).1 x (by simp [hx]) M rfl
    exact h1 (by rw [he, e]))
  have HGS : Hid ((Value.slice p sets.length c).ownBlock ≠ some K.gb) := Lib.hid (fun e => by
    obtain ⟨x, hx, he⟩ := h.gbC
    exact (List.pairwise_cons.1 (List.pairwise_cons.1 (List.pairwise_cons.1 h.sep.ap).2).2).1 x (by simp [hx]) K.gb e he)
  have HGB : Hid (K.bb ≠ K.gb) := Lib.hid (fun e => by
    obtain ⟨x, hx, he⟩ := h.gbC
    exact (List.pairwise_cons.1 h.sep.ap).1 x (by simp [hx]) K.bb rfl (by rw [he, e]))
  clear h hown hms hfv hne hn hbox
  go_enter Tryd.func97, Tryd.ntmps97
  go_upto_region 2 with fail
  clear c323
  refine wp_region_held_drew (S := fun v => v.heap[K.bb]? = some (.cells R 144)) (by kernel_rfl) HBX.out (fun hHeld => ?_)
  refine wpAnyH_take (i := 0) (v := (.pointer (some ⟨K.bb, 0, none⟩))) rfl (by kernel_rfl) (by kernel_rfl) (by kernel_rfl) (fun _ _ _ h => h) (Or.inl ⟨by rfl, by (intro w hSw; (try dsimp only at hSw); go_simp)⟩) hHeld ?_
  (try simp only [Act.put, List.getElem_toArray, List.getElem_cons_zero, List.getElem_cons_succ, List.setIfInBounds_toArray, List.set_cons_zero, List.set_cons_succ])
  refine wpAnyH_take (i := 1) (v := (.pointer (some ⟨K.bb, 0, none⟩))) rfl (by kernel_rfl) (by kernel_rfl) (by kernel_rfl) (fun _ _ _ h => h) (Or.inl ⟨by rfl, by (intro w hSw; (try dsimp only at hSw); go_simp)⟩) hHeld ?_
  (try simp only [Act.put, List.getElem_toArray, List.getElem_cons_zero, List.getElem_cons_succ, List.setIfInBounds_toArray, List.set_cons_zero, List.set_cons_succ])
  refine wpAnyH_take (i := 2) (v := (.pointer (some ⟨K.bb, 324, none⟩))) rfl (by kernel_rfl) (by kernel_rfl) (by kernel_rfl) (fun _ _ _ h => h) (Or.inl ⟨by rfl, by (intro w hSw; (try dsimp only at hSw); go_simp)⟩) hHeld ?_
  (try simp only [Act.put, List.getElem_toArray, List.getElem_cons_zero, List.getElem_cons_succ, List.setIfInBounds_toArray, List.set_cons_zero, List.set_cons_succ])
  refine wpAnyH_take (i := 3) (v := (.map (some M))) rfl (by kernel_rfl) (by kernel_rfl) (by kernel_rfl) (fun _ _ _ h => h) (Or.inl ⟨by rfl, by (intro w hSw; have h1 := (HRD.out w hSw).1; go_simp)⟩) hHeld ?_
  (try simp only [Act.put, List.getElem_toArray, List.getElem_cons_zero, List.getElem_cons_succ, List.setIfInBounds_toArray, List.set_cons_zero, List.set_cons_succ])
  refine wpAnyH_take (i := 4) (v := (.pointer (some ⟨K.bb, 0, none⟩))) rfl (by kernel_rfl) (by kernel_rfl) (by kernel_rfl) (fun _ _ _ h => h) (Or.inl ⟨by rfl, by (intro w hSw; (try dsimp only at hSw); go_simp)⟩) hHeld ?_
  (try simp only [Act.put, List.getElem_toArray, List.getElem_cons_zero, List.getElem_cons_succ, List.setIfInBounds_toArray, List.set_cons_zero, List.set_cons_succ])
  refine wpAnyH_take (i := 5) (v := (.pointer (some ⟨K.bb, 0, none⟩))) rfl (by kernel_rfl) (by kernel_rfl) (by kernel_rfl) (fun _ _ _ h => h) (Or.inl ⟨by rfl, by (intro w hSw; (try dsimp only at hSw); go_simp)⟩) hHeld ?_
  (try simp only [Act.put, List.getElem_toArray, List.getElem_cons_zero, List.getElem_cons_succ, List.setIfInBounds_toArray, List.set_cons_zero, List.set_cons_succ])
  refine wpAnyH_take (i := 6) (v := (.pointer (some ⟨K.bb, 326, none⟩))) rfl (by kernel_rfl) (by kernel_rfl) (by kernel_rfl) (fun _ _ _ h => h) (Or.inl ⟨by rfl, by (intro w hSw; (try dsimp only at hSw); go_simp)⟩) hHeld ?_
  (try simp only [Act.put, List.getElem_toArray, List.getElem_cons_zero, List.getElem_cons_succ, List.setIfInBounds_toArray, List.set_cons_zero, List.set_cons_succ])
  refine wpAnyH_take (i := 7) (v := (.pointer (some ⟨K.bb, 326, none⟩))) rfl (by kernel_rfl) (by kernel_rfl) (by kernel_rfl) (fun _ _ _ h => h) (Or.inl ⟨by rfl, by (intro w hSw; (try dsimp only at hSw); go_simp)⟩) hHeld ?_
  (try simp only [Act.put, List.getElem_toArray, List.getElem_cons_zero, List.getElem_cons_succ, List.setIfInBounds_toArray, List.set_cons_zero, List.set_cons_succ])
  refine wpAnyH_take (i := 8) (v := fv) rfl (by kernel_rfl) (by kernel_rfl) (by kernel_rfl) (fun _ _ _ h => h) (yieldsIf_load_S (by rfl) (.tmp 16) rfl K.bb 326 rfl HFV.out (fun v hv => (HRD.out v hv).2)) hHeld ?_
  (try simp only [Act.put, List.getElem_toArray, List.getElem_cons_zero, List.getElem_cons_succ, List.setIfInBounds_toArray, List.set_cons_zero, List.set_cons_succ])
  refine wpAnyH_take (i := 9) (v := (.int .i64 (sets.length : Nat))) rfl (by kernel_rfl) (by kernel_rfl) (by kernel_rfl) (fun _ _ _ h => h) (Or.inl ⟨by rfl, by (intro w hSw; (try dsimp only at hSw); go_simp)⟩) hHeld ?_
  (try simp only [Act.put, List.getElem_toArray, List.getElem_cons_zero, List.getElem_cons_succ, List.setIfInBounds_toArray, List.set_cons_zero, List.set_cons_succ])
  refine wpAnyH_ready (rs := [10]) (by kernel_rfl) (by simp) ?_
  refine AllReadyH.cons rfl (fun K9 hK => ?_) (AllReadyH.nil)
  rw [if_pos (by rfl)]
  refine wp_mapUpdate_own (.tmp 12) (.tmp 17) (.tmp 18) 137 rfl 139 3 keyedS Tryd.underlying137 _ M n E rfl ((ownsMap_up HOWN.out (Below.refl _ _).drew)) (by have := HNE.out; unfold maxLen; omega) _ _ (.string (kS (mb l))) rfl rfl (by rw [← HFV.out]; exact keyS (mb l)) (.lit (.int .i64 (sets.length : Nat))) [] (plainElem_int Tryd.underlying3 (WalkArith.wf_i64 (by omega))) ?_
  intro w1 hown1 hgrow1
  obtain ⟨mo', hmo'⟩ : ∃ mo', w1.heap[M]? = some mo' := ⟨_, hown1.choose_spec.choose_spec.1⟩
  have hmp : MpI M mo' (sets ++ [l]) := mpi_of hown1 hmo' (by have := HNE.out; simp; omega) (HMS.out.put HN.out)
  have hsep1 := Sep.repAt (l₁ := [_, _, _]) (x := .box M mo) (x' := .box M mo') H.out.sep.drew hgrow1 ⟨(H.out.sep.li (.box M mo) (by simp)).1, hmo'⟩ (fun b hb => .inl hb)
  simp only [List.cons_append, List.nil_append] at hsep1
  have HSEP := Lib.hid hsep1
  have HMP := Lib.hid hmp
  have hbx1 : w1.heap[K.bb]? = some (.cells R 144) := (hsep1.li _ (List.mem_cons_self ..)).2
  have HBX1 := Lib.hid hbx1
  have hby1 : ∀ s (hs : s < K.bys.length), SW w1 K.gb (s * 64) K.bys[s] := fun s hs => (H.out.by_ s hs).same (hgrow1.block K.gb (H.out.by_ s hs).lt (fun e => HGM.out (by simpa using e)))
  have HBY := Lib.hid hby1
  clear hsep1 hmp hby1
  refine hK.out _ _ hbx1 (fun hHeld2 => ?_)
  clear hHeld hK hbx1 hgrow1 hown1 hmo'
  have hHeld := hHeld2
  clear hHeld2
  (try simp only [Act.put, List.getElem_toArray, List.getElem_cons_zero, List.getElem_cons_succ, List.setIfInBounds_toArray, List.set_cons_zero, List.set_cons_succ])
  refine wpAnyH_done (by kernel_rfl) ?_ _
  go_upto_region 3 with fail
  have HS4 := Lib.hid (HSEP.out.drew.up ((Below.refl _ _).alloc (Nat.le_refl _) (.cells (sA (mb l)) 139)))
  have HBA : Hid ((w1.drew.alloc (.cells (sA (mb l)) 139)).heap[K.bb]? = some (.cells R 144)) := Lib.hid (HS4.out.li _ (List.mem_cons_self ..)).2
  have H323 : Hid (∀ v : World, v.heap[K.bb]? = some (.cells R 144) → v.cell? ⟨K.bb, 323, none⟩ = some (.slice p sets.length c)) := Lib.hid fun v hv => by rw [cell_of_row v K.bb 323 R 144 (0, 0) hv, H.out.fr.out 323 (by omega)]; exact H.out.c323
  have hbx1 : w1.drew.heap[K.bb]? = some (.cells R 144) := HBX1.out
  refine wp_region_held_drew (S := fun v => SW v K.bb 326 (mb l)) (by kernel_rfl) (HRD.out _ hbx1).2 (fun hHeld => ?_)
  refine wpAnyH_take (i := 0) (v := (.pointer (some ⟨K.bb, 0, none⟩))) rfl (by kernel_rfl) (by kernel_rfl) (by kernel_rfl) (fun _ _ _ h => h) (Or.inl ⟨by rfl, by (intro w hSw; (try dsimp only at hSw); go_simp)⟩) hHeld ?_
  (try simp only [Act.put, List.getElem_toArray, List.getElem_cons_zero, List.getElem_cons_succ, List.setIfInBounds_toArray, List.set_cons_zero, List.set_cons_succ])
  refine wpAnyH_take (i := 1) (v := (.pointer (some ⟨K.bb, 0, none⟩))) rfl (by kernel_rfl) (by kernel_rfl) (by kernel_rfl) (fun _ _ _ h => h) (Or.inl ⟨by rfl, by (intro w hSw; (try dsimp only at hSw); go_simp)⟩) hHeld ?_
  (try simp only [Act.put, List.getElem_toArray, List.getElem_cons_zero, List.getElem_cons_succ, List.setIfInBounds_toArray, List.set_cons_zero, List.set_cons_succ])
  refine wpAnyH_take (i := 2) (v := (.pointer (some ⟨K.bb, 0, none⟩))) rfl (by kernel_rfl) (by kernel_rfl) (by kernel_rfl) (fun _ _ _ h => h) (Or.inl ⟨by rfl, by (intro w hSw; (try dsimp only at hSw); go_simp)⟩) hHeld ?_
  (try simp only [Act.put, List.getElem_toArray, List.getElem_cons_zero, List.getElem_cons_succ, List.setIfInBounds_toArray, List.set_cons_zero, List.set_cons_succ])
  refine wpAnyH_take (i := 3) (v := (.pointer (some ⟨K.bb, 323, none⟩))) rfl (by kernel_rfl) (by kernel_rfl) (by kernel_rfl) (fun _ _ _ h => h) (Or.inl ⟨by rfl, by (intro w hSw; (try dsimp only at hSw); go_simp)⟩) hHeld ?_
  (try simp only [Act.put, List.getElem_toArray, List.getElem_cons_zero, List.getElem_cons_succ, List.setIfInBounds_toArray, List.set_cons_zero, List.set_cons_succ])
  refine wpAnyH_take (i := 5) (v := (.pointer (some ⟨K.bb, 0, none⟩))) rfl (by kernel_rfl) (by kernel_rfl) (by kernel_rfl) (fun _ _ _ h => h) (Or.inl ⟨by rfl, by (intro w hSw; (try dsimp only at hSw); go_simp)⟩) hHeld ?_
  (try simp only [Act.put, List.getElem_toArray, List.getElem_cons_zero, List.getElem_cons_succ, List.setIfInBounds_toArray, List.set_cons_zero, List.set_cons_succ])
  refine wpAnyH_take (i := 6) (v := (.pointer (some ⟨K.bb, 0, none⟩))) rfl (by kernel_rfl) (by kernel_rfl) (by kernel_rfl) (fun _ _ _ h => h) (Or.inl ⟨by rfl, by (intro w hSw; (try dsimp only at hSw); go_simp)⟩) hHeld ?_
  (try simp only [Act.put, List.getElem_toArray, List.getElem_cons_zero, List.getElem_cons_succ, List.setIfInBounds_toArray, List.set_cons_zero, List.set_cons_succ])
  refine wpAnyH_take (i := 7) (v := (.pointer (some ⟨K.bb, 326, none⟩))) rfl (by kernel_rfl) (by kernel_rfl) (by kernel_rfl) (fun _ _ _ h => h) (Or.inl ⟨by rfl, by (intro w hSw; (try dsimp only at hSw); go_simp)⟩) hHeld ?_
  (try simp only [Act.put, List.getElem_toArray, List.getElem_cons_zero, List.getElem_cons_succ, List.setIfInBounds_toArray, List.set_cons_zero, List.set_cons_succ])
  refine wpAnyH_take (i := 8) (v := (.pointer (some ⟨K.bb, 326, none⟩))) rfl (by kernel_rfl) (by kernel_rfl) (by kernel_rfl) (fun _ _ _ h => h) (Or.inl ⟨by rfl, by (intro w hSw; (try dsimp only at hSw); go_simp)⟩) hHeld ?_
  (try simp only [Act.put, List.getElem_toArray, List.getElem_cons_zero, List.getElem_cons_succ, List.setIfInBounds_toArray, List.set_cons_zero, List.set_cons_succ])
  refine wpAnyH_take (i := 9) (v := fv) rfl (by kernel_rfl) (by kernel_rfl) (by kernel_rfl) (fun _ _ _ h => h) (yieldsIf_load_S (by rfl) (.tmp 27) rfl K.bb 326 rfl HFV.out (fun v hv => hv)) hHeld ?_
  (try simp only [Act.put, List.getElem_toArray, List.getElem_cons_zero, List.getElem_cons_succ, List.setIfInBounds_toArray, List.set_cons_zero, List.set_cons_succ])
  refine wpAnyH_ready (rs := [4, 10]) (by kernel_rfl) (by simp) ?_
  refine AllReadyH.cons rfl (fun K9 hK => ?_) (AllReadyH.cons rfl (fun K9 hK => ?_) (AllReadyH.nil))
  · rw [if_pos (by rfl)]
    refine wp_load_slice 140 (.tmp 22) rfl ⟨K.bb, 323, none⟩ rfl Tryd.underlying140 (.slice p sets.length c) (H323.out _ hbx1) ?_
    refine hK.out _ _ ((HRD.out _ hbx1).2) (fun hHeld2 => ?_)
    clear hHeld hK
    have hHeld := hHeld2
    clear hHeld2
    (try simp only [Act.put, List.getElem_toArray, List.getElem_cons_zero, List.getElem_cons_succ, List.setIfInBounds_toArray, List.set_cons_zero, List.set_cons_succ])
    refine wpAnyH_ready (rs := [10]) (by kernel_rfl) (by simp) ?_
    refine AllReadyH.cons rfl (fun K9 hK => ?_) (AllReadyH.nil)
    rw [if_pos (by rfl)]
    refine wp_buildS (.tmp 28) rfl (mb l) fv HFV.out rfl ?_
    refine hK.out _ _ ((HRD.out _ HBA.out).2) (fun hHeld2 => ?_)
    clear hHeld hK
    have hHeld := hHeld2
    clear hHeld2
    (try simp only [Act.put, List.getElem_toArray, List.getElem_cons_zero, List.getElem_cons_succ, List.setIfInBounds_toArray, List.set_cons_zero, List.set_cons_succ])
    refine wpAnyH_ready (rs := [11]) (by kernel_rfl) (by simp) ?_
    refine AllReadyH.cons rfl (fun K9 hK => ?_) (AllReadyH.nil)
    rw [if_pos (by rfl)]
    refine wp_append_own (.tmp 23) (.tmp 29) 140 rfl K.B 139 i0 (sV noS) 64 512 Tryd.underlying140 hi hz0 hz1 hz2 ?e0 (by decide) (.slice p sets.length c) sets.length (setC sets) rfl (HS4.out.li (.row (.slice p sets.length c) 139 64 sets.length (setC sets)) (by simp)) ⟨w1.drew.heap.size, 0, none⟩ 1 1 (sA (mb l)).toList rfl ?e1 ?e2 ?e3 ?e4 ?e5 ?e6 ?_
    case e0 => unfold sV; simp [Value.cells, sA_size]
    case e1 => simp [sA_size]
    case e2 => intro j u hu; rw [Array.getElem?_toList] at hu; rw [← hu]; have := cell_of_row (w1.drew.alloc (.cells (sA (mb l)) 139)) w1.drew.heap.size j (sA (mb l)) 139 (0, 0) (heap_alloc_last _ _); rcases j with _ | j <;> simpa [Addr.add] using this
    case e3 => intro u hu; rw [Array.mem_toList_iff] at hu; obtain ⟨i, hi2, rfl⟩ := Array.getElem_of_mem hu; have := sA_get (mb l) (i := i) (by rw [sA_size] at hi2; exact hi2); rw [Array.getElem?_eq_getElem hi2] at this; rw [Option.some.inj this]; rfl
    case e4 => unfold maxLen; omega
    case e5 => omega
    case e6 => exact HS4.out.sz
    intro v' w7 hown7 hgrow7 hat7
    obtain ⟨p7, c7, rfl⟩ := rowF_ hown7
    replace hown7 : w7.ownsRow K.B 139 64 (Value.slice p7 (sets.length + 1) c7) (sets ++ [l]).length (setC (sets ++ [l])) := by rw [setC_app, List.length_append]; exact hown7
    have hs7 := Sep.repAt (l₁ := [_, _]) (x := .row (.slice p sets.length c) 139 64 sets.length (setC sets)) (x' := .row (Value.slice p7 (sets.length + 1) c7) 139 64 (sets ++ [l]).length (setC (sets ++ [l]))) HS4.out hgrow7 hown7 (fun b hb => hat7.elim (fun e => .inl (e.symm.trans hb)) fun e => .inr (by have h2 : (Value.slice p7 (sets.length + 1) c7).ownBlock = some b := hb; rw [e] at h2; cases h2; exact Nat.le_refl _))
    simp only [List.cons_append, List.nil_append] at hs7
    have hF7 : w7.heap[K.bb]? = some (.cells R 144) := (hs7.li _ (List.mem_cons_self ..)).2
    have hby7 : ∀ s (hs : s < K.bys.length), SW w7 K.gb (s * 64) K.bys[s] := fun s hs => (HBY.out s hs).same ((hgrow7.block K.gb (by have := (HBY.out s hs).lt; simp; omega) (fun e => HGS.out e.symm)).trans (heap_alloc_old w1.drew _ (HBY.out s hs).lt))
    have HS7 := Lib.hid hs7
    have HBY7 := Lib.hid hby7
    have hfz7 : w7.frozen? ⟨K.bb, 323, none⟩ = false := frozen_of_row w7 K.bb 323 R 144 hF7
    have hc7 := H323.out w7 hF7
    have hb8 : (w7.setCell ⟨K.bb, 323, none⟩ (Value.slice p7 (sets.length + 1) c7)).heap[K.bb]? = some (.cells (R.setIfInBounds 323 (Value.slice p7 (sets.length + 1) c7)) 144) := heap_setCell_same w7 K.bb 323 R 144 (Value.slice p7 (sets.length + 1) c7) hF7
    have hs8 := HS7.out.put (w' := w7.setCell ⟨K.bb, 323, none⟩ (Value.slice p7 (sets.length + 1) c7)) ⟨rfl, rfl, rfl, by simp, fun k hk hne => heap_setCell_other w7 _ k _ (fun e => hne (by rw [e]))⟩ hb8
    have HF8 := Lib.hid (H.out.added HMP.out (fun s hs => (HBY7.out s hs).same (heap_setCell_other w7 _ K.gb _ (fun e => HGB.out e.symm))) hs8)
    have HW8 : Hid (SW (w7.setCell ⟨K.bb, 323, none⟩ (Value.slice p7 (sets.length + 1) c7)) K.bb 326 (mb l)) := Lib.hid (fun i hi => by rw [cell_of_row _ K.bb _ _ 144 (0, 0) hb8, Array.getElem?_setIfInBounds_ne (by omega)]; exact H.out.fr.ws i hi)
    clear hs7 hby7 hown7 hgrow7 hat7 hs8 hb8 HS7 HBY7
    refine hK.out _ _ ((HRD.out _ hF7).2) (fun hHeld2 => ?_)
    clear hHeld hK
    have hHeld := hHeld2
    clear hHeld2
    (try simp only [Act.put, List.getElem_toArray, List.getElem_cons_zero, List.getElem_cons_succ, List.setIfInBounds_toArray, List.set_cons_zero, List.set_cons_succ])
    refine wpAnyH_take (i := 12) (v := (.pointer (some ⟨K.bb, 0, none⟩))) rfl (by kernel_rfl) (by kernel_rfl) (by kernel_rfl) (fun _ _ _ h => h) (Or.inl ⟨by rfl, by (intro w hSw; (try dsimp only at hSw); go_simp)⟩) hHeld ?_
    (try simp only [Act.put, List.getElem_toArray, List.getElem_cons_zero, List.getElem_cons_succ, List.setIfInBounds_toArray, List.set_cons_zero, List.set_cons_succ])
    refine wpAnyH_take (i := 13) (v := (.pointer (some ⟨K.bb, 323, none⟩))) rfl (by kernel_rfl) (by kernel_rfl) (by kernel_rfl) (fun _ _ _ h => h) (Or.inl ⟨by rfl, by (intro w hSw; (try dsimp only at hSw); go_simp)⟩) hHeld ?_
    (try simp only [Act.put, List.getElem_toArray, List.getElem_cons_zero, List.getElem_cons_succ, List.setIfInBounds_toArray, List.set_cons_zero, List.set_cons_succ])
    refine wpAnyH_ready (rs := [14]) (by kernel_rfl) (by simp) ?_
    refine AllReadyH.cons rfl (fun K9 hK => ?_) (AllReadyH.nil)
    rw [if_pos (by rfl)]
    go_wp2_with fail
    refine hK.out _ _ (HW8.out) (fun hHeld2 => ?_)
    clear hHeld hK
    have hHeld := hHeld2
    clear hHeld2
    (try simp only [Act.put, List.getElem_toArray, List.getElem_cons_zero, List.getElem_cons_succ, List.setIfInBounds_toArray, List.set_cons_zero, List.set_cons_succ])
    refine wpAnyH_done (by kernel_rfl) ?_ _
    go_wp2_with fail
    go_ret
    exact ⟨rfl, _, _, _, _, HF8.out⟩
  · rw [if_pos (by rfl)]
    refine wp_buildS (.tmp 28) rfl (mb l) fv HFV.out rfl ?_
    refine hK.out _ _ ((HRD.out _ HBA.out).2) (fun hHeld2 => ?_)
    clear hHeld hK
    have hHeld := hHeld2
    clear hHeld2
    (try simp only [Act.put, List.getElem_toArray, List.getElem_cons_zero, List.getElem_cons_succ, List.setIfInBounds_toArray, List.set_cons_zero, List.set_cons_succ])
    refine wpAnyH_ready (rs := [4]) (by kernel_rfl) (by simp) ?_
    refine AllReadyH.cons rfl (fun K9 hK => ?_) (AllReadyH.nil)
    rw [if_pos (by rfl)]
    refine wp_load_slice 140 (.tmp 22) rfl ⟨K.bb, 323, none⟩ rfl Tryd.underlying140 (.slice p sets.length c) (H323.out _ HBA.out) ?_
    refine hK.out _ _ ((HRD.out _ HBA.out).2) (fun hHeld2 => ?_)
    clear hHeld hK
    have hHeld := hHeld2
    clear hHeld2
    (try simp only [Act.put, List.getElem_toArray, List.getElem_cons_zero, List.getElem_cons_succ, List.setIfInBounds_toArray, List.set_cons_zero, List.set_cons_succ])
    refine wpAnyH_ready (rs := [11]) (by kernel_rfl) (by simp) ?_
    refine AllReadyH.cons rfl (fun K9 hK => ?_) (AllReadyH.nil)
    rw [if_pos (by rfl)]
    refine wp_append_own (.tmp 23) (.tmp 29) 140 rfl K.B 139 i0 (sV noS) 64 512 Tryd.underlying140 hi hz0 hz1 hz2 ?e0 (by decide) (.slice p sets.length c) sets.length (setC sets) rfl (HS4.out.li (.row (.slice p sets.length c) 139 64 sets.length (setC sets)) (by simp)) ⟨w1.drew.heap.size, 0, none⟩ 1 1 (sA (mb l)).toList rfl ?e1 ?e2 ?e3 ?e4 ?e5 ?e6 ?_
    case e0 => unfold sV; simp [Value.cells, sA_size]
    case e1 => simp [sA_size]
    case e2 => intro j u hu; rw [Array.getElem?_toList] at hu; rw [← hu]; have := cell_of_row (w1.drew.alloc (.cells (sA (mb l)) 139)) w1.drew.heap.size j (sA (mb l)) 139 (0, 0) (heap_alloc_last _ _); rcases j with _ | j <;> simpa [Addr.add] using this
    case e3 => intro u hu; rw [Array.mem_toList_iff] at hu; obtain ⟨i, hi2, rfl⟩ := Array.getElem_of_mem hu; have := sA_get (mb l) (i := i) (by rw [sA_size] at hi2; exact hi2); rw [Array.getElem?_eq_getElem hi2] at this; rw [Option.some.inj this]; rfl
    case e4 => unfold maxLen; omega
    case e5 => omega
    case e6 => exact HS4.out.sz
    intro v' w7 hown7 hgrow7 hat7
    obtain ⟨p7, c7, rfl⟩ := rowF_ hown7
    replace hown7 : w7.ownsRow K.B 139 64 (Value.slice p7 (sets.length + 1) c7) (sets ++ [l]).length (setC (sets ++ [l])) := by rw [setC_app, List.length_append]; exact hown7
    have hs7 := Sep.repAt (l₁ := [_, _]) (x := .row (.slice p sets.length c) 139 64 sets.length (setC sets)) (x' := .row (Value.slice p7 (sets.length + 1) c7) 139 64 (sets ++ [l]).length (setC (sets ++ [l]))) HS4.out hgrow7 hown7 (fun b hb => hat7.elim (fun e => .inl (e.symm.trans hb)) fun e => .inr (by have h2 : (Value.slice p7 (sets.length + 1) c7).ownBlock = some b := hb; rw [e] at h2; cases h2; exact Nat.le_refl _))
    simp only [List.cons_append, List.nil_append] at hs7
    have hF7 : w7.heap[K.bb]? = some (.cells R 144) := (hs7.li _ (List.mem_cons_self ..)).2
    have hby7 : ∀ s (hs : s < K.bys.length), SW w7 K.gb (s * 64) K.bys[s] := fun s hs => (HBY.out s hs).same ((hgrow7.block K.gb (by have := (HBY.out s hs).lt; simp; omega) (fun e => HGS.out e.symm)).trans (heap_alloc_old w1.drew _ (HBY.out s hs).lt))
    have HS7 := Lib.hid hs7
    have HBY7 := Lib.hid hby7
    have hfz7 : w7.frozen? ⟨K.bb, 323, none⟩ = false := frozen_of_row w7 K.bb 323 R 144 hF7
    have hc7 := H323.out w7 hF7
    have hb8 : (w7.setCell ⟨K.bb, 323, none⟩ (Value.slice p7 (sets.length + 1) c7)).heap[K.bb]? = some (.cells (R.setIfInBounds 323 (Value.slice p7 (sets.length + 1) c7)) 144) := heap_setCell_same w7 K.bb 323 R 144 (Value.slice p7 (sets.length + 1) c7) hF7
    have hs8 := HS7.out.put (w' := w7.setCell ⟨K.bb, 323, none⟩ (Value.slice p7 (sets.length + 1) c7)) ⟨rfl, rfl, rfl, by simp, fun k hk hne => heap_setCell_other w7 _ k _ (fun e => hne (by rw [e]))⟩ hb8
    have HF8 := Lib.hid (H.out.added HMP.out (fun s hs => (HBY7.out s hs).same (heap_setCell_other w7 _ K.gb _ (fun e => HGB.out e.symm))) hs8)
    have HW8 : Hid (SW (w7.setCell ⟨K.bb, 323, none⟩ (Value.slice p7 (sets.length + 1) c7)) K.bb 326 (mb l)) := Lib.hid (fun i hi => by rw [cell_of_row _ K.bb _ _ 144 (0, 0) hb8, Array.getElem?_setIfInBounds_ne (by omega)]; exact H.out.fr.ws i hi)
    clear hs7 hby7 hown7 hgrow7 hat7 hs8 hb8 HS7 HBY7
    refine hK.out _ _ ((HRD.out _ hF7).2) (fun hHeld2 => ?_)
    clear hHeld hK
    have hHeld := hHeld2
    clear hHeld2
    (try simp only [Act.put, List.getElem_toArray, List.getElem_cons_zero, List.getElem_cons_succ, List.setIfInBounds_toArray, List.set_cons_zero, List.set_cons_succ])
    refine wpAnyH_take (i := 12) (v := (.pointer (some ⟨K.bb, 0, none⟩))) rfl (by kernel_rfl) (by kernel_rfl) (by kernel_rfl) (fun _ _ _ h => h) (Or.inl ⟨by rfl, by (intro w hSw; (try dsimp only at hSw); go_simp)⟩) hHeld ?_
    (try simp only [Act.put, List.getElem_toArray, List.getElem_cons_zero, List.getElem_cons_succ, List.setIfInBounds_toArray, List.set_cons_zero, List.set_cons_succ])
    refine wpAnyH_take (i := 13) (v := (.pointer (some ⟨K.bb, 323, none⟩))) rfl (by kernel_rfl) (by kernel_rfl) (by kernel_rfl) (fun _ _ _ h => h) (Or.inl ⟨by rfl, by (intro w hSw; (try dsimp only at hSw); go_simp)⟩) hHeld ?_
    (try simp only [Act.put, List.getElem_toArray, List.getElem_cons_zero, List.getElem_cons_succ, List.setIfInBounds_toArray, List.set_cons_zero, List.set_cons_succ])
    refine wpAnyH_ready (rs := [14]) (by kernel_rfl) (by simp) ?_
    refine AllReadyH.cons rfl (fun K9 hK => ?_) (AllReadyH.nil)
    rw [if_pos (by rfl)]
    go_wp2_with fail
    refine hK.out _ _ (HW8.out) (fun hHeld2 => ?_)
    clear hHeld hK
    have hHeld := hHeld2
    clear hHeld2
    (try simp only [Act.put, List.getElem_toArray, List.getElem_cons_zero, List.getElem_cons_succ, List.setIfInBounds_toArray, List.set_cons_zero, List.set_cons_succ])
    refine wpAnyH_done (by kernel_rfl) ?_ _
    go_wp2_with fail
    go_ret
    exact ⟨rfl, _, _, _, _, HF8.out⟩
end
end Go.Proofs.YthglciccejholaaDoor
