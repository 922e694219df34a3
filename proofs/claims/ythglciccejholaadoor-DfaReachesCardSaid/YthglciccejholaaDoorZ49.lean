/- Texts of package regs, one behind the other. -/
import Derived.Test.YthglciccejholaaDoorProg
import Derived.Test.YthglciccejholaaDoorZ48
import Derived.WalkKit
import Derived.BigFrame
import Derived.WalkMore
import Derived.ScopeJumps
import Derived.StillTailTactics
import Derived.Stop.BytesEq
import Derived.WalkLawsBesides
import Derived.WalkSpells
import Derived.Outline
import Derived.Lib.Walk
import Derived.Lib.Hide
import Derived.Lib.Slices
import Derived.Lib.Strings
import Derived.RegionTactic
import Derived.LoopTactic
import Derived.Below
import Derived.IntWalk
import Derived.Deep.QuietTactic
import Derived.BigQuiet
import Derived.Deep.MidRow
import Derived.Maps.AppendAt
import Derived.Laws.Rows
import Derived.Laws.Tables
import Derived.Deep.WholeRow
import Derived.Deep.Cut
import Derived.Deep.CutRange
import Derived.Lib.SliceRun
import Derived.Laws.MakeOwn
import Derived.Deep.RegionLaw
import Derived.Deep.RegionLawGrows
import Derived.Deep.RegionHeld3
import Derived.RegionCalls
import Derived.Deep.RegionWith
import Derived.Deep.Light
import Derived.Laws.CopyOwn
import Derived.Laws.ResultCell
import Derived.Test.YthglciccejholaaDoorZ46
import Derived.Test.YthglciccejholaaDoorZ45
import Derived.Test.YthglciccejholaaDoorZ43
import Derived.RangeFuncNested
import Derived.RangeFuncBound
import Derived.RangeFuncCalls
import Derived.RangeFuncLeaves
import Derived.RangeFuncBox
import Derived.Shelf.Abstract
import Derived.Shelf.RegionOpen
import Derived.OwnWalkIn
import Derived.TacticsInMore
import Derived.LoopNIn
import Derived.LoopIn
section
/- Packages dfa, mini, munch. -/
namespace Go.Proofs.YthglciccejholaaDoor
set_option linter.unusedSimpArgs false
set_option linter.unusedVariables false
set_option maxRecDepth 100000
open Go.RowKit
/- The document's Rule. -/
set_option maxHeartbeats 8000000 in
theorem refrule_any {D : Nat → Prop} {w : World} {d : Df} {ds : Array Value} {p q : Option Addr} {c f : Nat} (t : ByteArray) (hd : DC d ds p q c f) (hm : DM D w d p q c f) (ht : t.size ≤ 9223372036854775806) :
    Calls Tryd.prog 34 #[.agg ds, .string t] w fun e w' => e = .returned (tup (ruleF d (bl t))) ∧ Below w.heap.size w w' := by
  have S0 := Lib.hid ((Sb.start w).alloc (.cells ds 48))
  have HSZ := Lib.hid hd.sz
  have HD := Lib.hid hd
  have HM := Lib.hid hm
  clear hd hm
  go_enter Tryd.func34, Tryd.ntmps34
  go_upto_region 1 with fail
  refine d7_at_world (fun z => Sb w z [(w.heap.size, .cells ds 48)]) S0.out fun z hz => ?_
  clear S0
  have HZ := Lib.hid hz
  clear hz
  go_wp2_with (first | (refine wpList_load_D rfl (.tmp 2) rfl w.heap.size ds rfl (BX.sb HZ.out) HSZ.out ?_))
  refine (refcheck_any HD.out (HM.out.up HZ.out.1)).mono ?_
  rintro _ w1 ⟨rfl, hb1⟩
  have H1 := Lib.hid (HZ.out.up hb1)
  clear hb1 HZ
  by_cases hck : chkD d = 0
  · have hmay := chk_may hck
    have HMAY := Lib.hid hmay
    have HCK := Lib.hid hck
    rw [hck]
    clear hck hmay
    go_wp2_with fail
    have hs1 := H1.out.drew
    have HS1 := Lib.hid hs1
    have c0 : ∀ z, Sb w z [(w.heap.size, .cells ds 48)] → z.cell? ⟨w.heap.size, 0, none⟩ = some (.int .i64 d.st) := fun z h => (h.cell 0).trans HD.out.st
    have HC0 := Lib.hid c0
    clear c0
    refine wp_region_held_drew (S := fun v => Sb w v [(w.heap.size, .cells ds 48)]) (by kernel_rfl) hs1 (fun hHeld => ?_)
    clear hs1
    refine wpAnyH_take (i := 0) (v := .agg ds) rfl (by kernel_rfl) (by kernel_rfl) (by kernel_rfl) (fun _ _ _ h => h) (yieldsIf_load_D (by rfl) (.tmp 2) rfl w.heap.size rfl (fun v hv => hv.heap) HSZ.out) hHeld ?_
    (try simp only [Act.put, List.getElem_toArray, List.getElem_cons_zero, List.getElem_cons_succ, List.setIfInBounds_toArray, List.set_cons_zero, List.set_cons_succ])
    refine wpAnyH_take (i := 1) (v := .agg ds) rfl (by kernel_rfl) (by kernel_rfl) (by kernel_rfl) (fun _ _ _ h => h) (yieldsIf_load_D (by rfl) (.tmp 2) rfl w.heap.size rfl (fun v hv => hv.heap) HSZ.out) hHeld ?_
    (try simp only [Act.put, List.getElem_toArray, List.getElem_cons_zero, List.getElem_cons_succ, List.setIfInBounds_toArray, List.set_cons_zero, List.set_cons_succ])
    refine wpAnyH_take (i := 2) (v := (.pointer (some ⟨w.heap.size, 0, none⟩))) rfl (by kernel_rfl) (by kernel_rfl) (by kernel_rfl) (fun _ _ _ h => h) (Or.inl ⟨by rfl, by (intro w hSw; (try dsimp only at hSw); go_simp)⟩) hHeld ?_
    (try simp only [Act.put, List.getElem_toArray, List.getElem_cons_zero, List.getElem_cons_succ, List.setIfInBounds_toArray, List.set_cons_zero, List.set_cons_succ])
    refine wpAnyH_take (i := 3) (v := (.int .i64 d.st)) rfl (by kernel_rfl) (by kernel_rfl) (by kernel_rfl) (fun _ _ _ h => h) (Or.inl ⟨by rfl, by (intro w hSw; have h1 := HC0.out w hSw; go_simp)⟩) hHeld ?_
    (try simp only [Act.put, List.getElem_toArray, List.getElem_cons_zero, List.getElem_cons_succ, List.setIfInBounds_toArray, List.set_cons_zero, List.set_cons_succ])
    refine wpAnyH_take (i := 4) (v := (.string t)) rfl (by kernel_rfl) (by kernel_rfl) (by kernel_rfl) (fun _ _ _ h => h) (Or.inl ⟨by rfl, by (intro w hSw; (try dsimp only at hSw); go_simp)⟩) hHeld ?_
    (try simp only [Act.put, List.getElem_toArray, List.getElem_cons_zero, List.getElem_cons_succ, List.setIfInBounds_toArray, List.set_cons_zero, List.set_cons_succ])
    refine wpAnyH_ready (rs := [5]) (by kernel_rfl) (by simp) ?_
    refine AllReadyH.cons rfl (fun K hK => ?_) (AllReadyH.nil)
    rw [if_pos (by rfl)]
    go_wp2_with fail
    refine (refwalk_any d.st t HD.out (HM.out.up HS1.out.1) HMAY.out HMAY.out.s1 (by have := HMAY.out.s0; omega) ht).mono ?_
    rintro _ w2 ⟨rfl, hb⟩
    have HSw2 := Lib.hid (HS1.out.up hb)
    clear hb
    refine hK.out _ _ HSw2.out (fun hHeld2 => ?_)
    clear hHeld hK
    have hHeld := hHeld2
    clear hHeld2
    (try simp only [Act.put, List.getElem_toArray, List.getElem_cons_zero, List.getElem_cons_succ, List.setIfInBounds_toArray, List.set_cons_zero, List.set_cons_succ])
    have hwl := walkD_lt HMAY.out (bl t) d.st (by have := HMAY.out.s0; omega) HMAY.out.s1
    have HWL := Lib.hid hwl
    clear hwl
    have HF : Hid (ruleF d (bl t) = (rlAt d (walkD d d.st (bl t)), 0)) := Lib.hid (by unfold ruleF; rw [if_neg (by simp [HCK.out])])
    generalize walkD d d.st (bl t) = v at *
    refine wpAnyH_ready (rs := [6]) (by kernel_rfl) (by simp) ?_
    refine AllReadyH.cons rfl (fun K hK => ?_) (AllReadyH.nil)
    rw [if_pos (by rfl)]
    go_wp2_with fail
    refine (refruleat_any v HD.out (HM.out.up HSw2.out.1) HMAY.out HWL.out.1).mono ?_
    rintro _ w3 ⟨rfl, hb⟩
    have HSw3 := Lib.hid (HSw2.out.up hb)
    clear hb
    refine hK.out _ _ HSw3.out (fun hHeld2 => ?_)
    clear hHeld hK
    have hHeld := hHeld2
    clear hHeld2
    (try simp only [Act.put, List.getElem_toArray, List.getElem_cons_zero, List.getElem_cons_succ, List.setIfInBounds_toArray, List.set_cons_zero, List.set_cons_succ])
    generalize rlAt d v = r at *
    refine wpAnyH_take (i := 7) (v := (.int .i64 r)) rfl (by kernel_rfl) (by kernel_rfl) (by kernel_rfl) (fun _ _ _ h => h) (Or.inl ⟨by rfl, by (intro w hSw; (try dsimp only at hSw); go_simp)⟩) hHeld ?_
    (try simp only [Act.put, List.getElem_toArray, List.getElem_cons_zero, List.getElem_cons_succ, List.setIfInBounds_toArray, List.set_cons_zero, List.set_cons_succ])
    refine wpAnyH_take (i := 8) (v := (.int .i64 0)) rfl (by kernel_rfl) (by kernel_rfl) (by kernel_rfl) (fun _ _ _ h => h) (Or.inl ⟨by rfl, by (intro w hSw; (try dsimp only at hSw); go_simp)⟩) hHeld ?_
    (try simp only [Act.put, List.getElem_toArray, List.getElem_cons_zero, List.getElem_cons_succ, List.setIfInBounds_toArray, List.set_cons_zero, List.set_cons_succ])
    refine wpAnyH_done (by kernel_rfl) ?_ _
    go_wp2_with fail
    go_ret2
    exact ⟨by rw [HF.out]; rfl, HSw3.out.1⟩
  · have HF : Hid (ruleF d (bl t) = (0, chkD d)) := Lib.hid (by unfold ruleF; rw [if_pos hck])
    generalize chkD d = v at *
    go_wp2_with fail
    go_ret2
    exact ⟨by rw [HF.out]; rfl, H1.out.1⟩
end Go.Proofs.YthglciccejholaaDoor
end
section
/- Package dfa. -/
namespace Go.Proofs.YthglciccejholaaDoor
set_option linter.unusedSimpArgs false
set_option linter.unusedVariables false
set_option maxRecDepth 100000
open Go.RowKit Go.Shelf
/- What Of answered, as an automaton that lies; the chapter's examples. -/
open Go.Maps
theorem own_ivD {B : Nat} {w : World} {l : List Int} {v : Value} (h : w.ownsRow B 3 1 v l.length (zi l)) : IV (fun b => b < w.heap.size) w l v := by
  rcases h.2 with ⟨hv, h0⟩ | ⟨g, cap, cur, hv, hb, hg, hc, hc2, hc3, hc4⟩
  · have e : l = [] := List.length_eq_zero_iff.1 h0
    subst e
    rw [hv]
    exact ⟨none, 0, rfl, fun h => absurd rfl h⟩
  · rw [hv]
    refine ⟨_, _, rfl, fun _ => ⟨g, 0, rfl, (Array.getElem?_eq_some_iff.1 hg).1, fun i hi => ?_⟩⟩
    rw [Nat.zero_add, cell_of_row w g i cur 3 (0, 0) hg]
    have h1 : (zi l)[i]? = some (.int .i64 l[i]) := by simp [zi, hi]
    rw [← hc4, List.getElem?_take_of_lt (by omega), Array.getElem?_toList] at h1
    exact h1
theorem dm_of {B : Nat} {w0 w : World} {d : Df} {p q : Option Addr} {c f : Nat} {zs : List (List Int × Nat)} {L : List It} (hz : zs.map (fun z => z.1) = d.nx)
    (hs : Sep B w0 w (.row (.slice p d.nx.length c) 39 1 zs.length (zs.map zV) :: .row (.slice q d.rl.length f) 3 1 d.rl.length (zi d.rl) :: (zs.map zI ++ L))) (h3 : ∀ r ∈ d.nx, r.length ≤ 9223372036854775806) (h1 : d.nx.length ≤ 9223372036854775806) (h2 : d.rl.length ≤ 9223372036854775806) : DM (fun b => b < w.heap.size) w d p q c f := by
  have hl : zs.length = d.nx.length := by rw [← hz, List.length_map]
  refine ⟨?_, own_ivD (hs.li (.row (.slice q d.rl.length f) 3 1 d.rl.length (zi d.rl)) (by simp)), fun b h => h, h1, h2, h3⟩
  have hr : w.ownsRow B 39 1 (.slice p d.nx.length c) zs.length (zs.map zV) := hs.li (.row (.slice p d.nx.length c) 39 1 zs.length (zs.map zV)) (by simp)
  refine ⟨p, c, rfl, fun hne => ?_⟩
  rcases hr.2 with ⟨hv, h0⟩ | ⟨g, cap, cur, hv, hb, hg, hc, hc2, hc3, hc4⟩
  · exact absurd (List.length_eq_zero_iff.1 (hl.symm.trans h0)) hne
  · injection hv with e1 e2 e3
    refine ⟨g, 0, e1, (Array.getElem?_eq_some_iff.1 hg).1, fun i hi => ?_⟩
    have hi' : i < zs.length := by omega
    have hmem : zI zs[i] ∈ zs.map zI := List.mem_map_of_mem (List.getElem_mem hi')
    have hbox := hs.li (zI zs[i]) (List.mem_cons_of_mem _ (List.mem_cons_of_mem _ (List.mem_append_left _ hmem)))
    have he : d.nx[i] = zs[i].1 := by simp only [← hz, List.getElem_map]
    rw [he]
    refine ⟨some ⟨zs[i].2, 0, none⟩, zs[i].1.length, ⟨_, _, rfl, fun _ => ⟨zs[i].2, 0, rfl, (Array.getElem?_eq_some_iff.1 hbox.2).1, fun j hj => ?_⟩⟩, ?_⟩
    · rw [Nat.zero_add, cell_of_row w zs[i].2 j _ 3 (0, 0) hbox.2]
      unfold zA
      simp [hj]
    · rw [Nat.zero_add, cell_of_row w g _ cur 39 (0, 0) hg]
      have h1 : (zs.map zV)[i]? = some (zV zs[i]) := by simp [hi']
      rw [← hc4, List.getElem?_take_of_lt (by omega), Array.getElem?_toList] at h1
      exact h1
theorem ofD_len (st : Int) (ss : List Nst) : (∀ r ∈ (ofD st ss).1.nx, r.length ≤ 256) ∧ (ofD st ss).1.nx.length ≤ 2048 ∧ (ofD st ss).1.rl.length = (ofD st ss).1.nx.length := by
  unfold ofD
  by_cases h : chkN st ss ≠ 0
  · rw [if_pos h]; exact ⟨fun r hr => (by cases hr), (by simp [dz]), rfl⟩
  · rw [if_neg h]
    obtain ⟨F, hF⟩ : ∃ F, ofF st ss = F := ⟨_, rfl⟩
    have hF2 : fnF ss (mb (liveL ss)) (byL ss 256) 2050 0 [goF ss (ss.length + 1) 0 [st.toNat]] [] = F := by rw [← hF]; unfold ofF; rfl
    rw [hF]
    by_cases h2 : F.1 = true
    · rw [if_pos h2]
      have hc : chkN st ss = 0 := by omega
      have hs := sop_of hc
      obtain ⟨hn, -, hst, hi, -, -⟩ := chk_facts hc
      have hP := fnF_fin ss (mb (liveL ss)) (byL ss 256) (fun l => ∀ x ∈ l, x < ss.length) (fun f s h => hs.lead f s h) 2050 0 [goF ss (ss.length + 1) 0 [st.toNat]] [] (by omega) (by omega) (by simp) rfl (by simp) ⟨fun l hl => by
        simp only [List.mem_singleton] at hl
        subst hl
        exact goF_ltI hi (by simp) (by simp; omega), fun r hr => by simp at hr⟩ (by rw [hF2]; exact h2)
      rw [hF2] at hP
      obtain ⟨ok, sets, rows⟩ := F
      obtain ⟨h3, h4, h5, h6⟩ := hP
      simp only at h3 h4 h5 ⊢
      unfold autX
      simp only [List.length_map]
      refine ⟨fun r hr => ?_, by omega, by omega⟩
      obtain ⟨r0, hr0, rfl⟩ := List.mem_map.1 hr
      rw [nxF_len]
      cases rows with
      | nil => simp at h3; omega
      | cons a b => exact (clsG_lt (soF ss) b a _).2
    · rw [if_neg h2]; exact ⟨fun r hr => (by cases hr), (by simp [dz]), rfl⟩
theorem isA_chk {d : Df} (h : IsA d) : chkD d = 0 := by
  obtain ⟨st, cl, nx, rl⟩ := d
  obtain ⟨h1, h2, h3, h4⟩ := h
  simp only at h1 h2 h3 h4
  subst h1 h2 h3
  have hc : clsOk ⟨0, cl, rowsA, [-1, 1, 1, 0]⟩ = true := by
    unfold clsOk
    rw [List.all_eq_true]
    intro i hi
    have h5 := cqA_lt (List.mem_range.1 hi)
    rw [← h4 i (List.mem_range.1 hi)] at h5
    exact decide_eq_true h5
  have hr : rowsOk ⟨0, cl, rowsA, [-1, 1, 1, 0]⟩ = true := rfl
  have hl : rlsOk ⟨0, cl, rowsA, [-1, 1, 1, 0]⟩ = true := rfl
  have ht : tooD ⟨0, cl, rowsA, [-1, 1, 1, 0]⟩ = false := rfl
  have hs : d7_stOk ⟨0, cl, rowsA, [-1, 1, 1, 0]⟩ = true := rfl
  have hm : mayD ⟨0, cl, rowsA, [-1, 1, 1, 0]⟩ = true := by unfold mayD; rw [hc, hr, hl, hs]; rfl
  unfold chkD
  rw [ht, hm]; rfl
theorem isA_go {d : Df} (h : IsA d) : goD d 0 105 = 2 ∧ goD d 2 102 = 3 ∧ goD d 0 55 = -1 := by
  obtain ⟨e0, e1, e2, e3, e4⟩ := cqA_at
  have c1 := h.cl 105 (by decide)
  have c2 := h.cl 102 (by decide)
  have c3 := h.cl 55 (by decide)
  rw [e3] at c1
  rw [e2] at c2
  rw [e4] at c3
  unfold goD cellAt
  rw [c1, c2, c3, h.nx]
  decide
theorem isA_ex {d : Df} (h : IsA d) : ruleF d [105, 102] = (0, 0) ∧ ruleF d [55] = (-1, 0) ∧ runF d 2 [102] = (3, 0) := by
  obtain ⟨g1, g2, g3⟩ := isA_go h
  have hc := isA_chk h
  unfold ruleF runF
  simp only [hc, walkD, h.st, g1, g2, g3, h.nx]
  unfold rlAt
  rw [h.rl]
  decide
end Go.Proofs.YthglciccejholaaDoor
end
