/- Package raws. -/
import Derived.Test.YtbdbnjbafampaaaProg
import Derived.Test.YtbdbnjbafampaaaRk
import Derived.Test.YtbdbnjbafampaaaEj
import Derived.WalkKit
import Derived.BigFrame
import Derived.WalkMore
import Derived.ScopeJumps
import Derived.StillTailTactics
import Derived.Stop.BytesEq
import Derived.WalkLawsBesides
import Derived.WalkSpells
import Derived.Outline
import Derived.Lib.Walk
import Derived.Lib.Hide
import Derived.Lib.Slices
import Derived.Lib.Strings
import Derived.RegionTactic
import Derived.LoopTactic
import Derived.Below
import Derived.IntWalk
import Derived.Deep.QuietTactic
import Derived.BigQuiet
import Derived.Deep.MidRow
import Derived.Maps.AppendAt
import Derived.Laws.Rows
import Derived.Laws.Tables
import Derived.Deep.WholeRow
import Derived.Deep.Cut
import Derived.Deep.CutRange
import Derived.Lib.SliceRun
import Derived.Laws.MakeOwn
import Derived.Deep.RegionLaw
import Derived.Deep.RegionLawGrows
import Derived.Deep.RegionHeld3
import Derived.RegionCalls
import Derived.Deep.RegionWith
import Derived.Deep.Light
import Derived.Laws.CopyOwn
import Derived.Laws.ResultCell
namespace Go.Proofs.Ytbdbnjbafampaaa
set_option linter.unusedSimpArgs false
set_option linter.unusedVariables false
set_option maxRecDepth 100000
open Go.RowKit
/- The chapter's rules and automaton. -/
def aD : Df := ⟨0, fun i => if i = 97 then 1 else if i = 98 then 2 else 0, [[-1, 1, 2], [-1, 1, -1], [-1, -1, -1]], [-1, 0, 1]⟩
theorem ks_dc3 (g1 g2 : Nat) : DC aD (ks (.slice (some ⟨g1, 0, none⟩) 3 3) (.slice (some ⟨g2, 0, none⟩) 3 3)) (some ⟨g1, 0, none⟩) (some ⟨g2, 0, none⟩) 3 3 := by
  have hs := kd_size (.slice (some ⟨g1, 0, none⟩) 3 3) (.slice (some ⟨g2, 0, none⟩) 3 3)
  refine ⟨ks_size _ _, fun v hv => ?_, ?_, fun i hi => ?_, ?_, ?_⟩
  · unfold ks at hv
    rw [Array.mem_iff_getElem] at hv
    obtain ⟨i, hi, rfl⟩ := hv
    rw [Array.getElem_setIfInBounds (by simpa using hi)]
    split
    · rfl
    · rw [Array.getElem_setIfInBounds (by simpa using hi)]
      split
      · rfl
      · exact kd_one _ _ _ _ _ _ _ (Array.getElem_mem _)
  · unfold ks
    rw [Array.getElem?_setIfInBounds_ne (by decide), Array.getElem?_setIfInBounds_ne (by decide)]
    unfold kd
    rw [Array.getElem?_append_left (by simp), Array.getElem?_append_left (by simp)]
    rfl
  · unfold ks
    rw [Array.getElem?_setIfInBounds, Array.getElem?_setIfInBounds, kd_get _ _ i hi]
    refine ⟨?_, by unfold aD; simp only; split <;> (try split) <;> omega⟩
    unfold aD
    simp only [Array.size_setIfInBounds, hs]
    by_cases h1 : i = 97
    · subst h1; simp
    · by_cases h2 : i = 98
      · subst h2; simp
      · rw [if_neg (by omega), if_neg (by omega)]; simp [h1, h2]
  · unfold ks
    rw [Array.getElem?_setIfInBounds_ne (by decide), Array.getElem?_setIfInBounds_ne (by decide)]
    exact kd_a _ _
  · unfold ks
    rw [Array.getElem?_setIfInBounds_ne (by decide), Array.getElem?_setIfInBounds_ne (by decide)]
    exact kd_b _ _
def aKs (i : Nat) : Int := if i = 0 then 70 else 80
def AbP (w : World) (e : Ending) (w' : World) : Prop := ∃ ds p q g, e = .returned (.tuple #[.slice (some ⟨g, 0, none⟩) 2 2, .agg ds]) ∧ DC aD ds p q 3 3 ∧ DM (fun b => b < w'.heap.size) w' aD p q 3 3 ∧ KV w' aKs 2 (some ⟨g, 0, none⟩) ∧ Below w.heap.size w w'
def AL (b : Nat) : List (Nat × Obj) := [(b + 5, .cells #[.int .i64 (-1), .int .i64 0, .int .i64 1] 3), (b + 4, .cells #[.slice (some ⟨b + 1, 0, none⟩) 3 3, .slice (some ⟨b + 2, 0, none⟩) 3 3, .slice (some ⟨b + 3, 0, none⟩) 3 3] 24),
  (b + 3, .cells #[.int .i64 (-1), .int .i64 (-1), .int .i64 (-1)] 3), (b + 2, .cells #[.int .i64 (-1), .int .i64 1, .int .i64 (-1)] 3), (b + 1, .cells #[.int .i64 (-1), .int .i64 1, .int .i64 2] 3), (b, .cells zero26 26)]
theorem results_ab {tmps : Array Value} {w : World} {g b : Nat} {ds : Array Value} (h0 : tmps.getD 0 undef = .slice (some ⟨g, 0, none⟩) 2 2) (h1 : tmps.getD 1 undef = .pointer (some ⟨b, 0, none⟩)) (hg : BX w b ds) (hs : ds.size = 259) :
    (results Try.f66 tmps).run Try.prog w = .ok (.tuple #[.slice (some ⟨g, 0, none⟩) 2 2, .agg ds]) w := by
  have h0' : tmps[0]?.getD undef = .slice (some ⟨g, 0, none⟩) 2 2 := by simpa using h0
  have h1' : tmps[1]?.getD undef = .pointer (some ⟨b, 0, none⟩) := by simpa using h1
  have hl := run_loadVar_row (P := Try.prog) w b 26 26 _ (0, 0) _ hg Try.underlying26 rfl (by rw [info26, hs])
  simp [results, Try.results66, h0', h1', asAddr, hl]
theorem at_K {K : Act → World → Prop} {a : Act} {w : World} (R : World → Prop) (hR : R w) (h : ∀ y, R y → K a y) : K a w := h w hR
def rulesO : Obj := (.cells #[.int .i64 70, .int .i64 0, .int .u64 0, .int .u64 0, .int .u64 0, .int .u64 0, .slice none 0 0, .int .i64 80, .int .i64 0, .int .u64 0, .int .u64 0, .int .u64 0, .int .u64 0, .slice none 0 0] 70 : Obj)
set_option maxHeartbeats 8000000 in
theorem ab_any (w : World) : Calls Try.prog 66 #[] w (AbP w) := by
  have hz := (zero_of_info info26r).1
  have L0 := (Sb.start w).alloc (.cells zero26 26)
  have L1 := L0.alloc (.cells #[.int .i64 (-1), .int .i64 1, .int .i64 2] 3)
  have L2 := L1.alloc (.cells #[.int .i64 (-1), .int .i64 1, .int .i64 (-1)] 3)
  have L3 := L2.alloc (.cells #[.int .i64 (-1), .int .i64 (-1), .int .i64 (-1)] 3)
  have L6 := L3.alloc (.cells #[.slice (some ⟨w.heap.size + 1, 0, none⟩) 3 3, .slice (some ⟨w.heap.size + 1 + 1, 0, none⟩) 3 3, .slice (some ⟨w.heap.size + 1 + 1 + 1, 0, none⟩) 3 3] 24)
  have L7 := L6.alloc (.cells #[.int .i64 (-1), .int .i64 0, .int .i64 1] 3)
  have hsz : ∀ (w : World) (o : Obj), (w.alloc o).heap.size = w.heap.size + 1 := fun w o => by simp
  simp only [hsz] at L7
  have HL7 := Lib.hid L7
  clear L0 L1 L2 L3 L6 L7 hsz
  go_enter Try.func66, Try.ntmps66
  go_upto_region 1 with fail
  refine wp_region_list ?_
  refine wpList_plain rfl fun K hK => ?_
  have hK2 := Lib.hid hK
  clear hK
  go_wp2_with fail
  refine hK2.out _ _ ?_
  clear hK2 K
  refine wpList_plain rfl fun K hK => ?_
  have hK2 := Lib.hid hK
  clear hK
  go_wp2_with fail
  refine hK2.out _ _ ?_
  clear hK2 K
  refine wpList_plain rfl fun K hK => ?_
  have hK2 := Lib.hid hK
  clear hK
  go_wp2_with fail
  refine hK2.out _ _ ?_
  clear hK2 K
  refine wpList_plain rfl fun K hK => ?_
  have hK2 := Lib.hid hK
  clear hK
  go_wp2_with fail
  refine hK2.out _ _ ?_
  clear hK2 K
  refine wpList_plain rfl fun K hK => ?_
  have hK2 := Lib.hid hK
  clear hK
  go_wp2_with fail
  refine hK2.out _ _ ?_
  clear hK2 K
  refine wpList_build26 rfl _ _ rfl _ _ _ _ _ _ rfl rfl ?_
  refine wpList_world (fun z => Sb w z (AL w.heap.size)) HL7.out fun z hz7 => ?_
  have HZ7 := Lib.hid hz7
  have HS8 := Lib.hid (hz7.alloc (.cells zero26 26))
  have HS9 := Lib.hid ((hz7.alloc (.cells zero26 26)).setRow (cs' := kd (.slice (some ⟨w.heap.size + 4, 0, none⟩) 3 3) (.slice (some ⟨w.heap.size + 5, 0, none⟩) 3 3)) (fun c hc => by
    have := (Array.getElem?_eq_some_iff.1 (hz7.2 c hc).2).1
    omega))
  clear hz7 HL7
  simp only [Act.put, List.setIfInBounds_toArray, List.set_cons_succ, List.set_cons_zero]
  refine wpList_plain rfl fun K hK => ?_
  have hK2 := Lib.hid hK
  clear hK
  go_wp2_with fail
  refine hK2.out _ _ ?_
  clear hK2 K
  have hheap : (z.alloc (.cells zero26 26)).heap[z.heap.size]? = some (.cells zero26 26 (0, 0)) := HS8.out.heap
  refine wpList_store_row rfl 26 (.tmp 2) (.tmp 8) rfl z.heap.size (kd (.slice (some ⟨w.heap.size + 4, 0, none⟩) 3 3) (.slice (some ⟨w.heap.size + 5, 0, none⟩) 3 3)) rfl rfl 26 zero26 hheap (by rw [info26, kd_size]) (by rw [zero26_size, kd_size]) (Array.all_eq_true_iff_forall_mem.2 (kd_one _ _ _ _ _ _)) ?_
  refine wpList_nil ?_
  clear hheap HS8
  obtain ⟨g, hg⟩ : ∃ g, z.heap.size = g := ⟨_, rfl⟩
  have HGE : Hid (∀ c ∈ AL w.heap.size, c.1 < g) := Lib.hid fun c hc => by rw [← hg]; exact (Array.getElem?_eq_some_iff.1 (HZ7.out.2 c hc).2).1
  rw [hg] at HS9 ⊢
  clear hg HZ7
  refine at_worldQ (fun v => Sb w v ((g, .cells (kd (.slice (some ⟨w.heap.size + 4, 0, none⟩) 3 3) (.slice (some ⟨w.heap.size + 5, 0, none⟩) 3 3)) 26 (0, 0)) :: AL w.heap.size)) HS9.out fun v hv => ?_
  have HV := Lib.hid hv
  have v1 : v.cell? ⟨g, 98, none⟩ = some (.int .u8 0) := (hv.cell 98).trans (kd_get _ _ 97 (by omega))
  have f1 : v.frozen? ⟨g, 98, none⟩ = false := hv.free 98
  have HV1 := Lib.hid (hv.set (i := 98) (.int .u8 1) (fun c hc => by have := HGE.out c hc; omega))
  have v2 : (v.setCell ⟨g, 98, none⟩ (.int .u8 1)).cell? ⟨g, 99, none⟩ = some (.int .u8 0) := (HV1.out.cell 99).trans (by rw [Array.getElem?_setIfInBounds_ne (by decide)]; exact kd_get _ _ 98 (by omega))
  have f2 : (v.setCell ⟨g, 98, none⟩ (.int .u8 1)).frozen? ⟨g, 99, none⟩ = false := HV1.out.free 99
  have HV2 : Hid (Sb w ((v.setCell ⟨g, 98, none⟩ (.int .u8 1)).setCell ⟨g, 99, none⟩ (.int .u8 2)) ((g, .cells (ks (.slice (some ⟨w.heap.size + 4, 0, none⟩) 3 3) (.slice (some ⟨w.heap.size + 5, 0, none⟩) 3 3)) 26 (0, 0)) :: AL w.heap.size)) := Lib.hid (HV1.out.set (i := 99) (.int .u8 2) (fun c hc => by have := HGE.out c hc; omega))
  clear HS9 hv HV
  go_upto_region 4 with fail
  refine at_world (fun v => Sb w v ((g, .cells (ks (.slice (some ⟨w.heap.size + 4, 0, none⟩) 3 3) (.slice (some ⟨w.heap.size + 5, 0, none⟩) 3 3)) 26 (0, 0)) :: AL w.heap.size)) HV2.out fun y hy => ?_
  have HY := Lib.hid hy
  obtain ⟨dsk, hdk⟩ : ∃ dsk, ks (.slice (some ⟨w.heap.size + 4, 0, none⟩) 3 3) (.slice (some ⟨w.heap.size + 5, 0, none⟩) 3 3) = dsk := ⟨_, rfl⟩
  have HDC : Hid (DC aD dsk (some ⟨w.heap.size + 4, 0, none⟩) (some ⟨w.heap.size + 5, 0, none⟩) 3 3) := Lib.hid (by rw [← hdk]; exact ks_dc3 _ _)
  rw [hdk] at HY
  clear v1 v2 f1 f2 HV1 HV2 hy hdk
  refine wp_region_held_drew (S := fun v => Below w.heap.size w v ∧ v.heap[g]? = some (.cells dsk 26 (0, 0))) (by kernel_rfl) ⟨HY.out.drew.1, HY.out.drew.heap⟩ (fun hHeld => ?_)
  refine wpAnyH_take (i := 0) (v := (.agg #[.int .i64 70, .int .i64 0, .int .u64 0, .int .u64 0, .int .u64 0, .int .u64 0, .slice none 0 0])) rfl (by kernel_rfl) (by kernel_rfl) (by kernel_rfl) (fun _ _ _ h => h) (Or.inl ⟨by rfl, by (intro w hSw; (try dsimp only at hSw); go_simp)⟩) hHeld ?_
  (try simp only [Act.put, List.getElem_toArray, List.getElem_cons_zero, List.getElem_cons_succ, List.setIfInBounds_toArray, List.set_cons_zero, List.set_cons_succ])
  refine wpAnyH_take (i := 1) (v := (.agg #[.int .i64 80, .int .i64 0, .int .u64 0, .int .u64 0, .int .u64 0, .int .u64 0, .slice none 0 0])) rfl (by kernel_rfl) (by kernel_rfl) (by kernel_rfl) (fun _ _ _ h => h) (Or.inl ⟨by rfl, by (intro w hSw; (try dsimp only at hSw); go_simp)⟩) hHeld ?_
  (try simp only [Act.put, List.getElem_toArray, List.getElem_cons_zero, List.getElem_cons_succ, List.setIfInBounds_toArray, List.set_cons_zero, List.set_cons_succ])
  refine wpAnyH_take (i := 3) (v := .agg dsk) rfl (by kernel_rfl) (by kernel_rfl) (by kernel_rfl) (fun _ _ _ h => h) (yieldsIf_load_D (by rfl) (.tmp 2) rfl g rfl (fun v hv => hv.2) HDC.out.sz) hHeld ?_
  (try simp only [Act.put, List.getElem_toArray, List.getElem_cons_zero, List.getElem_cons_succ, List.setIfInBounds_toArray, List.set_cons_zero, List.set_cons_succ])
  refine wpAnyH_ready (rs := [2]) (by kernel_rfl) (by simp) ?_
  refine AllReadyH.cons rfl (fun K hK => ?_) (AllReadyH.nil)
  rw [if_pos (by rfl)]
  go_wp2_with fail
  obtain ⟨gr, hgr⟩ : ∃ gr, y.heap.size = gr := ⟨_, rfl⟩
  have HRO := Lib.hid (HY.out.alloc rulesO).drew
  rw [hgr] at HRO ⊢
  refine at_K (fun v => Sb w v ((gr, rulesO) :: (g, .cells dsk 26 (0, 0)) :: AL w.heap.size)) HRO.out fun v hv => ?_
  have HV := Lib.hid hv
  have HZE : Hid (v.heap[w.heap.size]? = some (.cells zero26 26 (0, 0))) := Lib.hid (hv.2 (w.heap.size, .cells zero26 26) (by simp [AL])).2
  have hgrw : gr ≠ w.heap.size := by have := (Array.getElem?_eq_some_iff.1 (HY.out.2 (w.heap.size, .cells zero26 26) (by simp [AL])).2).1; have h2 : w.heap.size < y.heap.size := this; omega
  have hgw : g ≠ w.heap.size := by have := HGE.out (w.heap.size, .cells zero26 26) (by simp [AL]); have h2 : w.heap.size < g := this; omega
  refine hK.out _ _ ⟨hv.1, hv.tl.heap⟩ (fun hHeld2 => ?_)
  clear hHeld hK hv
  have hHeld := hHeld2
  clear hHeld2
  (try simp only [Act.put, List.getElem_toArray, List.getElem_cons_zero, List.getElem_cons_succ, List.setIfInBounds_toArray, List.set_cons_zero, List.set_cons_succ])
  refine wpAnyH_take (i := 4) (v := (.slice (some ⟨gr, 0, none⟩) 2 2)) rfl (by kernel_rfl) (by kernel_rfl) (by kernel_rfl) (fun _ _ _ h => h) (Or.inl ⟨by rfl, by (intro w hSw; (try dsimp only at hSw); go_simp)⟩) hHeld ?_
  (try simp only [Act.put, List.getElem_toArray, List.getElem_cons_zero, List.getElem_cons_succ, List.setIfInBounds_toArray, List.set_cons_zero, List.set_cons_succ])
  refine wpAnyH_ready (rs := [5]) (by kernel_rfl) (by simp) ?_
  refine AllReadyH.cons rfl (fun K hK => ?_) (AllReadyH.nil)
  rw [if_pos (by rfl)]
  refine wp_store_row 26 (.tmp 1) (.tmp 16) rfl w.heap.size dsk rfl rfl 26 _ HZE.out (by rw [info26, HDC.out.sz]) (by rw [zero26_size, HDC.out.sz]) (Array.all_eq_true_iff_forall_mem.2 HDC.out.one) ?_
  have hrow := setRow_heap v w.heap.size zero26 dsk 26 (0, 0) HZE.out
  have hoth : ∀ c ∈ (gr, rulesO) :: (g, Obj.cells dsk 26 (0, 0)) :: AL w.heap.size, c.1 ≠ w.heap.size → (v.setRow w.heap.size dsk).heap[c.1]? = some c.2 := fun c hc hne => (setRow_other v w.heap.size c.1 dsk hne).trans (HV.out.2 c hc).2
  have hbel : Below w.heap.size w (v.setRow w.heap.size dsk) := below_row HV.out.1 (Nat.le_refl _) _
  have HROW := Lib.hid hrow
  have HOTH := Lib.hid hoth
  have HBEL := Lib.hid hbel
  clear hrow hoth hbel
  refine hK.out _ _ ⟨HBEL.out, HOTH.out (g, .cells dsk 26 (0, 0)) (List.mem_cons_of_mem _ (List.mem_cons_self ..)) hgw⟩ (fun hHeld3 => ?_)
  refine wpAnyH_done (by kernel_rfl) ?_ _
  go_wp2_with fail
  have g7 := HOTH.out (w.heap.size + 5, _) (List.mem_cons_of_mem _ (List.mem_cons_of_mem _ (by unfold AL; exact List.mem_cons_self ..))) (by simp)
  have g6 := HOTH.out (w.heap.size + 4, .cells #[.slice (some ⟨w.heap.size + 1, 0, none⟩) 3 3, .slice (some ⟨w.heap.size + 2, 0, none⟩) 3 3, .slice (some ⟨w.heap.size + 3, 0, none⟩) 3 3] 24) (by simp [AL]) (by simp)
  have g3 := HOTH.out (w.heap.size + 3, .cells #[.int .i64 (-1), .int .i64 (-1), .int .i64 (-1)] 3) (by simp [AL]) (by simp)
  have g2 := HOTH.out (w.heap.size + 2, .cells #[.int .i64 (-1), .int .i64 1, .int .i64 (-1)] 3) (by simp [AL]) (by simp)
  have g1 := HOTH.out (w.heap.size + 1, .cells #[.int .i64 (-1), .int .i64 1, .int .i64 2] 3) (by simp [AL]) (by simp)
  have g0 := HOTH.out (gr, rulesO) (List.mem_cons_self ..) hgrw
  refine bodyPost_ret (v := .tuple #[.slice (some ⟨gr, 0, none⟩) 2 2, .agg dsk]) (results_ab rfl rfl HROW.out HDC.out.sz) rfl ⟨dsk, _, _, gr, rfl, HDC.out, ⟨?_, ?_, fun b hb => hb, by decide, by decide, by decide⟩, ?_, HBEL.out⟩
  · refine ⟨_, _, rfl, fun _ => ⟨w.heap.size + 4, 0, rfl, (Array.getElem?_eq_some_iff.1 g6).1, fun i hi => ?_⟩⟩
    have hi5 : i < 3 := hi
    rcases (by omega : i = 0 ∨ i = 1 ∨ i = 2) with rfl | rfl | rfl
    · exact ⟨_, _, iv3 g1, cell_of_row _ _ 0 _ 24 (0, 0) g6⟩
    · exact ⟨_, _, iv3 g2, cell_of_row _ _ 1 _ 24 (0, 0) g6⟩
    · exact ⟨_, _, iv3 g3, cell_of_row _ _ 2 _ 24 (0, 0) g6⟩
  · exact iv3 g7
  · intro i hi
    refine ⟨gr, 0, rfl, ?_⟩
    rcases (by omega : i = 0 ∨ i = 1) with rfl | rfl
    · exact cell_of_row _ _ 0 _ 70 (0, 0) g0
    · exact cell_of_row _ _ 7 _ 70 (0, 0) g0
end Go.Proofs.Ytbdbnjbafampaaa
