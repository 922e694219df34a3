/- The law's rules and automaton -/
import Derived.Test.YtemkppjdfjoipaaProg
import Derived.Test.YtemkppjdfjoipaaXr
import Derived.Test.YtemkppjdfjoipaaW22
import Derived.Test.YtemkppjdfjoipaaW16
import Derived.Test.YtemkppjdfjoipaaW45
import Derived.Deep.SlicePairs
import Derived.Deep.Slices
import Derived.Laws.IdiomArrays
import Derived.OpenShut
import Derived.WideBlind
import Derived.Great.BuildSlice
import Derived.WalkKit
import Derived.Maps.OwnSet
import Derived.Maps.OwnOps
import Derived.Maps.Own
import Derived.DeepKeys5
import Derived.BigFrame
import Derived.WalkMore
import Derived.ScopeJumps
import Derived.StillTailTactics
import Derived.Stop.BytesEq
import Derived.WalkLawsBesides
import Derived.WalkSpells
import Derived.Outline
import Derived.Lib.Walk
import Derived.Lib.Hide
import Derived.Lib.Slices
import Derived.Lib.Strings
import Derived.RegionTactic
import Derived.LoopTactic
import Derived.Below
import Derived.IntWalk
import Derived.Deep.QuietTactic
import Derived.BigQuiet
import Derived.Deep.MidRow
import Derived.Maps.AppendAt
import Derived.Laws.Rows
import Derived.Laws.Tables
import Derived.Deep.WholeRow
import Derived.Deep.Cut
import Derived.Deep.CutRange
import Derived.Lib.SliceRun
import Derived.Laws.MakeOwn
import Derived.Deep.RegionLaw
import Derived.Deep.RegionLawGrows
import Derived.Deep.RegionHeld3
import Derived.RegionCalls
import Derived.Deep.RegionWith
import Derived.Deep.Light
import Derived.Laws.CopyOwn
import Derived.Laws.ResultCell
namespace Go.Proofs.Ytemkppjdfjoipaa.AB
set_option linter.unusedSimpArgs false
set_option linter.unusedVariables false
set_option maxRecDepth 100000
open Go.RowKit
/- The law's rules and automaton. -/
def kd (v1 v2 : Value) : Array Value := #[.int .i64 0] ++ Array.replicate 256 (.int .u8 0) ++ #[v1, v2]
theorem kd_size (v1 v2 : Value) : (kd v1 v2).size = 259 := by simp [kd]
theorem built26 (p q : Option Addr) (n c m f : Nat) : Try.prog.built 61 [(2, .slice p n c), (3, .slice q m f)] = some (kd (.slice p n c) (.slice q m f)) := by kernel_rfl
theorem wpList_build26 {ops : Array Oper} {rest : List Oper} {o : Oper} {a : Act} {w : World} {Q : Exit → Act → World → Prop} (hg : o.guard = none) (x y : Operand) (ho : o.op = .build 61 #[(2, x), (3, y)]) (p q : Option Addr) (n c m f : Nat) (hx : a.eval x = .slice p n c) (hy : a.eval y = .slice q m f)
    (h : wpList Try.prog ops Q rest (a.put o.dst (.agg (kd (.slice p n c) (.slice q m f)))) w) : wpList Try.prog ops Q (o :: rest) a w := by
  have e : (#[(2, x), (3, y)].map fun (i, x) => (i, a.eval x)).toList = [(2, .slice p n c), (3, .slice q m f)] := by simp [hx, hy]
  refine wpList_build hg 61 _ ho ?_ ?_
  · rw [e, built26]; rfl
  · rw [e, built26]; exact h
theorem kd_one (p q : Option Addr) (n c m f : Nat) : ∀ v ∈ kd (.slice p n c) (.slice q m f), v.oneCell' = true := by
  intro v hv
  simp only [kd, Array.mem_append, Array.mem_replicate] at hv
  rcases hv with (hv | hv) | hv
  · simp at hv; subst hv; rfl
  · rw [hv.2]; rfl
  · simp at hv; rcases hv with rfl | rfl <;> rfl
/-- Its cells. -/
def ks (v1 v2 : Value) : Array Value := (((kd v1 v2).setIfInBounds 98 (.int .u8 1)).setIfInBounds 99 (.int .u8 2)).setIfInBounds 33 (.int .u8 3)
theorem ks_size (v1 v2 : Value) : (ks v1 v2).size = 259 := by simp [ks, kd_size]
theorem kd_get (v1 v2 : Value) (i : Nat) (h : i < 256) : (kd v1 v2)[1 + i]? = some (.int .u8 0) := by
  unfold kd
  rw [Array.getElem?_append_left (by simp; omega), Array.getElem?_append_right (by simp)]
  simp [h]
theorem kd_a (v1 v2 : Value) : (kd v1 v2)[257]? = some v1 := by
  unfold kd
  rw [Array.getElem?_append_right (by simp)]
  simp
theorem kd_b (v1 v2 : Value) : (kd v1 v2)[258]? = some v2 := by
  unfold kd
  rw [Array.getElem?_append_right (by simp)]
  simp
theorem iv4 {w : World} {b : Nat} {x y z u : Int} (h : w.heap[b]? = some (.cells #[.int .i64 x, .int .i64 y, .int .i64 z, .int .i64 u] 3 (0, 0))) : IV (fun b => b < w.heap.size) w [x, y, z, u] (.slice (some ⟨b, 0, none⟩) 4 4) :=
  ⟨_, _, rfl, fun _ => ⟨b, 0, rfl, (Array.getElem?_eq_some_iff.1 h).1, fun i hi => by
    rw [Nat.zero_add, cell_of_row w b i _ 3 (0, 0) h]
    simp at hi
    rcases (by omega : i = 0 ∨ i = 1 ∨ i = 2 ∨ i = 3) with rfl | rfl | rfl | rfl <;> rfl⟩⟩
theorem wpList_world {P : Program} {ops : Array Oper} {l : List Oper} {a : Act} {w : World} {Q : Exit → Act → World → Prop} (R : World → Prop) (hR : R w) (h : ∀ z, R z → wpList P ops Q l a z) : wpList P ops Q l a w := h w hR
/- The law's rules and automaton. -/
def aD : Df := ⟨0, fun i => if i = 97 then 1 else if i = 98 then 2 else if i = 32 then 3 else 0, [[-1, 1, 2, 3], [-1, 1, -1, -1], [-1, -1, -1, -1], [-1, -1, -1, 3]], [-1, 0, 1, 2]⟩
def aK : List Int := [0, 14, 25]
theorem ks_dc4 (g1 g2 : Nat) : DC aD (ks (.slice (some ⟨g1, 0, none⟩) 4 4) (.slice (some ⟨g2, 0, none⟩) 4 4)) (some ⟨g1, 0, none⟩) (some ⟨g2, 0, none⟩) 4 4 := by
  have hs := kd_size (.slice (some ⟨g1, 0, none⟩) 4 4) (.slice (some ⟨g2, 0, none⟩) 4 4)
  refine ⟨ks_size _ _, fun v hv => ?_, ?_, fun i hi => ?_, ?_, ?_⟩
  · unfold ks at hv
    rw [Array.mem_iff_getElem] at hv
    obtain ⟨i, hi, rfl⟩ := hv
    rw [Array.getElem_setIfInBounds (by simpa using hi)]
    split
    · rfl
    · rw [Array.getElem_setIfInBounds (by simpa using hi)]
      split
      · rfl
      · rw [Array.getElem_setIfInBounds (by simpa using hi)]
        split
        · rfl
        · exact kd_one _ _ _ _ _ _ _ (Array.getElem_mem _)
  · unfold ks
    rw [Array.getElem?_setIfInBounds_ne (by decide), Array.getElem?_setIfInBounds_ne (by decide), Array.getElem?_setIfInBounds_ne (by decide)]
    unfold kd
    rw [Array.getElem?_append_left (by simp), Array.getElem?_append_left (by simp)]
    rfl
  · unfold ks
    rw [Array.getElem?_setIfInBounds, Array.getElem?_setIfInBounds, Array.getElem?_setIfInBounds, kd_get _ _ i hi]
    refine ⟨?_, by unfold aD; simp only; split <;> (try split) <;> (try split) <;> omega⟩
    unfold aD
    simp only [Array.size_setIfInBounds, hs]
    by_cases h1 : i = 97
    · subst h1; simp
    · by_cases h2 : i = 98
      · subst h2; simp
      · by_cases h3 : i = 32
        · subst h3; simp
        · rw [if_neg (by omega), if_neg (by omega), if_neg (by omega)]; simp [h1, h2, h3]
  · unfold ks
    rw [Array.getElem?_setIfInBounds_ne (by decide), Array.getElem?_setIfInBounds_ne (by decide), Array.getElem?_setIfInBounds_ne (by decide)]
    exact kd_a _ _
  · unfold ks
    rw [Array.getElem?_setIfInBounds_ne (by decide), Array.getElem?_setIfInBounds_ne (by decide), Array.getElem?_setIfInBounds_ne (by decide)]
    exact kd_b _ _
def AbP (w : World) (e : Ending) (w' : World) : Prop := ∃ ds p q g, e = .returned (.tuple #[.slice (some ⟨g, 0, none⟩) 3 3, .agg ds]) ∧ DC aD ds p q 4 4 ∧ DM (fun b => b < w'.heap.size) w' aD p q 4 4 ∧ I1.X.KR (fun b => b < w'.heap.size) w' aK (some ⟨g, 0, none⟩) ∧ Below w.heap.size w w'
def AL (b : Nat) : List (Nat × Obj) := [(b + 6, .cells #[.int .i64 (-1), .int .i64 0, .int .i64 1, .int .i64 2] 3), (b + 5, .cells #[.slice (some ⟨b + 1, 0, none⟩) 4 4, .slice (some ⟨b + 2, 0, none⟩) 4 4, .slice (some ⟨b + 3, 0, none⟩) 4 4, .slice (some ⟨b + 4, 0, none⟩) 4 4] 25),
  (b + 4, .cells #[.int .i64 (-1), .int .i64 (-1), .int .i64 (-1), .int .i64 3] 3), (b + 3, .cells #[.int .i64 (-1), .int .i64 (-1), .int .i64 (-1), .int .i64 (-1)] 3), (b + 2, .cells #[.int .i64 (-1), .int .i64 1, .int .i64 (-1), .int .i64 (-1)] 3), (b + 1, .cells #[.int .i64 (-1), .int .i64 1, .int .i64 2, .int .i64 3] 3), (b, .cells zero26 61)]
theorem results_ab {tmps : Array Value} {w : World} {g b : Nat} {ds : Array Value} (h0 : tmps.getD 0 undef = .slice (some ⟨g, 0, none⟩) 3 3) (h1 : tmps.getD 1 undef = .pointer (some ⟨b, 0, none⟩)) (hg : BX w b ds) (hs : ds.size = 259) :
    (results Try.f43 tmps).run Try.prog w = .ok (.tuple #[.slice (some ⟨g, 0, none⟩) 3 3, .agg ds]) w := by
  have h0' : tmps[0]?.getD undef = .slice (some ⟨g, 0, none⟩) 3 3 := by simpa using h0
  have h1' : tmps[1]?.getD undef = .pointer (some ⟨b, 0, none⟩) := by simpa using h1
  have hl := run_loadVar_row (P := Try.prog) w b 61 61 _ (0, 0) _ hg Try.underlying61 rfl (by rw [info26, hs])
  simp [results, Try.results43, h0', h1', asAddr, hl]
theorem at_K {K : Act → World → Prop} {a : Act} {w : World} (R : World → Prop) (hR : R w) (h : ∀ y, R y → K a y) : K a w := h w hR
def rulesO : Obj := (.cells #[.int .i64 0, .int .i64 0, .int .u64 0, .int .u64 0, .int .u64 0, .int .u64 0, .slice none 0 0, .int .i64 14, .int .i64 0, .int .u64 0, .int .u64 0, .int .u64 0, .int .u64 0, .slice none 0 0, .int .i64 25, .int .i64 0, .int .u64 0, .int .u64 0, .int .u64 0, .int .u64 0, .slice none 0 0] 130 : Obj)
set_option maxHeartbeats 8000000 in
theorem ab_any (w : World) : Calls Try.prog 43 #[] w (AbP w) := by
  have hz := (zero_of_info info26r).1
  have L0 := (Sb.start w).alloc (.cells zero26 61)
  have L1 := L0.alloc (.cells #[.int .i64 (-1), .int .i64 1, .int .i64 2, .int .i64 3] 3)
  have L2 := L1.alloc (.cells #[.int .i64 (-1), .int .i64 1, .int .i64 (-1), .int .i64 (-1)] 3)
  have L3 := L2.alloc (.cells #[.int .i64 (-1), .int .i64 (-1), .int .i64 (-1), .int .i64 (-1)] 3)
  have L4 := L3.alloc (.cells #[.int .i64 (-1), .int .i64 (-1), .int .i64 (-1), .int .i64 3] 3)
  have L6 := L4.alloc (.cells #[.slice (some ⟨w.heap.size + 1, 0, none⟩) 4 4, .slice (some ⟨w.heap.size + 1 + 1, 0, none⟩) 4 4, .slice (some ⟨w.heap.size + 1 + 1 + 1, 0, none⟩) 4 4, .slice (some ⟨w.heap.size + 1 + 1 + 1 + 1, 0, none⟩) 4 4] 25)
  have L7 := L6.alloc (.cells #[.int .i64 (-1), .int .i64 0, .int .i64 1, .int .i64 2] 3)
  have hsz : ∀ (w : World) (o : Obj), (w.alloc o).heap.size = w.heap.size + 1 := fun w o => by simp
  simp only [hsz] at L7
  have HL7 := Lib.hid L7
  clear L0 L1 L2 L3 L4 L6 L7 hsz
  go_enter Try.func43, Try.ntmps43
  go_upto_region 1 with fail
  refine wp_region_list ?_
  refine wpList_plain rfl fun K hK => ?_
  have hK2 := Lib.hid hK
  clear hK
  go_wp2_with fail
  refine hK2.out _ _ ?_
  clear hK2 K
  refine wpList_plain rfl fun K hK => ?_
  have hK2 := Lib.hid hK
  clear hK
  go_wp2_with fail
  refine hK2.out _ _ ?_
  clear hK2 K
  refine wpList_plain rfl fun K hK => ?_
  have hK2 := Lib.hid hK
  clear hK
  go_wp2_with fail
  refine hK2.out _ _ ?_
  clear hK2 K
  refine wpList_plain rfl fun K hK => ?_
  have hK2 := Lib.hid hK
  clear hK
  go_wp2_with fail
  refine hK2.out _ _ ?_
  clear hK2 K
  refine wpList_plain rfl fun K hK => ?_
  have hK2 := Lib.hid hK
  clear hK
  go_wp2_with fail
  refine hK2.out _ _ ?_
  clear hK2 K
  refine wpList_plain rfl fun K hK => ?_
  have hK2 := Lib.hid hK
  clear hK
  go_wp2_with fail
  refine hK2.out _ _ ?_
  clear hK2 K
  refine wpList_build26 rfl _ _ rfl _ _ _ _ _ _ rfl rfl ?_
  refine wpList_world (fun z => Sb w z (AL w.heap.size)) HL7.out fun z hz7 => ?_
  have HZ7 := Lib.hid hz7
  have HS8 := Lib.hid (hz7.alloc (.cells zero26 61))
  have HS9 := Lib.hid ((hz7.alloc (.cells zero26 61)).setRow (cs' := kd (.slice (some ⟨w.heap.size + 5, 0, none⟩) 4 4) (.slice (some ⟨w.heap.size + 6, 0, none⟩) 4 4)) (fun c hc => by
    have := (Array.getElem?_eq_some_iff.1 (hz7.2 c hc).2).1
    omega))
  clear hz7 HL7
  simp only [Act.put, List.setIfInBounds_toArray, List.set_cons_succ, List.set_cons_zero]
  refine wpList_plain rfl fun K hK => ?_
  have hK2 := Lib.hid hK
  clear hK
  go_wp2_with fail
  refine hK2.out _ _ ?_
  clear hK2 K
  have hheap : (z.alloc (.cells zero26 61)).heap[z.heap.size]? = some (.cells zero26 61 (0, 0)) := HS8.out.heap
  refine wpList_store_row rfl 61 (.tmp 2) (.tmp 9) rfl z.heap.size (kd (.slice (some ⟨w.heap.size + 5, 0, none⟩) 4 4) (.slice (some ⟨w.heap.size + 6, 0, none⟩) 4 4)) rfl rfl 61 zero26 hheap (by rw [info26, kd_size]) (by rw [zero26_size, kd_size]) (Array.all_eq_true_iff_forall_mem.2 (kd_one _ _ _ _ _ _)) ?_
  refine wpList_nil ?_
  clear hheap HS8
  obtain ⟨g, hg⟩ : ∃ g, z.heap.size = g := ⟨_, rfl⟩
  have HGE : Hid (∀ c ∈ AL w.heap.size, c.1 < g) := Lib.hid fun c hc => by rw [← hg]; exact (Array.getElem?_eq_some_iff.1 (HZ7.out.2 c hc).2).1
  rw [hg] at HS9 ⊢
  clear hg HZ7
  refine at_worldQ (fun v => Sb w v ((g, .cells (kd (.slice (some ⟨w.heap.size + 5, 0, none⟩) 4 4) (.slice (some ⟨w.heap.size + 6, 0, none⟩) 4 4)) 61 (0, 0)) :: AL w.heap.size)) HS9.out fun v hv => ?_
  have HV := Lib.hid hv
  have v1 : v.cell? ⟨g, 98, none⟩ = some (.int .u8 0) := (hv.cell 98).trans (kd_get _ _ 97 (by omega))
  have f1 : v.frozen? ⟨g, 98, none⟩ = false := hv.free 98
  have HV1 := Lib.hid (hv.set (i := 98) (.int .u8 1) (fun c hc => by have := HGE.out c hc; omega))
  have v2 : (v.setCell ⟨g, 98, none⟩ (.int .u8 1)).cell? ⟨g, 99, none⟩ = some (.int .u8 0) := (HV1.out.cell 99).trans (by rw [Array.getElem?_setIfInBounds_ne (by decide)]; exact kd_get _ _ 98 (by omega))
  have f2 : (v.setCell ⟨g, 98, none⟩ (.int .u8 1)).frozen? ⟨g, 99, none⟩ = false := HV1.out.free 99
  have HV2 := Lib.hid (HV1.out.set (i := 99) (.int .u8 2) (fun c hc => by have := HGE.out c hc; omega))
  have v3 : ((v.setCell ⟨g, 98, none⟩ (.int .u8 1)).setCell ⟨g, 99, none⟩ (.int .u8 2)).cell? ⟨g, 33, none⟩ = some (.int .u8 0) := (HV2.out.cell 33).trans (by rw [Array.getElem?_setIfInBounds_ne (by decide), Array.getElem?_setIfInBounds_ne (by decide)]; exact kd_get _ _ 32 (by omega))
  have f3 : ((v.setCell ⟨g, 98, none⟩ (.int .u8 1)).setCell ⟨g, 99, none⟩ (.int .u8 2)).frozen? ⟨g, 33, none⟩ = false := HV2.out.free 33
  have HV3 : Hid (Sb w (((v.setCell ⟨g, 98, none⟩ (.int .u8 1)).setCell ⟨g, 99, none⟩ (.int .u8 2)).setCell ⟨g, 33, none⟩ (.int .u8 3)) ((g, .cells (ks (.slice (some ⟨w.heap.size + 5, 0, none⟩) 4 4) (.slice (some ⟨w.heap.size + 6, 0, none⟩) 4 4)) 61 (0, 0)) :: AL w.heap.size)) := Lib.hid (HV2.out.set (i := 33) (.int .u8 3) (fun c hc => by have := HGE.out c hc; omega))
  clear HS9 hv HV
  go_upto_region 5 with fail
  refine at_world (fun v => Sb w v ((g, .cells (ks (.slice (some ⟨w.heap.size + 5, 0, none⟩) 4 4) (.slice (some ⟨w.heap.size + 6, 0, none⟩) 4 4)) 61 (0, 0)) :: AL w.heap.size)) HV3.out fun y hy => ?_
  have HY := Lib.hid hy
  obtain ⟨dsk, hdk⟩ : ∃ dsk, ks (.slice (some ⟨w.heap.size + 5, 0, none⟩) 4 4) (.slice (some ⟨w.heap.size + 6, 0, none⟩) 4 4) = dsk := ⟨_, rfl⟩
  have HDC : Hid (DC aD dsk (some ⟨w.heap.size + 5, 0, none⟩) (some ⟨w.heap.size + 6, 0, none⟩) 4 4) := Lib.hid (by rw [← hdk]; exact ks_dc4 _ _)
  rw [hdk] at HY
  clear v1 v2 v3 f1 f2 f3 HV1 HV2 HV3 hy hdk
  refine wp_region_held_drew (S := fun v => Below w.heap.size w v ∧ v.heap[g]? = some (.cells dsk 61 (0, 0))) (by kernel_rfl) ⟨HY.out.drew.1, HY.out.drew.heap⟩ (fun hHeld => ?_)
  refine wpAnyH_take (i := 0) (v := (.agg #[.int .i64 0, .int .i64 0, .int .u64 0, .int .u64 0, .int .u64 0, .int .u64 0, .slice none 0 0])) rfl (by kernel_rfl) (by kernel_rfl) (by kernel_rfl) (fun _ _ _ h => h) (Or.inl ⟨by rfl, by (intro w hSw; (try dsimp only at hSw); go_simp)⟩) hHeld ?_
  (try simp only [Act.put, List.getElem_toArray, List.getElem_cons_zero, List.getElem_cons_succ, List.setIfInBounds_toArray, List.set_cons_zero, List.set_cons_succ])
  refine wpAnyH_take (i := 1) (v := (.agg #[.int .i64 14, .int .i64 0, .int .u64 0, .int .u64 0, .int .u64 0, .int .u64 0, .slice none 0 0])) rfl (by kernel_rfl) (by kernel_rfl) (by kernel_rfl) (fun _ _ _ h => h) (Or.inl ⟨by rfl, by (intro w hSw; (try dsimp only at hSw); go_simp)⟩) hHeld ?_
  (try simp only [Act.put, List.getElem_toArray, List.getElem_cons_zero, List.getElem_cons_succ, List.setIfInBounds_toArray, List.set_cons_zero, List.set_cons_succ])
  refine wpAnyH_take (i := 2) (v := (.agg #[.int .i64 25, .int .i64 0, .int .u64 0, .int .u64 0, .int .u64 0, .int .u64 0, .slice none 0 0])) rfl (by kernel_rfl) (by kernel_rfl) (by kernel_rfl) (fun _ _ _ h => h) (Or.inl ⟨by rfl, by (intro w hSw; (try dsimp only at hSw); go_simp)⟩) hHeld ?_
  (try simp only [Act.put, List.getElem_toArray, List.getElem_cons_zero, List.getElem_cons_succ, List.setIfInBounds_toArray, List.set_cons_zero, List.set_cons_succ])
  refine wpAnyH_take (i := 4) (v := .agg dsk) rfl (by kernel_rfl) (by kernel_rfl) (by kernel_rfl) (fun _ _ _ h => h) (yieldsIf_load_D (by rfl) (.tmp 2) rfl g rfl (fun v hv => hv.2) HDC.out.sz) hHeld ?_
  (try simp only [Act.put, List.getElem_toArray, List.getElem_cons_zero, List.getElem_cons_succ, List.setIfInBounds_toArray, List.set_cons_zero, List.set_cons_succ])
  refine wpAnyH_ready (rs := [3]) (by kernel_rfl) (by simp) ?_
  refine AllReadyH.cons rfl (fun K hK => ?_) (AllReadyH.nil)
  rw [if_pos (by rfl)]
  go_wp2_with fail
  obtain ⟨gr, hgr⟩ : ∃ gr, y.heap.size = gr := ⟨_, rfl⟩
  have HRO := Lib.hid (HY.out.alloc rulesO).drew
  rw [hgr] at HRO ⊢
  refine at_K (fun v => Sb w v ((gr, rulesO) :: (g, .cells dsk 61 (0, 0)) :: AL w.heap.size)) HRO.out fun v hv => ?_
  have HV := Lib.hid hv
  have HZE : Hid (v.heap[w.heap.size]? = some (.cells zero26 61 (0, 0))) := Lib.hid (hv.2 (w.heap.size, .cells zero26 61) (by simp [AL])).2
  have hgrw : gr ≠ w.heap.size := by have := (Array.getElem?_eq_some_iff.1 (HY.out.2 (w.heap.size, .cells zero26 61) (by simp [AL])).2).1; have h2 : w.heap.size < y.heap.size := this; omega
  have hgw : g ≠ w.heap.size := by have := HGE.out (w.heap.size, .cells zero26 61) (by simp [AL]); have h2 : w.heap.size < g := this; omega
  refine hK.out _ _ ⟨hv.1, hv.tl.heap⟩ (fun hHeld2 => ?_)
  clear hHeld hK hv
  have hHeld := hHeld2
  clear hHeld2
  (try simp only [Act.put, List.getElem_toArray, List.getElem_cons_zero, List.getElem_cons_succ, List.setIfInBounds_toArray, List.set_cons_zero, List.set_cons_succ])
  refine wpAnyH_take (i := 5) (v := (.slice (some ⟨gr, 0, none⟩) 3 3)) rfl (by kernel_rfl) (by kernel_rfl) (by kernel_rfl) (fun _ _ _ h => h) (Or.inl ⟨by rfl, by (intro w hSw; (try dsimp only at hSw); go_simp)⟩) hHeld ?_
  (try simp only [Act.put, List.getElem_toArray, List.getElem_cons_zero, List.getElem_cons_succ, List.setIfInBounds_toArray, List.set_cons_zero, List.set_cons_succ])
  refine wpAnyH_ready (rs := [6]) (by kernel_rfl) (by simp) ?_
  refine AllReadyH.cons rfl (fun K hK => ?_) (AllReadyH.nil)
  rw [if_pos (by rfl)]
  refine wp_store_row 61 (.tmp 1) (.tmp 20) rfl w.heap.size dsk rfl rfl 61 _ HZE.out (by rw [info26, HDC.out.sz]) (by rw [zero26_size, HDC.out.sz]) (Array.all_eq_true_iff_forall_mem.2 HDC.out.one) ?_
  have hrow := setRow_heap v w.heap.size zero26 dsk 61 (0, 0) HZE.out
  have hoth : ∀ c ∈ (gr, rulesO) :: (g, Obj.cells dsk 61 (0, 0)) :: AL w.heap.size, c.1 ≠ w.heap.size → (v.setRow w.heap.size dsk).heap[c.1]? = some c.2 := fun c hc hne => (setRow_other v w.heap.size c.1 dsk hne).trans (HV.out.2 c hc).2
  have hbel : Below w.heap.size w (v.setRow w.heap.size dsk) := below_row HV.out.1 (Nat.le_refl _) _
  have HROW := Lib.hid hrow
  have HOTH := Lib.hid hoth
  have HBEL := Lib.hid hbel
  clear hrow hoth hbel
  refine hK.out _ _ ⟨HBEL.out, HOTH.out (g, .cells dsk 61 (0, 0)) (List.mem_cons_of_mem _ (List.mem_cons_self ..)) hgw⟩ (fun hHeld3 => ?_)
  refine wpAnyH_done (by kernel_rfl) ?_ _
  go_wp2_with fail
  have g7 := HOTH.out (w.heap.size + 6, _) (List.mem_cons_of_mem _ (List.mem_cons_of_mem _ (by unfold AL; exact List.mem_cons_self ..))) (by simp)
  have g6 := HOTH.out (w.heap.size + 5, .cells #[.slice (some ⟨w.heap.size + 1, 0, none⟩) 4 4, .slice (some ⟨w.heap.size + 2, 0, none⟩) 4 4, .slice (some ⟨w.heap.size + 3, 0, none⟩) 4 4, .slice (some ⟨w.heap.size + 4, 0, none⟩) 4 4] 25) (by simp [AL]) (by simp)
  have g4 := HOTH.out (w.heap.size + 4, .cells #[.int .i64 (-1), .int .i64 (-1), .int .i64 (-1), .int .i64 3] 3) (by simp [AL]) (by simp)
  have g3 := HOTH.out (w.heap.size + 3, .cells #[.int .i64 (-1), .int .i64 (-1), .int .i64 (-1), .int .i64 (-1)] 3) (by simp [AL]) (by simp)
  have g2 := HOTH.out (w.heap.size + 2, .cells #[.int .i64 (-1), .int .i64 1, .int .i64 (-1), .int .i64 (-1)] 3) (by simp [AL]) (by simp)
  have g1 := HOTH.out (w.heap.size + 1, .cells #[.int .i64 (-1), .int .i64 1, .int .i64 2, .int .i64 3] 3) (by simp [AL]) (by simp)
  have g0 := HOTH.out (gr, rulesO) (List.mem_cons_self ..) hgrw
  refine bodyPost_ret (v := .tuple #[.slice (some ⟨gr, 0, none⟩) 3 3, .agg dsk]) (results_ab rfl rfl HROW.out HDC.out.sz) rfl ⟨dsk, _, _, gr, rfl, HDC.out, ⟨?_, ?_, fun b hb => hb, by decide, by decide, by decide⟩, ?_, HBEL.out⟩
  · refine ⟨_, _, rfl, fun _ => ⟨w.heap.size + 5, 0, rfl, (Array.getElem?_eq_some_iff.1 g6).1, fun i hi => ?_⟩⟩
    have hi5 : i < 4 := hi
    rcases (by omega : i = 0 ∨ i = 1 ∨ i = 2 ∨ i = 3) with rfl | rfl | rfl | rfl
    · exact ⟨_, _, iv4 g1, cell_of_row _ _ 0 _ 25 (0, 0) g6⟩
    · exact ⟨_, _, iv4 g2, cell_of_row _ _ 1 _ 25 (0, 0) g6⟩
    · exact ⟨_, _, iv4 g3, cell_of_row _ _ 2 _ 25 (0, 0) g6⟩
    · exact ⟨_, _, iv4 g4, cell_of_row _ _ 3 _ 25 (0, 0) g6⟩
  · exact iv4 g7
  · intro _
    refine ⟨gr, 0, rfl, (Array.getElem?_eq_some_iff.1 g0).1, fun j hj => ?_⟩
    have hj3 : j < 3 := hj
    have hc := fun k => cell_of_row _ gr k _ 130 (0, 0) g0
    rcases (by omega : j = 0 ∨ j = 1 ∨ j = 2) with rfl | rfl | rfl
    · exact ⟨0, 0, 0, 0, 0, none, 0, 0, hc 0, hc 1, hc 2, hc 3, hc 4, hc 5, hc 6⟩
    · exact ⟨0, 0, 0, 0, 0, none, 0, 0, hc 7, hc 8, hc 9, hc 10, hc 11, hc 12, hc 13⟩
    · exact ⟨0, 0, 0, 0, 0, none, 0, 0, hc 14, hc 15, hc 16, hc 17, hc 18, hc 19, hc 20⟩
end Go.Proofs.Ytemkppjdfjoipaa.AB
