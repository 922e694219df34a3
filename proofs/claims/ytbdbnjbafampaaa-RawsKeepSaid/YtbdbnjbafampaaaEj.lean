/- Packages dfa, mini, munch. -/
import Derived.Test.YtbdbnjbafampaaaProg
import Derived.Test.YtbdbnjbafampaaaEh
import Derived.Test.YtbdbnjbafampaaaEd
import Derived.WalkKit
import Derived.BigFrame
import Derived.WalkMore
import Derived.ScopeJumps
import Derived.StillTailTactics
import Derived.Stop.BytesEq
import Derived.WalkLawsBesides
import Derived.WalkSpells
import Derived.Outline
import Derived.Lib.Walk
import Derived.Lib.Hide
import Derived.Lib.Slices
import Derived.Lib.Strings
import Derived.RegionTactic
import Derived.LoopTactic
import Derived.Below
import Derived.IntWalk
import Derived.Deep.QuietTactic
import Derived.BigQuiet
import Derived.Deep.MidRow
import Derived.Maps.AppendAt
import Derived.Laws.Rows
import Derived.Laws.Tables
import Derived.Deep.WholeRow
import Derived.Deep.Cut
import Derived.Deep.CutRange
import Derived.Lib.SliceRun
import Derived.Laws.MakeOwn
import Derived.Deep.RegionLaw
import Derived.Deep.RegionLawGrows
import Derived.Deep.RegionHeld3
import Derived.RegionCalls
import Derived.Deep.RegionWith
import Derived.Deep.Light
import Derived.Laws.CopyOwn
import Derived.Laws.ResultCell
namespace Go.Proofs.Ytbdbnjbafampaaa
set_option linter.unusedSimpArgs false
set_option linter.unusedVariables false
set_option maxRecDepth 100000
open Go.RowKit
/- The chapter's automaton. -/
def kD : Df := ⟨0, fun i => if i = 97 then 1 else if i = 98 then 2 else 0, [[-1, 1, 2], [-1, 1, 3], [-1, -1, -1], [-1, 4, -1], [-1, -1, -1]], [-1, 4, 5, -1, 6]⟩
def kd (v1 v2 : Value) : Array Value := #[.int .i64 0] ++ Array.replicate 256 (.int .u8 0) ++ #[v1, v2]
theorem kd_size (v1 v2 : Value) : (kd v1 v2).size = 259 := by simp [kd]
theorem built26 (p q : Option Addr) (n c m f : Nat) : Try.prog.built 26 [(2, .slice p n c), (3, .slice q m f)] = some (kd (.slice p n c) (.slice q m f)) := by kernel_rfl
theorem wpList_build26 {ops : Array Oper} {rest : List Oper} {o : Oper} {a : Act} {w : World} {Q : Exit → Act → World → Prop} (hg : o.guard = none) (x y : Operand) (ho : o.op = .build 26 #[(2, x), (3, y)]) (p q : Option Addr) (n c m f : Nat) (hx : a.eval x = .slice p n c) (hy : a.eval y = .slice q m f)
    (h : wpList Try.prog ops Q rest (a.put o.dst (.agg (kd (.slice p n c) (.slice q m f)))) w) : wpList Try.prog ops Q (o :: rest) a w := by
  have e : (#[(2, x), (3, y)].map fun (i, x) => (i, a.eval x)).toList = [(2, .slice p n c), (3, .slice q m f)] := by simp [hx, hy]
  refine wpList_build hg 26 _ ho ?_ ?_
  · rw [e, built26]; rfl
  · rw [e, built26]; exact h
theorem kd_one (p q : Option Addr) (n c m f : Nat) : ∀ v ∈ kd (.slice p n c) (.slice q m f), v.oneCell' = true := by
  intro v hv
  simp only [kd, Array.mem_append, Array.mem_replicate] at hv
  rcases hv with (hv | hv) | hv
  · simp at hv; subst hv; rfl
  · rw [hv.2]; rfl
  · simp at hv; rcases hv with rfl | rfl <;> rfl
/-- Its cells. -/
def ks (v1 v2 : Value) : Array Value := ((kd v1 v2).setIfInBounds 98 (.int .u8 1)).setIfInBounds 99 (.int .u8 2)
theorem ks_size (v1 v2 : Value) : (ks v1 v2).size = 259 := by simp [ks, kd_size]
theorem kd_get (v1 v2 : Value) (i : Nat) (h : i < 256) : (kd v1 v2)[1 + i]? = some (.int .u8 0) := by
  unfold kd
  rw [Array.getElem?_append_left (by simp; omega), Array.getElem?_append_right (by simp)]
  simp [h]
theorem kd_a (v1 v2 : Value) : (kd v1 v2)[257]? = some v1 := by
  unfold kd
  rw [Array.getElem?_append_right (by simp)]
  simp
theorem kd_b (v1 v2 : Value) : (kd v1 v2)[258]? = some v2 := by
  unfold kd
  rw [Array.getElem?_append_right (by simp)]
  simp
theorem ks_dc (g1 g2 : Nat) : DC kD (ks (.slice (some ⟨g1, 0, none⟩) 5 5) (.slice (some ⟨g2, 0, none⟩) 5 5)) (some ⟨g1, 0, none⟩) (some ⟨g2, 0, none⟩) 5 5 := by
  have hs := kd_size (.slice (some ⟨g1, 0, none⟩) 5 5) (.slice (some ⟨g2, 0, none⟩) 5 5)
  refine ⟨ks_size _ _, fun v hv => ?_, ?_, fun i hi => ?_, ?_, ?_⟩
  · unfold ks at hv
    rw [Array.mem_iff_getElem] at hv
    obtain ⟨i, hi, rfl⟩ := hv
    rw [Array.getElem_setIfInBounds (by simpa using hi)]
    split
    · rfl
    · rw [Array.getElem_setIfInBounds (by simpa using hi)]
      split
      · rfl
      · exact kd_one _ _ _ _ _ _ _ (Array.getElem_mem _)
  · unfold ks
    rw [Array.getElem?_setIfInBounds_ne (by decide), Array.getElem?_setIfInBounds_ne (by decide)]
    unfold kd
    rw [Array.getElem?_append_left (by simp), Array.getElem?_append_left (by simp)]
    rfl
  · unfold ks
    rw [Array.getElem?_setIfInBounds, Array.getElem?_setIfInBounds, kd_get _ _ i hi]
    refine ⟨?_, by unfold kD; simp only; split <;> (try split) <;> omega⟩
    unfold kD
    simp only [Array.size_setIfInBounds, hs]
    by_cases h1 : i = 97
    · subst h1; simp
    · by_cases h2 : i = 98
      · subst h2; simp
      · rw [if_neg (by omega), if_neg (by omega)]; simp [h1, h2]
  · unfold ks
    rw [Array.getElem?_setIfInBounds_ne (by decide), Array.getElem?_setIfInBounds_ne (by decide)]
    exact kd_a _ _
  · unfold ks
    rw [Array.getElem?_setIfInBounds_ne (by decide), Array.getElem?_setIfInBounds_ne (by decide)]
    exact kd_b _ _
def r3 (a b c : Int) : Array Value := #[.int .i64 a, .int .i64 b, .int .i64 c]
def KnP (w : World) (e : Ending) (w' : World) : Prop := ∃ ds p q, e = .returned (.agg ds) ∧ DC kD ds p q 5 5 ∧ DM (fun b => b < w'.heap.size) w' kD p q 5 5 ∧ Below w.heap.size w w'
theorem iv3 {w : World} {b : Nat} {x y z : Int} (h : w.heap[b]? = some (.cells #[.int .i64 x, .int .i64 y, .int .i64 z] 3 (0, 0))) : IV (fun b => b < w.heap.size) w [x, y, z] (.slice (some ⟨b, 0, none⟩) 3 3) :=
  ⟨_, _, rfl, fun _ => ⟨b, 0, rfl, (Array.getElem?_eq_some_iff.1 h).1, fun i hi => by
    rw [Nat.zero_add, cell_of_row w b i _ 3 (0, 0) h]
    simp at hi
    rcases (by omega : i = 0 ∨ i = 1 ∨ i = 2) with rfl | rfl | rfl <;> rfl⟩⟩
theorem wpList_world {P : Program} {ops : Array Oper} {l : List Oper} {a : Act} {w : World} {Q : Exit → Act → World → Prop} (R : World → Prop) (hR : R w) (h : ∀ z, R z → wpList P ops Q l a z) : wpList P ops Q l a w := h w hR
/-- What lies there. -/
def KL (b : Nat) : List (Nat × Obj) := [(b + 7, .cells #[.int .i64 (-1), .int .i64 4, .int .i64 5, .int .i64 (-1), .int .i64 6] 3), (b + 6, .cells #[.slice (some ⟨b + 1, 0, none⟩) 3 3, .slice (some ⟨b + 2, 0, none⟩) 3 3, .slice (some ⟨b + 3, 0, none⟩) 3 3, .slice (some ⟨b + 4, 0, none⟩) 3 3, .slice (some ⟨b + 5, 0, none⟩) 3 3] 24),
  (b + 5, .cells #[.int .i64 (-1), .int .i64 (-1), .int .i64 (-1)] 3), (b + 4, .cells #[.int .i64 (-1), .int .i64 4, .int .i64 (-1)] 3), (b + 3, .cells #[.int .i64 (-1), .int .i64 (-1), .int .i64 (-1)] 3), (b + 2, .cells #[.int .i64 (-1), .int .i64 1, .int .i64 3] 3), (b + 1, .cells #[.int .i64 (-1), .int .i64 1, .int .i64 2] 3), (b, .cells zero26 26)]
set_option maxHeartbeats 8000000 in
theorem known_any (w : World) : Calls Try.prog 58 #[] w (KnP w) := by
  have hz := (zero_of_info info26r).1
  have L0 := (Sb.start w).alloc (.cells zero26 26)
  have L1 := L0.alloc (.cells #[.int .i64 (-1), .int .i64 1, .int .i64 2] 3)
  have L2 := L1.alloc (.cells #[.int .i64 (-1), .int .i64 1, .int .i64 3] 3)
  have L3 := L2.alloc (.cells #[.int .i64 (-1), .int .i64 (-1), .int .i64 (-1)] 3)
  have L4 := L3.alloc (.cells #[.int .i64 (-1), .int .i64 4, .int .i64 (-1)] 3)
  have L5 := L4.alloc (.cells #[.int .i64 (-1), .int .i64 (-1), .int .i64 (-1)] 3)
  have L6 := L5.alloc (.cells #[.slice (some ⟨w.heap.size + 1, 0, none⟩) 3 3, .slice (some ⟨w.heap.size + 1 + 1, 0, none⟩) 3 3, .slice (some ⟨w.heap.size + 1 + 1 + 1, 0, none⟩) 3 3, .slice (some ⟨w.heap.size + 1 + 1 + 1 + 1, 0, none⟩) 3 3, .slice (some ⟨w.heap.size + 1 + 1 + 1 + 1 + 1, 0, none⟩) 3 3] 24)
  have L7 := L6.alloc (.cells #[.int .i64 (-1), .int .i64 4, .int .i64 5, .int .i64 (-1), .int .i64 6] 3)
  have hsz : ∀ (w : World) (o : Obj), (w.alloc o).heap.size = w.heap.size + 1 := fun w o => by simp
  simp only [hsz] at L7
  have HL7 := Lib.hid L7
  clear L0 L1 L2 L3 L4 L5 L6 L7 hsz
  go_enter Try.func58, Try.ntmps58
  go_upto_region 1 with fail
  refine wp_region_list ?_
  refine wpList_plain rfl fun K hK => ?_
  have hK2 := Lib.hid hK
  clear hK
  go_wp2_with fail
  refine hK2.out _ _ ?_
  clear hK2 K
  refine wpList_plain rfl fun K hK => ?_
  have hK2 := Lib.hid hK
  clear hK
  go_wp2_with fail
  refine hK2.out _ _ ?_
  clear hK2 K
  refine wpList_plain rfl fun K hK => ?_
  have hK2 := Lib.hid hK
  clear hK
  go_wp2_with fail
  refine hK2.out _ _ ?_
  clear hK2 K
  refine wpList_plain rfl fun K hK => ?_
  have hK2 := Lib.hid hK
  clear hK
  go_wp2_with fail
  refine hK2.out _ _ ?_
  clear hK2 K
  refine wpList_plain rfl fun K hK => ?_
  have hK2 := Lib.hid hK
  clear hK
  go_wp2_with fail
  refine hK2.out _ _ ?_
  clear hK2 K
  refine wpList_plain rfl fun K hK => ?_
  have hK2 := Lib.hid hK
  clear hK
  go_wp2_with fail
  refine hK2.out _ _ ?_
  clear hK2 K
  refine wpList_plain rfl fun K hK => ?_
  have hK2 := Lib.hid hK
  clear hK
  go_wp2_with fail
  refine hK2.out _ _ ?_
  clear hK2 K
  refine wpList_build26 rfl _ _ rfl _ _ _ _ _ _ rfl rfl ?_
  refine wpList_world (fun z => Sb w z (KL w.heap.size)) HL7.out fun z hz7 => ?_
  have HZ7 := Lib.hid hz7
  have HS8 := Lib.hid (hz7.alloc (.cells zero26 26))
  have HS9 := Lib.hid ((hz7.alloc (.cells zero26 26)).setRow (cs' := kd (.slice (some ⟨w.heap.size + 6, 0, none⟩) 5 5) (.slice (some ⟨w.heap.size + 7, 0, none⟩) 5 5)) (fun c hc => by
    have := (Array.getElem?_eq_some_iff.1 (hz7.2 c hc).2).1
    omega))
  clear hz7 HL7
  simp only [Act.put, List.setIfInBounds_toArray, List.set_cons_succ, List.set_cons_zero]
  refine wpList_plain rfl fun K hK => ?_
  have hK2 := Lib.hid hK
  clear hK
  go_wp2_with fail
  refine hK2.out _ _ ?_
  clear hK2 K
  have hheap : (z.alloc (.cells zero26 26)).heap[z.heap.size]? = some (.cells zero26 26 (0, 0)) := HS8.out.heap
  refine wpList_store_row rfl 26 (.tmp 1) (.tmp 9) rfl z.heap.size (kd (.slice (some ⟨w.heap.size + 6, 0, none⟩) 5 5) (.slice (some ⟨w.heap.size + 7, 0, none⟩) 5 5)) rfl rfl 26 zero26 hheap (by rw [info26, kd_size]) (by rw [zero26_size, kd_size]) (Array.all_eq_true_iff_forall_mem.2 (kd_one _ _ _ _ _ _)) ?_
  refine wpList_nil ?_
  clear hheap HS8
  obtain ⟨g, hg⟩ : ∃ g, z.heap.size = g := ⟨_, rfl⟩
  have HGE : Hid (∀ c ∈ KL w.heap.size, c.1 < g) := Lib.hid fun c hc => by rw [← hg]; exact (Array.getElem?_eq_some_iff.1 (HZ7.out.2 c hc).2).1
  rw [hg] at HS9 ⊢
  clear hg HZ7
  refine at_worldQ (fun v => Sb w v ((g, .cells (kd (.slice (some ⟨w.heap.size + 6, 0, none⟩) 5 5) (.slice (some ⟨w.heap.size + 7, 0, none⟩) 5 5)) 26 (0, 0)) :: KL w.heap.size)) HS9.out fun v hv => ?_
  have HV := Lib.hid hv
  have v1 : v.cell? ⟨g, 98, none⟩ = some (.int .u8 0) := (hv.cell 98).trans (kd_get _ _ 97 (by omega))
  have f1 : v.frozen? ⟨g, 98, none⟩ = false := hv.free 98
  have HV1 := Lib.hid (hv.set (i := 98) (.int .u8 1) (fun c hc => by have := HGE.out c hc; omega))
  have v2 : (v.setCell ⟨g, 98, none⟩ (.int .u8 1)).cell? ⟨g, 99, none⟩ = some (.int .u8 0) := (HV1.out.cell 99).trans (by rw [Array.getElem?_setIfInBounds_ne (by decide)]; exact kd_get _ _ 98 (by omega))
  have f2 : (v.setCell ⟨g, 98, none⟩ (.int .u8 1)).frozen? ⟨g, 99, none⟩ = false := HV1.out.free 99
  have HV2 : Hid (Sb w ((v.setCell ⟨g, 98, none⟩ (.int .u8 1)).setCell ⟨g, 99, none⟩ (.int .u8 2)) ((g, .cells (ks (.slice (some ⟨w.heap.size + 6, 0, none⟩) 5 5) (.slice (some ⟨w.heap.size + 7, 0, none⟩) 5 5)) 26 (0, 0)) :: KL w.heap.size)) := Lib.hid (HV1.out.set (i := 99) (.int .u8 2) (fun c hc => by have := HGE.out c hc; omega))
  clear HS9 hv HV
  go_upto_region 4 with fail
  refine at_world (fun v => Sb w v ((g, .cells (ks (.slice (some ⟨w.heap.size + 6, 0, none⟩) 5 5) (.slice (some ⟨w.heap.size + 7, 0, none⟩) 5 5)) 26 (0, 0)) :: KL w.heap.size)) HV2.out fun y hy => ?_
  have HY := Lib.hid hy
  obtain ⟨dsk, hdk⟩ : ∃ dsk, ks (.slice (some ⟨w.heap.size + 6, 0, none⟩) 5 5) (.slice (some ⟨w.heap.size + 7, 0, none⟩) 5 5) = dsk := ⟨_, rfl⟩
  have HDC : Hid (DC kD dsk (some ⟨w.heap.size + 6, 0, none⟩) (some ⟨w.heap.size + 7, 0, none⟩) 5 5) := Lib.hid (by rw [← hdk]; exact ks_dc _ _)
  have HBX : Hid (BX y g dsk) := Lib.hid (by rw [← hdk]; exact hy.heap)
  have HZE : Hid (y.heap[w.heap.size]? = some (.cells zero26 26 (0, 0))) := Lib.hid (hy.2 (w.heap.size, .cells zero26 26) (by simp [KL])).2
  clear v1 v2 f1 f2 HV1 HV2 hy hdk
  go_wp2_with (first | (refine wpList_load_Dg _ rfl g dsk rfl HBX.out HDC.out.sz rfl ?_) | (refine wpList_store_row rfl 26 (.tmp 0) (.tmp 14) rfl w.heap.size dsk rfl rfl 26 zero26 HZE.out (by rw [info26, HDC.out.sz]) (by rw [zero26_size, HDC.out.sz]) (Array.all_eq_true_iff_forall_mem.2 HDC.out.one) ?_))
  have hrow := setRow_heap y w.heap.size zero26 dsk 26 (0, 0) HZE.out
  have hoth : ∀ c ∈ KL w.heap.size, c.1 ≠ w.heap.size → (y.setRow w.heap.size dsk).heap[c.1]? = some c.2 := fun c hc hne => (setRow_other y w.heap.size c.1 dsk hne).trans (HY.out.2 c (List.mem_cons_of_mem _ hc)).2
  have hbel : Below w.heap.size w (y.setRow w.heap.size dsk) := below_row HY.out.1 (Nat.le_refl _) _
  have g7 := hoth (w.heap.size + 7, _) (by unfold KL; exact List.mem_cons_self ..) (by simp)
  have g6 := hoth (w.heap.size + 6, .cells #[.slice (some ⟨w.heap.size + 1, 0, none⟩) 3 3, .slice (some ⟨w.heap.size + 2, 0, none⟩) 3 3, .slice (some ⟨w.heap.size + 3, 0, none⟩) 3 3, .slice (some ⟨w.heap.size + 4, 0, none⟩) 3 3, .slice (some ⟨w.heap.size + 5, 0, none⟩) 3 3] 24) (by simp [KL]) (by simp)
  have g5 := hoth (w.heap.size + 5, .cells #[.int .i64 (-1), .int .i64 (-1), .int .i64 (-1)] 3) (by simp [KL]) (by simp)
  have g4 := hoth (w.heap.size + 4, .cells #[.int .i64 (-1), .int .i64 4, .int .i64 (-1)] 3) (by simp [KL]) (by simp)
  have g3 := hoth (w.heap.size + 3, .cells #[.int .i64 (-1), .int .i64 (-1), .int .i64 (-1)] 3) (by simp [KL]) (by simp)
  have g2 := hoth (w.heap.size + 2, .cells #[.int .i64 (-1), .int .i64 1, .int .i64 3] 3) (by simp [KL]) (by simp)
  have g1 := hoth (w.heap.size + 1, .cells #[.int .i64 (-1), .int .i64 1, .int .i64 2] 3) (by simp [KL]) (by simp)
  refine bodyPost_ret (v := .agg dsk) (results_cell_row rfl _ _ w.heap.size 26 _ (0, 0) _ rfl hrow Try.underlying26 rfl (by rw [info26, HDC.out.sz])) rfl ⟨dsk, _, _, rfl, HDC.out, ⟨?_, ?_, fun b hb => hb, by decide, by decide, by decide⟩, hbel⟩
  · refine ⟨_, _, rfl, fun _ => ⟨w.heap.size + 6, 0, rfl, (Array.getElem?_eq_some_iff.1 g6).1, fun i hi => ?_⟩⟩
    have hi5 : i < 5 := hi
    rcases (by omega : i = 0 ∨ i = 1 ∨ i = 2 ∨ i = 3 ∨ i = 4) with rfl | rfl | rfl | rfl | rfl
    · exact ⟨_, _, iv3 g1, cell_of_row _ _ 0 _ 24 (0, 0) g6⟩
    · exact ⟨_, _, iv3 g2, cell_of_row _ _ 1 _ 24 (0, 0) g6⟩
    · exact ⟨_, _, iv3 g3, cell_of_row _ _ 2 _ 24 (0, 0) g6⟩
    · exact ⟨_, _, iv3 g4, cell_of_row _ _ 3 _ 24 (0, 0) g6⟩
    · exact ⟨_, _, iv3 g5, cell_of_row _ _ 4 _ 24 (0, 0) g6⟩
  · refine ⟨_, _, rfl, fun _ => ⟨w.heap.size + 7, 0, rfl, (Array.getElem?_eq_some_iff.1 g7).1, fun i hi => ?_⟩⟩
    have hi5 : i < 5 := hi
    rcases (by omega : i = 0 ∨ i = 1 ∨ i = 2 ∨ i = 3 ∨ i = 4) with rfl | rfl | rfl | rfl | rfl <;> exact cell_of_row _ _ _ _ 3 (0, 0) g7
end Go.Proofs.Ytbdbnjbafampaaa
