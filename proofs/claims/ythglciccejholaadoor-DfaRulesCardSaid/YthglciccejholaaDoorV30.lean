/- Texts of package regs, one behind the other. -/
import Derived.Test.YthglciccejholaaDoorProg
import Derived.Test.YthglciccejholaaDoorGk
import Derived.Test.YthglciccejholaaDoorGi
import Derived.Great.BuildSlice
import Derived.WalkKit
import Derived.Maps.OwnSet
import Derived.Maps.OwnOps
import Derived.Maps.Own
import Derived.DeepKeys5
import Derived.BigFrame
import Derived.WalkMore
import Derived.ScopeJumps
import Derived.StillTailTactics
import Derived.Stop.BytesEq
import Derived.WalkLawsBesides
import Derived.WalkSpells
import Derived.Outline
import Derived.Lib.Walk
import Derived.Lib.Hide
import Derived.Lib.Slices
import Derived.Lib.Strings
import Derived.RegionTactic
import Derived.LoopTactic
import Derived.Below
import Derived.IntWalk
import Derived.Deep.QuietTactic
import Derived.BigQuiet
import Derived.Deep.MidRow
import Derived.Maps.AppendAt
import Derived.Laws.Rows
import Derived.Laws.Tables
import Derived.Deep.WholeRow
import Derived.Deep.Cut
import Derived.Deep.CutRange
import Derived.Lib.SliceRun
import Derived.Laws.MakeOwn
import Derived.Deep.RegionLaw
import Derived.Deep.RegionLawGrows
import Derived.Deep.RegionHeld3
import Derived.RegionCalls
import Derived.Deep.RegionWith
import Derived.Deep.Light
import Derived.Laws.CopyOwn
import Derived.Laws.ResultCell
section
/- Package dfa. -/
namespace Go.Proofs.YthglciccejholaaDoor
set_option linter.unusedSimpArgs false
set_option linter.unusedVariables false
set_option maxRecDepth 100000
open Go.RowKit
/- newBuilder. -/
open Go.Maps
def bd0 (q : Option Addr) (n c M : Nat) : Array Value := #[.slice q n c, .slice none 0 0] ++ Array.replicate 64 (.int .u64 0) ++ Array.replicate 256 (.int .u8 0) ++ #[.slice none 0 0, .slice none 0 0, .map (some M), .slice none 0 0] ++ Array.replicate 64 (.int .u64 0) ++ #[.slice none 0 0]
theorem built144 (q : Option Addr) (n c M : Nat) : Tryd.prog.built 144 [(0, .slice q n c), (6, .map (some M))] = some (bd0 q n c M) := by kernel_rfl
theorem wpList_build144 {ops : Array Oper} {rest : List Oper} {o : Oper} {a : Act} {w : World} {Q : Exit → Act → World → Prop} (hg : o.guard = none) (x y : Operand) (ho : o.op = .build 144 #[(0, x), (6, y)]) (q : Option Addr) (n c M : Nat) (hx : a.eval x = .slice q n c) (hy : a.eval y = .map (some M))
    (h : wpList Tryd.prog ops Q rest (a.put o.dst (.agg (bd0 q n c M))) w) : wpList Tryd.prog ops Q (o :: rest) a w := by
  have e : ((#[(0, x), (6, y)] : Array (Nat × Operand)).map fun (i, x) => (i, a.eval x)).toList = [(0, .slice q n c), (6, .map (some M))] := by simp [hx, hy]
  refine wpList_build hg 144 _ ho ?_ ?_
  · rw [e, built144]; rfl
  · rw [e, built144]; exact h
theorem bd0_size (q : Option Addr) (n c M : Nat) : (bd0 q n c M).size = 391 := by simp [bd0]
theorem bd0_2 (q : Option Addr) (n c M : Nat) : (bd0 q n c M)[322]? = some (.slice none 0 0) ∧ (bd0 q n c M)[323]? = some (.slice none 0 0) ∧ (bd0 q n c M)[324]? = some (.map (some M)) ∧ (bd0 q n c M)[325]? = some (.slice none 0 0) ∧ (bd0 q n c M)[390]? = some (.slice none 0 0) := by
  refine ⟨?_, ?_, ?_, ?_, ?_⟩ <;> kernel_rfl
theorem bd0_fr (q : Option Addr) (n c M : Nat) : ∀ i, i < 64 → (bd0 q n c M)[326 + i]? = some (.int .u64 0) := by
  intro i hi
  unfold bd0
  rw [Array.getElem?_append_left (by simp; omega), Array.getElem?_append_right (by simp)]
  simp only [Array.size_append, Array.size_replicate, List.size_toArray, List.length_cons, List.length_nil]
  rw [Array.getElem?_replicate, if_pos (by omega)]
/-- A builder's cells while the free ways are laid. -/
structure NB (q : Option Addr) (n c M : Nat) (R : Array Value) (fv : Value) : Prop where
  sz : R.size = 391
  c0 : R[0]? = some (.slice q n c)
  c1 : R[1]? = some fv
  rest : ∀ i, 2 ≤ i → R[i]? = (bd0 q n c M)[i]?
theorem NB.start (q : Option Addr) (n c M : Nat) : NB q n c M (bd0 q n c M) (.slice none 0 0) := ⟨bd0_size .., by kernel_rfl, by kernel_rfl, fun _ _ => rfl⟩
theorem NB.put {q : Option Addr} {n c M : Nat} {R : Array Value} {fv : Value} (h : NB q n c M R fv) (fv' : Value) : NB q n c M (R.setIfInBounds 1 fv') fv' := by
  have hs := h.sz
  refine ⟨by simpa using hs, ?_, ?_, fun i hi => ?_⟩
  · rw [Array.getElem?_setIfInBounds_ne (by omega)]; exact h.c0
  · rw [Array.getElem?_setIfInBounds]; simp [hs]
  · rw [Array.getElem?_setIfInBounds_ne (by omega)]; exact h.rest i hi
def FC (D : Nat → Prop) (w : World) (ss : List Nst) (j : Nat) (fc : List Value) : Prop := fc.length = j ∧ ∀ i (h : i < ss.length), i < j → ∃ qf f, fc[i]? = some (.slice qf ss[i].fr.length f) ∧ IV D w ss[i].fr (.slice qf ss[i].fr.length f)
end Go.Proofs.YthglciccejholaaDoor
end
section
/- Package dfa. -/
namespace Go.Proofs.YthglciccejholaaDoor
set_option linter.unusedSimpArgs false
set_option linter.unusedVariables false
set_option maxRecDepth 100000
open Go.RowKit
/- newBuilder. -/
open Go.Maps
set_option maxHeartbeats 16000000 in
theorem newB_any {D : Nat → Prop} {w : World} {st : Int} {ss : List Nst} {q : Option Addr} {c : Nat} (hD : ∀ b, D b → b < w.heap.size) (hSV : SV D w ss (.slice q ss.length c)) (hn : ss.length ≤ 4096) (hfree : frees ss ≤ 16384) (hfr : InB ss) (hto : ∀ s ∈ ss, s.to < ss.length) (hok : ∀ s ∈ ss, okW s.u) :
    Calls Tryd.prog 55 #[nV st q ss.length c] w fun e w' => ∃ R fv fc R3 bv, e = .returned (.pointer (some ⟨w.heap.size + 1 + 1, 0, none⟩)) ∧ NB q ss.length c (w.heap.size + 1) R fv ∧ FC D w ss ss.length fc ∧ RS ss (putA R 2 (sA (mb (liveL ss))).toList) R3 256 bv ∧
      Sep w.heap.size w w' (.box (w.heap.size + 1 + 1) (.cells R3 144) :: .row bv 139 64 (byL ss 256).length (setF (byL ss 256)) :: .row fv 39 1 fc.length fc :: [.box (w.heap.size + 1) (.map #[] 0), .box w.heap.size (.cells #[.int .i64 st, .slice q ss.length c] 33)]) := by
  have HFREE := Lib.hid hfree
  have HFR := Lib.hid hfr
  have HTO := Lib.hid hto
  have HOK := Lib.hid hok
  clear hfr hto hok
  have hmm := @run_makeMap Tryd.prog
  have HSV := Lib.hid hSV
  have HD := Lib.hid hD
  clear hSV hD
  unfold nV
  go_enter Tryd.func55, Tryd.ntmps55
  go_upto_region 1 with fail
  refine wp_region_list ?_
  refine wpList_plain rfl fun K hK => ?_
  have hK2 := Lib.hid hK
  clear hK
  go_wp2_with fail
  refine hK2.out _ _ ?_
  clear hK2 K
  refine wpList_plain rfl fun K hK => ?_
  have hK2 := Lib.hid hK
  clear hK
  go_wp2_with fail
  refine hK2.out _ _ ?_
  clear hK2 K
  refine wpList_plain rfl fun K hK => ?_
  have hK2 := Lib.hid hK
  clear hK
  go_wp2_with fail
  refine hK2.out _ _ ?_
  clear hK2 K
  (try simp only [Act.put, List.setIfInBounds_toArray, List.set_cons_succ, List.set_cons_zero])
  refine wpList_build144 rfl _ _ rfl q ss.length c (w.heap.size + 1) rfl rfl ?_
  obtain ⟨R1, hR1⟩ : ∃ R1, bd0 q ss.length c (w.heap.size + 1) = R1 := ⟨_, rfl⟩
  rw [hR1]
  have HR1 := Lib.hid hR1
  clear hR1
  (try simp only [Act.put, List.setIfInBounds_toArray, List.set_cons_succ, List.set_cons_zero])
  refine wpList_plain rfl fun K hK => ?_
  have hK2 := Lib.hid hK
  clear hK
  go_wp2_with fail
  refine hK2.out _ _ ?_
  clear hK2 K
  refine wpList_plain rfl fun K hK => ?_
  have hK2 := Lib.hid hK
  clear hK
  go_wp2_with fail
  refine hK2.out _ _ ?_
  clear hK2 K
  (try simp only [Act.put, List.setIfInBounds_toArray, List.set_cons_succ, List.set_cons_zero])
  refine wpList_nil ?_
  obtain ⟨XX, hXX⟩ : ∃ XX : List It, [.box (w.heap.size + 1) (.map #[] 0), .box w.heap.size (.cells #[.int .i64 st, .slice q ss.length c] 33)] = XX := ⟨_, rfl⟩
  refine at_worldQ (fun y => Sep w.heap.size w y (.box (w.heap.size + 1 + 1) (.cells R1 144) :: .row (.slice none 0 0) 39 1 0 [] :: XX)) (by
    have h1 := (((Sep.start w).alloc (.cells #[.int .i64 st, .slice q ss.length c] 33)).alloc (.map #[] 0)).alloc (.cells R1 144)
    have h2 := (h1.nilrow 39 1).perm (List.perm_middle (l₁ := [_]))
    rw [← hXX]
    simpa using h2) fun y hy => ?_
  have hcn : y.cell? ⟨w.heap.size, 1, none⟩ = some (.slice q ss.length c) := by
    have := (hy.li (.box w.heap.size (.cells #[.int .i64 st, .slice q ss.length c] 33)) (by rw [← hXX]; simp)).2
    exact cell_of_row y w.heap.size 1 _ 33 (0, 0) this
  have HXX := Lib.hid hXX
  have HY := Lib.hid hy
  have HNB : Hid (NB q ss.length c (w.heap.size + 1) R1 (.slice none 0 0)) := Lib.hid (by rw [← HR1.out]; exact NB.start ..)
  obtain ⟨bb, hbb⟩ : ∃ bb, w.heap.size + 1 + 1 = bb := ⟨_, rfl⟩
  rw [hbb] at HY ⊢
  have HBBE := Lib.hid hbb
  have hbbM : w.heap.size < bb := by omega
  clear hy hXX HR1 hmm hbb
  go_wp2_with fail
  clear hcn
  go_loopw [14] (fun i wr => ∃ (j : Nat) (R : Array Value) (fv : Value) (fc : List Value), i = .int .i64 (j : Nat) ∧ j ≤ ss.length ∧ Hid (NB q ss.length c (w.heap.size + 1) R fv) ∧ Hid (FC D w ss j fc) ∧ Hid (Sep w.heap.size w wr (.box bb (.cells R 144) :: .row fv 39 1 fc.length fc :: XX))) (fun i _ => ss.length - (intOf i).toNat)
  case atStart => exact ⟨0, R1, _, [], rfl, by omega, HNB, Lib.hid ⟨rfl, fun i h hi => by omega⟩, HY⟩
  case round =>
    clear HY HNB
    obtain ⟨j, R, fv, fc, rfl, hj, HNB, HFC, HY⟩ := hrel
    obtain ⟨wo, rfl⟩ : ∃ wo : World, wo = wr := ⟨_, rfl⟩
    by_cases hlt : j < ss.length
    · obtain ⟨q', c', he, hSV⟩ := HSV.out
      cases he
      obtain ⟨b5, o, rfl, hDb, hx⟩ := hSV (by intro e; rw [e] at hlt; simp at hlt)
      obtain ⟨qf, f, hiv, hcell⟩ := hx j hlt
      have ce : ∀ i y, (stC (ss[j]).u (ss[j]).to (.slice qf (ss[j]).fr.length f) (ss[j]).rl)[i]? = some y → wo.cell? ⟨b5, o + j * 7 + i, none⟩ = some y := fun i y hy => (cell_same (HY.out.bel.block b5 (HD.out b5 hDb)) _).trans (hcell i y hy)
      have hFC2 : FC D w ss (j + 1) (fc ++ [.slice qf ss[j].fr.length f]) := by
        refine ⟨by rw [List.length_append, HFC.out.1]; rfl, fun i h hi => ?_⟩
        by_cases e : i = j
        · subst e
          exact ⟨qf, f, by rw [List.getElem?_append_right (by rw [HFC.out.1]; omega), HFC.out.1]; simp, hiv⟩
        · obtain ⟨q1, f1, h1, h2⟩ := HFC.out.2 i h (by omega)
          exact ⟨q1, f1, by rw [List.getElem?_append_left (by rw [HFC.out.1]; omega)]; exact h1, h2⟩
      have HFC2 := Lib.hid hFC2
      obtain ⟨⟨u, tg, fr, rl⟩, hs⟩ : ∃ s, ss[j] = s := ⟨_, rfl⟩
      rw [hs] at ce HFC2
      simp only at ce HFC2
      have d0 : wo.cell? ⟨b5, o + j * 7, none⟩ = some (.int .u64 (u 0)) := ce 0 _ rfl
      have d1 : wo.cell? ⟨b5, o + j * 7 + 1, none⟩ = some (.int .u64 (u 1)) := ce 1 _ rfl
      have d2 : wo.cell? ⟨b5, o + j * 7 + 2, none⟩ = some (.int .u64 (u 2)) := ce 2 _ rfl
      have d3 : wo.cell? ⟨b5, o + j * 7 + 3, none⟩ = some (.int .u64 (u 3)) := ce 3 _ rfl
      have d4 : wo.cell? ⟨b5, o + j * 7 + 4, none⟩ = some (.int .i64 tg) := ce 4 _ rfl
      have d5 : wo.cell? ⟨b5, o + j * 7 + 5, none⟩ = some (.slice qf fr.length f) := ce 5 _ rfl
      have d6 : wo.cell? ⟨b5, o + j * 7 + 6, none⟩ = some (.int .i64 rl) := ce 6 _ rfl
      have hjI : (j : Int) < (ss.length : Int) := by omega
      have hjI0 : ¬ (j : Int) < 0 := by omega
      have hfl : fc.length ≤ 4096 := by have := HFC.out.1; omega
      have HX := Lib.hid (HY.out.alloc (.cells #[.int .u64 (u 0), .int .u64 (u 1), .int .u64 (u 2), .int .u64 (u 3), .int .i64 tg, .slice qf fr.length f, .int .i64 rl] 73))
      obtain ⟨pv, cv, rfl⟩ := rowF_ (HY.out.li (.row fv 39 1 fc.length fc) (by simp))
      clear hx hSV hcell hiv ce hs HY hFC2 HFC
      go_upto_region 5 with fail
      obtain ⟨sb, hsb⟩ : ∃ sb, wo.heap.size = sb := ⟨_, rfl⟩
      rw [hsb] at HX
      obtain ⟨BX, hBX⟩ : ∃ BX : Obj, (.cells #[.int .u64 (u 0), .int .u64 (u 1), .int .u64 (u 2), .int .u64 (u 3), .int .i64 tg, .slice qf fr.length f, .int .i64 rl] 73 : Obj) = BX := ⟨_, rfl⟩
      have HC : Hid (∀ v : World, v.heap[sb]? = some BX → v.cell? ⟨sb, 5, none⟩ = some (.slice qf fr.length f)) := Lib.hid fun v hv => by
        rw [← hBX] at hv
        exact cell_of_row v sb 5 _ 73 (0, 0) hv
      refine at_world (fun y => Sep w.heap.size w y (.box sb BX :: .box bb (.cells R 144) :: .row (.slice pv fc.length cv) 39 1 fc.length fc :: XX)) (by rw [← hBX]; exact HX.out) fun y1 hy1 => ?_
      simp only [hsb]
      clear hsb hBX d0 d1 d2 d3 d4 d5 d6 HX
      have HY1 := Lib.hid hy1
      obtain ⟨fs, hfs⟩ : ∃ fs, Value.slice qf fr.length f = fs := ⟨_, rfl⟩
      have hxd : y1.drew.heap[sb]? = some BX := (hy1.li _ (List.mem_cons_self ..)).2
      have hne : sb ≠ bb := fun e => (List.pairwise_cons.1 hy1.ap).1 (.box bb (.cells R 144)) (by simp) sb rfl (by rw [e]; rfl)
      have HS4 := Lib.hid (hy1.drew.up ((Below.refl _ _).alloc (Nat.le_refl _) (.cells #[.slice qf fr.length f] 39)))
      have hbb1 : y1.drew.heap[bb]? = some (.cells R 144) := (hy1.li (.box bb (.cells R 144)) (by simp)).2
      have HBB4 : Hid ((y1.drew.alloc (.cells #[.slice qf fr.length f] 39)).heap[bb]? = some (.cells R 144)) := Lib.hid (HS4.out.li (.box bb (.cells R 144)) (by simp)).2
      have HXB4 : Hid ((y1.drew.alloc (.cells #[.slice qf fr.length f] 39)).heap[sb]? = some BX) := Lib.hid (HS4.out.li _ (List.mem_cons_self ..)).2
      have H1 : Hid (∀ v : World, v.heap[bb]? = some (.cells R 144) → v.cell? ⟨bb, 1, none⟩ = some (.slice pv fc.length cv)) := Lib.hid fun v hv => by rw [cell_of_row v bb 1 R 144 (0, 0) hv]; exact HNB.out.c1
      have HBB1 := Lib.hid hbb1
      obtain ⟨i0, hi, hz0, hz1, hz2⟩ := info_parts info39g
      clear hy1 hbb1 hfs
      refine wp_region_held_drew (S := fun v => v.heap[sb]? = some BX) (by kernel_rfl) hxd (fun hHeld => ?_)
      refine wpAnyH_take (i := 0) (v := (.pointer (some ⟨bb, 0, none⟩))) rfl (by kernel_rfl) (by kernel_rfl) (by kernel_rfl) (fun _ _ _ h => h) (Or.inl ⟨by rfl, by (intro w hSw; (try dsimp only at hSw); go_simp)⟩) hHeld ?_
      (try simp only [Act.put, List.getElem_toArray, List.getElem_cons_zero, List.getElem_cons_succ, List.setIfInBounds_toArray, List.set_cons_zero, List.set_cons_succ])
      refine wpAnyH_take (i := 1) (v := (.pointer (some ⟨bb, 0, none⟩))) rfl (by kernel_rfl) (by kernel_rfl) (by kernel_rfl) (fun _ _ _ h => h) (Or.inl ⟨by rfl, by (intro w hSw; (try dsimp only at hSw); go_simp)⟩) hHeld ?_
      (try simp only [Act.put, List.getElem_toArray, List.getElem_cons_zero, List.getElem_cons_succ, List.setIfInBounds_toArray, List.set_cons_zero, List.set_cons_succ])
      refine wpAnyH_take (i := 2) (v := (.pointer (some ⟨bb, 0, none⟩))) rfl (by kernel_rfl) (by kernel_rfl) (by kernel_rfl) (fun _ _ _ h => h) (Or.inl ⟨by rfl, by (intro w hSw; (try dsimp only at hSw); go_simp)⟩) hHeld ?_
      (try simp only [Act.put, List.getElem_toArray, List.getElem_cons_zero, List.getElem_cons_succ, List.setIfInBounds_toArray, List.set_cons_zero, List.set_cons_succ])
      refine wpAnyH_take (i := 3) (v := (.pointer (some ⟨bb, 1, none⟩))) rfl (by kernel_rfl) (by kernel_rfl) (by kernel_rfl) (fun _ _ _ h => h) (Or.inl ⟨by rfl, by (intro w hSw; (try dsimp only at hSw); go_simp)⟩) hHeld ?_
      (try simp only [Act.put, List.getElem_toArray, List.getElem_cons_zero, List.getElem_cons_succ, List.setIfInBounds_toArray, List.set_cons_zero, List.set_cons_succ])
      refine wpAnyH_take (i := 5) (v := (.pointer (some ⟨sb, 5, none⟩))) rfl (by kernel_rfl) (by kernel_rfl) (by kernel_rfl) (fun _ _ _ h => h) (Or.inl ⟨by rfl, by (intro w hSw; (try dsimp only at hSw); go_simp)⟩) hHeld ?_
      (try simp only [Act.put, List.getElem_toArray, List.getElem_cons_zero, List.getElem_cons_succ, List.setIfInBounds_toArray, List.set_cons_zero, List.set_cons_succ])
      refine wpAnyH_take (i := 6) (v := (.slice qf fr.length f)) rfl (by kernel_rfl) (by kernel_rfl) (by kernel_rfl) (fun _ _ _ h => h) (Or.inl ⟨by rfl, by (intro w hSw; have h1 := HC.out w hSw; go_simp)⟩) hHeld ?_
      (try simp only [Act.put, List.getElem_toArray, List.getElem_cons_zero, List.getElem_cons_succ, List.setIfInBounds_toArray, List.set_cons_zero, List.set_cons_succ])
      refine wpAnyH_ready (rs := [4, 7]) (by kernel_rfl) (by simp) ?_
      refine AllReadyH.cons rfl (fun K9 hK => ?_) (AllReadyH.cons rfl (fun K9 hK => ?_) (AllReadyH.nil))
      · rw [if_pos (by rfl)]
        refine wp_load_slice 46 (.tmp 21) rfl ⟨bb, 1, none⟩ rfl Tryd.underlying46 (.slice pv fc.length cv) (H1.out _ HBB1.out) ?_
        refine hK.out _ _ (hxd) (fun hHeld2 => ?_)
        clear hHeld hK
        have hHeld := hHeld2
        clear hHeld2
        (try simp only [Act.put, List.getElem_toArray, List.getElem_cons_zero, List.getElem_cons_succ, List.setIfInBounds_toArray, List.set_cons_zero, List.set_cons_succ])
        refine wpAnyH_ready (rs := [7]) (by kernel_rfl) (by simp) ?_
        refine AllReadyH.cons rfl (fun K9 hK => ?_) (AllReadyH.nil)
        rw [if_pos (by rfl)]
        go_wp2_with fail
        refine hK.out _ _ (HXB4.out) (fun hHeld2 => ?_)
        clear hHeld hK
        have hHeld := hHeld2
        clear hHeld2
        (try simp only [Act.put, List.getElem_toArray, List.getElem_cons_zero, List.getElem_cons_succ, List.setIfInBounds_toArray, List.set_cons_zero, List.set_cons_succ])
        refine wpAnyH_ready (rs := [8]) (by kernel_rfl) (by simp) ?_
        refine AllReadyH.cons rfl (fun K9 hK => ?_) (AllReadyH.nil)
        rw [if_pos (by rfl)]
        refine wp_append_own (.tmp 22) (.tmp 25) 46 rfl w.heap.size 39 i0 (.slice none 0 0) 1 24 Tryd.underlying46 hi hz0 hz1 hz2 rfl (by decide) (.slice pv fc.length cv) fc.length fc rfl (HS4.out.li (.row (.slice pv fc.length cv) 39 1 fc.length fc) (by simp)) ⟨y1.drew.heap.size, 0, none⟩ 1 1 [.slice qf fr.length f] rfl rfl ?e2 ?e3 ?e4 ?e5 ?e6 ?_
        case e2 => intro j v hv; cases j with | zero => rw [← hv]; exact cell_of_row _ _ _ _ 39 (0, 0) (heap_alloc_last y1.drew _) | succ j => cases hv
        case e3 => simp [Value.oneCell']
        case e4 => unfold maxLen; omega
        case e5 => omega
        case e6 => exact HS4.out.sz
        intro v' w7 hown7 hgrow7 hat7
        obtain ⟨p7, c7, rfl⟩ := rowF_ hown7
        have hrw7 : w7.ownsRow w.heap.size 39 1 (Value.slice p7 (fc.length + 1) c7) (fc ++ [Value.slice qf fr.length f]).length (fc ++ [Value.slice qf fr.length f]) := by rw [List.length_append]; exact hown7
        have hs7 := Sep.repAt (l₁ := [_, _]) (x := .row (.slice pv fc.length cv) 39 1 fc.length fc) (x' := .row (Value.slice p7 (fc.length + 1) c7) 39 1 (fc ++ [Value.slice qf fr.length f]).length (fc ++ [Value.slice qf fr.length f])) HS4.out hgrow7 hrw7 (fun b hb => hat7.elim (fun e => .inl (e.symm.trans hb)) fun e => .inr (by have h2 : (Value.slice p7 (fc.length + 1) c7).ownBlock = some b := hb; rw [e] at h2; cases h2; exact Nat.le_refl _))
        simp only [List.cons_append, List.nil_append] at hs7
        have hF7 : w7.heap[bb]? = some (.cells R 144) := (hs7.li (.box bb (.cells R 144)) (by simp)).2
        have hx7 : w7.heap[sb]? = some BX := (hs7.li _ (List.mem_cons_self ..)).2
        have hfz7 : w7.frozen? ⟨bb, 1, none⟩ = false := frozen_of_row w7 bb 1 R 144 hF7
        have hc7 := H1.out w7 hF7
        have hb8 := heap_setCell_same w7 bb 1 R 144 (Value.slice p7 (fc.length + 1) c7) hF7
        have HS8 := Lib.hid (Sep.put (w' := w7.setCell ⟨bb, 1, none⟩ (Value.slice p7 (fc.length + 1) c7)) hs7.tl ⟨rfl, rfl, rfl, by simp, fun k hk hne => heap_setCell_other w7 _ k _ (fun e => hne (by rw [e]))⟩ hb8)
        have HX8 : Hid ((w7.setCell ⟨bb, 1, none⟩ (Value.slice p7 (fc.length + 1) c7)).heap[sb]? = some BX) := Lib.hid ((heap_setCell_other w7 _ sb _ (fun e => hne e)).trans hx7)
        have HNB8 := Lib.hid (HNB.out.put (Value.slice p7 (fc.length + 1) c7))
        clear hs7 hb8 hF7 hrw7 hown7 hgrow7 hat7
        refine hK.out _ _ (hx7) (fun hHeld2 => ?_)
        clear hHeld hK
        have hHeld := hHeld2
        clear hHeld2
        (try simp only [Act.put, List.getElem_toArray, List.getElem_cons_zero, List.getElem_cons_succ, List.setIfInBounds_toArray, List.set_cons_zero, List.set_cons_succ])
        clear hx7
        refine wpAnyH_take (i := 9) (v := (.pointer (some ⟨bb, 0, none⟩))) rfl (by kernel_rfl) (by kernel_rfl) (by kernel_rfl) (fun _ _ _ h => h) (Or.inl ⟨by rfl, by (intro w hSw; (try dsimp only at hSw); go_simp)⟩) hHeld ?_
        (try simp only [Act.put, List.getElem_toArray, List.getElem_cons_zero, List.getElem_cons_succ, List.setIfInBounds_toArray, List.set_cons_zero, List.set_cons_succ])
        refine wpAnyH_take (i := 10) (v := (.pointer (some ⟨bb, 1, none⟩))) rfl (by kernel_rfl) (by kernel_rfl) (by kernel_rfl) (fun _ _ _ h => h) (Or.inl ⟨by rfl, by (intro w hSw; (try dsimp only at hSw); go_simp)⟩) hHeld ?_
        (try simp only [Act.put, List.getElem_toArray, List.getElem_cons_zero, List.getElem_cons_succ, List.setIfInBounds_toArray, List.set_cons_zero, List.set_cons_succ])
        refine wpAnyH_ready (rs := [11]) (by kernel_rfl) (by simp) ?_
        refine AllReadyH.cons rfl (fun K9 hK => ?_) (AllReadyH.nil)
        rw [if_pos (by rfl)]
        go_wp2_with fail
        refine hK.out _ _ (HX8.out) (fun hHeld2 => ?_)
        clear hHeld hK
        have hHeld := hHeld2
        clear hHeld2
        (try simp only [Act.put, List.getElem_toArray, List.getElem_cons_zero, List.getElem_cons_succ, List.setIfInBounds_toArray, List.set_cons_zero, List.set_cons_succ])
        clear HX8 hfz7 hc7
        refine wpAnyH_done (by kernel_rfl) ?_ _
        go_wp2_with fail
        go_roundw
        case rel => exact ⟨j + 1, _, _, _, by go_num, by omega, HNB8, HFC2, HS8⟩
        case measure => simp [intOf]; omega
      · rw [if_pos (by rfl)]
        go_wp2_with fail
        refine hK.out _ _ (HXB4.out) (fun hHeld2 => ?_)
        clear hHeld hK
        have hHeld := hHeld2
        clear hHeld2
        (try simp only [Act.put, List.getElem_toArray, List.getElem_cons_zero, List.getElem_cons_succ, List.setIfInBounds_toArray, List.set_cons_zero, List.set_cons_succ])
        refine wpAnyH_ready (rs := [4]) (by kernel_rfl) (by simp) ?_
        refine AllReadyH.cons rfl (fun K9 hK => ?_) (AllReadyH.nil)
        rw [if_pos (by rfl)]
        refine wp_load_slice 46 (.tmp 21) rfl ⟨bb, 1, none⟩ rfl Tryd.underlying46 (.slice pv fc.length cv) (H1.out _ HBB4.out) ?_
        refine hK.out _ _ (HXB4.out) (fun hHeld2 => ?_)
        clear hHeld hK
        have hHeld := hHeld2
        clear hHeld2
        (try simp only [Act.put, List.getElem_toArray, List.getElem_cons_zero, List.getElem_cons_succ, List.setIfInBounds_toArray, List.set_cons_zero, List.set_cons_succ])
        refine wpAnyH_ready (rs := [8]) (by kernel_rfl) (by simp) ?_
        refine AllReadyH.cons rfl (fun K9 hK => ?_) (AllReadyH.nil)
        rw [if_pos (by rfl)]
        refine wp_append_own (.tmp 22) (.tmp 25) 46 rfl w.heap.size 39 i0 (.slice none 0 0) 1 24 Tryd.underlying46 hi hz0 hz1 hz2 rfl (by decide) (.slice pv fc.length cv) fc.length fc rfl (HS4.out.li (.row (.slice pv fc.length cv) 39 1 fc.length fc) (by simp)) ⟨y1.drew.heap.size, 0, none⟩ 1 1 [.slice qf fr.length f] rfl rfl ?e2 ?e3 ?e4 ?e5 ?e6 ?_
        case e2 => intro j v hv; cases j with | zero => rw [← hv]; exact cell_of_row _ _ _ _ 39 (0, 0) (heap_alloc_last y1.drew _) | succ j => cases hv
        case e3 => simp [Value.oneCell']
        case e4 => unfold maxLen; omega
        case e5 => omega
        case e6 => exact HS4.out.sz
        intro v' w7 hown7 hgrow7 hat7
        obtain ⟨p7, c7, rfl⟩ := rowF_ hown7
        have hrw7 : w7.ownsRow w.heap.size 39 1 (Value.slice p7 (fc.length + 1) c7) (fc ++ [Value.slice qf fr.length f]).length (fc ++ [Value.slice qf fr.length f]) := by rw [List.length_append]; exact hown7
        have hs7 := Sep.repAt (l₁ := [_, _]) (x := .row (.slice pv fc.length cv) 39 1 fc.length fc) (x' := .row (Value.slice p7 (fc.length + 1) c7) 39 1 (fc ++ [Value.slice qf fr.length f]).length (fc ++ [Value.slice qf fr.length f])) HS4.out hgrow7 hrw7 (fun b hb => hat7.elim (fun e => .inl (e.symm.trans hb)) fun e => .inr (by have h2 : (Value.slice p7 (fc.length + 1) c7).ownBlock = some b := hb; rw [e] at h2; cases h2; exact Nat.le_refl _))
        simp only [List.cons_append, List.nil_append] at hs7
        have hF7 : w7.heap[bb]? = some (.cells R 144) := (hs7.li (.box bb (.cells R 144)) (by simp)).2
        have hx7 : w7.heap[sb]? = some BX := (hs7.li _ (List.mem_cons_self ..)).2
        have hfz7 : w7.frozen? ⟨bb, 1, none⟩ = false := frozen_of_row w7 bb 1 R 144 hF7
        have hc7 := H1.out w7 hF7
        have hb8 := heap_setCell_same w7 bb 1 R 144 (Value.slice p7 (fc.length + 1) c7) hF7
        have HS8 := Lib.hid (Sep.put (w' := w7.setCell ⟨bb, 1, none⟩ (Value.slice p7 (fc.length + 1) c7)) hs7.tl ⟨rfl, rfl, rfl, by simp, fun k hk hne => heap_setCell_other w7 _ k _ (fun e => hne (by rw [e]))⟩ hb8)
        have HX8 : Hid ((w7.setCell ⟨bb, 1, none⟩ (Value.slice p7 (fc.length + 1) c7)).heap[sb]? = some BX) := Lib.hid ((heap_setCell_other w7 _ sb _ (fun e => hne e)).trans hx7)
        have HNB8 := Lib.hid (HNB.out.put (Value.slice p7 (fc.length + 1) c7))
        clear hs7 hb8 hF7 hrw7 hown7 hgrow7 hat7
        refine hK.out _ _ (hx7) (fun hHeld2 => ?_)
        clear hHeld hK
        have hHeld := hHeld2
        clear hHeld2
        (try simp only [Act.put, List.getElem_toArray, List.getElem_cons_zero, List.getElem_cons_succ, List.setIfInBounds_toArray, List.set_cons_zero, List.set_cons_succ])
        clear hx7
        refine wpAnyH_take (i := 9) (v := (.pointer (some ⟨bb, 0, none⟩))) rfl (by kernel_rfl) (by kernel_rfl) (by kernel_rfl) (fun _ _ _ h => h) (Or.inl ⟨by rfl, by (intro w hSw; (try dsimp only at hSw); go_simp)⟩) hHeld ?_
        (try simp only [Act.put, List.getElem_toArray, List.getElem_cons_zero, List.getElem_cons_succ, List.setIfInBounds_toArray, List.set_cons_zero, List.set_cons_succ])
        refine wpAnyH_take (i := 10) (v := (.pointer (some ⟨bb, 1, none⟩))) rfl (by kernel_rfl) (by kernel_rfl) (by kernel_rfl) (fun _ _ _ h => h) (Or.inl ⟨by rfl, by (intro w hSw; (try dsimp only at hSw); go_simp)⟩) hHeld ?_
        (try simp only [Act.put, List.getElem_toArray, List.getElem_cons_zero, List.getElem_cons_succ, List.setIfInBounds_toArray, List.set_cons_zero, List.set_cons_succ])
        refine wpAnyH_ready (rs := [11]) (by kernel_rfl) (by simp) ?_
        refine AllReadyH.cons rfl (fun K9 hK => ?_) (AllReadyH.nil)
        rw [if_pos (by rfl)]
        go_wp2_with fail
        refine hK.out _ _ (HX8.out) (fun hHeld2 => ?_)
        clear hHeld hK
        have hHeld := hHeld2
        clear hHeld2
        (try simp only [Act.put, List.getElem_toArray, List.getElem_cons_zero, List.getElem_cons_succ, List.setIfInBounds_toArray, List.set_cons_zero, List.set_cons_succ])
        clear HX8 hfz7 hc7
        refine wpAnyH_done (by kernel_rfl) ?_ _
        go_wp2_with fail
        go_roundw
        case rel => exact ⟨j + 1, _, _, _, by go_num, by omega, HNB8, HFC2, HS8⟩
        case measure => simp [intOf]; omega
    · obtain rfl : j = ss.length := by omega
      have hjI : ¬ (ss.length : Int) < (ss.length : Int) := by omega
      have hbxx := (HY.out.li _ (List.mem_cons_self ..)).2
      have HLV := Lib.hid (live_any (D := fun b => b < w.heap.size) (fun b hb => Nat.lt_of_lt_of_le hb HY.out.bel.size) (HSV.out.mono (fun b h => HD.out b h) (fun b hb _ => HY.out.bel.block b (HD.out b hb))) hbxx HNB.out.c0 HNB.out.sz hn HFREE.out HFR.out HTO.out)
      clear hbxx
      go_wp2_with fail
      refine HLV.out.mono ?_
      rintro _ y5 ⟨rfl, hg5, hb5⟩
      have hs5 := Sep.put HY.out hg5 hb5
      have HSO := Lib.hid (sorts_any hs5 (Nat.le_refl _) (HSV.out.mono (fun b h => HD.out b h) (fun b _ _ => rfl)) (by
        rw [putA_get _ _ _ _ (by simp [sA_size, HNB.out.sz]), if_neg (by omega)]; exact HNB.out.c0) (by rw [putA_size]; exact HNB.out.sz) (by
        rw [putA_get _ _ _ _ (by simp [sA_size, HNB.out.sz]), if_neg (by simp [sA_size]), HNB.out.rest 322 (by omega)]; exact (bd0_2 ..).1) hn HOK.out)
      clear hg5 hb5 hs5 HLV HY
      go_wp2_with fail
      refine HSO.out.mono ?_
      rintro _ y6 ⟨rfl, R3, bv, hrs, hs6⟩
      have HRS := Lib.hid hrs
      have HS6 := Lib.hid hs6
      clear hrs hs6 HSO
      go_wp2_with fail
      go_ret
      rw [HBBE.out, HXX.out]
      exact ⟨R, fv, fc, R3, bv, rfl, HNB.out, HFC.out, HRS.out, HS6.out⟩
end Go.Proofs.YthglciccejholaaDoor
end
