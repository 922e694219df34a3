/- Texts of package regs, one behind the other. -/
import Derived.Test.YthglciccejholaaDoorProg
import Derived.Test.YthglciccejholaaDoorZ45
import Derived.Test.YthglciccejholaaDoorZ9
import Derived.RangeFuncNested
import Derived.RangeFuncBound
import Derived.RangeFuncCalls
import Derived.RangeFuncLeaves
import Derived.RangeFuncBox
import Derived.Shelf.Abstract
import Derived.Shelf.RegionOpen
import Derived.WalkKit
import Derived.OwnWalkIn
import Derived.TacticsInMore
import Derived.LoopNIn
import Derived.LoopIn
import Derived.Below
import Derived.Lib.Hide
import Derived.Lib.Walk
import Derived.Test.YthglciccejholaaDoorZ41
import Derived.BigFrame
import Derived.Stop.BytesEq
import Derived.WalkLawsBesides
import Derived.WalkSpells
import Derived.Outline
import Derived.Lib.Slices
import Derived.Lib.Strings
import Derived.RegionTactic
import Derived.LoopTactic
import Derived.IntWalk
import Derived.Deep.QuietTactic
import Derived.BigQuiet
import Derived.Deep.MidRow
import Derived.Maps.AppendAt
import Derived.Laws.Rows
import Derived.Laws.Tables
import Derived.Deep.WholeRow
import Derived.Deep.Cut
import Derived.Deep.CutRange
import Derived.Lib.SliceRun
import Derived.Laws.MakeOwn
import Derived.Deep.RegionLaw
import Derived.Deep.RegionLawGrows
import Derived.Deep.RegionHeld3
import Derived.RegionCalls
import Derived.Deep.RegionWith
import Derived.Deep.Light
import Derived.Laws.CopyOwn
import Derived.Laws.ResultCell
section
/- Package dfa. -/
namespace Go.Proofs.YthglciccejholaaDoor
set_option linter.unusedSimpArgs false
set_option linter.unusedVariables false
set_option maxRecDepth 100000
open Go.RowKit Go.Shelf
/- The chapter's automaton, made. -/
open Go.Maps
theorem bone : Tryd.prog.built 73 [(1, .int .i64 (-1))] = some (stC uZ (-1) (.slice none 0 0) 0) := by kernel_rfl
theorem wpList_bone {ops : Array Oper} {rest : List Oper} {o : Oper} {a : Act} {w : World} {Q : Exit → Act → World → Prop} {x : Operand} (hg : o.guard = none) (ho : o.op = .build 73 #[(1, x)]) (hx : a.eval x = .int .i64 (-1))
    (h : wpList Tryd.prog ops Q rest (a.put o.dst (.agg (stC uZ (-1) (.slice none 0 0) 0))) w) : wpList Tryd.prog ops Q (o :: rest) a w := by
  refine wpList_build hg 73 _ ho ?_ ?_
  · simp [hx, bone]
  · simp [hx, bone]; exact h
theorem bfre1 (p : Option Addr) (n c : Nat) : Tryd.prog.built 73 [(1, .int .i64 (-1)), (2, .slice p n c), (3, .int .i64 1)] = some (stC uZ (-1) (.slice p n c) 1) := by kernel_rfl
theorem wpList_bfre1 {ops : Array Oper} {rest : List Oper} {o : Oper} {a : Act} {w : World} {Q : Exit → Act → World → Prop} {x y z : Operand} {p : Option Addr} {n c : Nat} (hg : o.guard = none) (ho : o.op = .build 73 #[(1, x), (2, y), (3, z)]) (hx : a.eval x = .int .i64 (-1)) (hy : a.eval y = .slice p n c) (hz : a.eval z = .int .i64 1)
    (h : wpList Tryd.prog ops Q rest (a.put o.dst (.agg (stC uZ (-1) (.slice p n c) 1))) w) : wpList Tryd.prog ops Q (o :: rest) a w := by
  refine wpList_build hg 73 _ ho ?_ ?_
  · simp [hx, hy, hz, bfre1]
  · simp [hx, hy, hz, bfre1]; exact h
def stL (u : Nat → Int) (t : Int) (f : Value) (r : Int) : List Value := [.int .u64 (u 0), .int .u64 (u 1), .int .u64 (u 2), .int .u64 (u 3), .int .i64 t, f, .int .i64 r]
theorem sv_A {w : World} {b1 b5 b6 : Nat} {ui uf ua : Nat → Int} (e1 : uR 105 105 = ui) (e2 : uR 102 102 = uf) (e3 : uR 97 122 = ua) (h6 : w.heap[b6]? = some (.cells #[.int .u64 (uZ 0), .int .u64 (uZ 1), .int .u64 (uZ 2), .int .u64 (uZ 3), .int .i64 (-1), .slice (some ⟨b1, 0, none⟩) 2 2, .int .i64 (-1), .int .u64 (ui 0), .int .u64 (ui 1), .int .u64 (ui 2), .int .u64 (ui 3), .int .i64 2, .slice none 0 0, .int .i64 (-1), .int .u64 (uf 0), .int .u64 (uf 1), .int .u64 (uf 2), .int .u64 (uf 3), .int .i64 3, .slice none 0 0, .int .i64 (-1), .int .u64 (uZ 0), .int .u64 (uZ 1), .int .u64 (uZ 2), .int .u64 (uZ 3), .int .i64 (-1), .slice none 0 0, .int .i64 0, .int .u64 (ua 0), .int .u64 (ua 1), .int .u64 (ua 2), .int .u64 (ua 3), .int .i64 5, .slice none 0 0, .int .i64 (-1), .int .u64 (uZ 0), .int .u64 (uZ 1), .int .u64 (uZ 2), .int .u64 (uZ 3), .int .i64 (-1), .slice (some ⟨b5, 0, none⟩) 1 1, .int .i64 1] 73 (0, 0)))
    (h5 : w.heap[b5]? = some (.cells #[.int .i64 4] 3 (0, 0))) (h1 : w.heap[b1]? = some (.cells #[.int .i64 1, .int .i64 4] 3 (0, 0))) : SV (fun b => b < w.heap.size) w ssA (.slice (some ⟨b6, 0, none⟩) 6 6) := by
  subst e1 e2 e3
  have hlt : ∀ {b : Nat} {o : Obj}, w.heap[b]? = some o → b < w.heap.size := fun h => (Array.getElem?_eq_some_iff.1 h).1
  refine ⟨_, _, rfl, fun _ => ⟨b6, 0, rfl, hlt h6, fun i hi => ?_⟩⟩
  have hi6 : i < 6 := hi
  match i, hi, hi6 with
  | 0, _, _ =>
    refine ⟨some ⟨b1, 0, none⟩, 2, ⟨_, _, rfl, fun _ => ⟨b1, 0, rfl, hlt h1, fun i hi => by rw [cell_of_row w b1 _ _ 3 (0, 0) h1]; match i, hi with | 0, _ => rfl | 1, _ => rfl⟩⟩, fun j y hj => ?_⟩
    rw [cell_of_row w b6 _ _ 73 (0, 0) h6]
    match j, hj with
    | 0, hj => exact hj
    | 1, hj => exact hj
    | 2, hj => exact hj
    | 3, hj => exact hj
    | 4, hj => exact hj
    | 5, hj => exact hj
    | 6, hj => exact hj
    | j + 7, hj => simp [stC] at hj
  | 1, _, _ =>
    refine ⟨none, 0, IV.nil _ _ _ _, fun j y hj => ?_⟩
    rw [cell_of_row w b6 _ _ 73 (0, 0) h6]
    match j, hj with
    | 0, hj => exact hj
    | 1, hj => exact hj
    | 2, hj => exact hj
    | 3, hj => exact hj
    | 4, hj => exact hj
    | 5, hj => exact hj
    | 6, hj => exact hj
    | j + 7, hj => simp [stC] at hj
  | 2, _, _ =>
    refine ⟨none, 0, IV.nil _ _ _ _, fun j y hj => ?_⟩
    rw [cell_of_row w b6 _ _ 73 (0, 0) h6]
    match j, hj with
    | 0, hj => exact hj
    | 1, hj => exact hj
    | 2, hj => exact hj
    | 3, hj => exact hj
    | 4, hj => exact hj
    | 5, hj => exact hj
    | 6, hj => exact hj
    | j + 7, hj => simp [stC] at hj
  | 3, _, _ =>
    refine ⟨none, 0, IV.nil _ _ _ _, fun j y hj => ?_⟩
    rw [cell_of_row w b6 _ _ 73 (0, 0) h6]
    match j, hj with
    | 0, hj => exact hj
    | 1, hj => exact hj
    | 2, hj => exact hj
    | 3, hj => exact hj
    | 4, hj => exact hj
    | 5, hj => exact hj
    | 6, hj => exact hj
    | j + 7, hj => simp [stC] at hj
  | 4, _, _ =>
    refine ⟨none, 0, IV.nil _ _ _ _, fun j y hj => ?_⟩
    rw [cell_of_row w b6 _ _ 73 (0, 0) h6]
    match j, hj with
    | 0, hj => exact hj
    | 1, hj => exact hj
    | 2, hj => exact hj
    | 3, hj => exact hj
    | 4, hj => exact hj
    | 5, hj => exact hj
    | 6, hj => exact hj
    | j + 7, hj => simp [stC] at hj
  | 5, _, _ =>
    refine ⟨some ⟨b5, 0, none⟩, 1, ⟨_, _, rfl, fun _ => ⟨b5, 0, rfl, hlt h5, fun i hi => by rw [cell_of_row w b5 _ _ 3 (0, 0) h5]; match i, hi with | 0, _ => rfl⟩⟩, fun j y hj => ?_⟩
    rw [cell_of_row w b6 _ _ 73 (0, 0) h6]
    match j, hj with
    | 0, hj => exact hj
    | 1, hj => exact hj
    | 2, hj => exact hj
    | 3, hj => exact hj
    | 4, hj => exact hj
    | 5, hj => exact hj
    | 6, hj => exact hj
    | j + 7, hj => simp [stC] at hj
set_option maxHeartbeats 16000000 in
theorem known_any {w : World} : Calls Tryd.prog 52 #[] w fun e w' => (∃ q c, e = .returned (nV 0 q 6 c) ∧ SV (fun b => b < w'.heap.size) w' ssA (.slice q 6 c)) ∧ Below w.heap.size w w' := by
  have hz := (zero_of_info (show (Tryd.prog.info? 33).map (fun i => (i.zero, i.size)) = some (some (.agg #[.int .i64 0, .slice none 0 0]), 2) by kernel_rfl)).1
  obtain ⟨b0, hb0⟩ : ∃ b, w.heap.size = b := ⟨_, rfl⟩
  have S0 := Lib.hid ((Sep.start w).allocAt hb0 (.cells #[.int .i64 0, .slice none 0 0] 33))
  have HSP := Lib.hid (fun (z : World) (lo hi : Nat) (h1 : lo ≤ hi) (h2 : hi < 256) => span_any (w := z) h1 h2)
  obtain ⟨ui, hui⟩ : ∃ u, uR 105 105 = u := ⟨_, rfl⟩
  obtain ⟨uf, huf⟩ : ∃ u, uR 102 102 = u := ⟨_, rfl⟩
  obtain ⟨ua, hua⟩ : ∃ u, uR 97 122 = u := ⟨_, rfl⟩
  have HI := Lib.hid (fun (z : World) => HSP.out z 105 105 (by decide) (by decide))
  have HF := Lib.hid (fun (z : World) => HSP.out z 102 102 (by decide) (by decide))
  have HA := Lib.hid (fun (z : World) => HSP.out z 97 122 (by decide) (by decide))
  rw [hui] at HI
  rw [huf] at HF
  rw [hua] at HA
  have HU := Lib.hid (And.intro hui (And.intro huf hua))
  clear hui huf hua HSP
  go_enter Tryd.func52, Tryd.ntmps52
  go_upto_region 1 with fail
  refine at_world (fun v => Sep w.heap.size w v [.box b0 (.cells #[.int .i64 0, .slice none 0 0] 33)]) S0.out fun y hy => ?_
  have S1 := Lib.hid hy
  clear S0 hy hb0 hz
  obtain ⟨b1, hb1⟩ : ∃ b, y.heap.size = b := ⟨_, rfl⟩
  have S2 := Lib.hid (S1.out.allocAt hb1 (.cells #[.int .i64 1, .int .i64 4] 3))
  rw [show ((105 : Nat) : Int) = 105 from rfl] at HI
  rw [show ((102 : Nat) : Int) = 102 from rfl] at HF
  rw [show ((97 : Nat) : Int) = 97 from rfl, show ((122 : Nat) : Int) = 122 from rfl] at HA
  go_wp2_with (first | (refine wpList_bfree (p := some ⟨b1, 0, none⟩) (n := 2) (c := 2) rfl rfl rfl rfl rfl ?_; unfold stC))
  refine (HI.out _).mono ?_
  rintro _ w2 ⟨rfl, hb⟩
  have S3 := Lib.hid (S2.out.up hb)
  clear hb S1 S2 HI hb1
  go_wp2_with (first | (refine wpList_bset (u := ui) (t := 2) rfl rfl rfl rfl rfl ?_; unfold stC))
  refine (HF.out _).mono ?_
  rintro _ w3 ⟨rfl, hb⟩
  have S4 := Lib.hid (S3.out.up hb)
  clear hb S3 HF
  go_wp2_with (first | (refine wpList_bset (u := uf) (t := 3) rfl rfl rfl rfl rfl ?_; unfold stC) | (refine wpList_bone rfl rfl rfl ?_; unfold stC))
  refine (HA.out _).mono ?_
  rintro _ w4 ⟨rfl, hb⟩
  have S5 := Lib.hid (S4.out.up hb)
  clear hb S4 HA
  obtain ⟨b5, hb5⟩ : ∃ b, w4.heap.size = b := ⟨_, rfl⟩
  have S6 := Lib.hid (S5.out.allocAt hb5 (.cells #[.int .i64 4] 3))
  have hb6 : (w4.alloc (.cells #[.int .i64 4] 3)).heap.size = b5 + 1 := by rw [← hb5]; simp
  have S7 := Lib.hid (S6.out.allocAt hb6 (.cells #[.int .u64 (uZ 0), .int .u64 (uZ 1), .int .u64 (uZ 2), .int .u64 (uZ 3), .int .i64 (-1), .slice (some ⟨b1, 0, none⟩) 2 2, .int .i64 (-1), .int .u64 (ui 0), .int .u64 (ui 1), .int .u64 (ui 2), .int .u64 (ui 3), .int .i64 2, .slice none 0 0, .int .i64 (-1), .int .u64 (uf 0), .int .u64 (uf 1), .int .u64 (uf 2), .int .u64 (uf 3), .int .i64 3, .slice none 0 0, .int .i64 (-1), .int .u64 (uZ 0), .int .u64 (uZ 1), .int .u64 (uZ 2), .int .u64 (uZ 3), .int .i64 (-1), .slice none 0 0, .int .i64 0, .int .u64 (ua 0), .int .u64 (ua 1), .int .u64 (ua 2), .int .u64 (ua 3), .int .i64 5, .slice none 0 0, .int .i64 (-1), .int .u64 (uZ 0), .int .u64 (uZ 1), .int .u64 (uZ 2), .int .u64 (uZ 3), .int .i64 (-1), .slice (some ⟨b5, 0, none⟩) 1 1, .int .i64 1] 73))
  have HB0 := Lib.hid ((S7.out.to 3 (by simp)))
  simp only [List.getElem_cons_succ, List.getElem_cons_zero, List.eraseIdx] at HB0
  have HX0 := Lib.hid HB0.out.at.2
  have S8 := Lib.hid (HB0.out.putRow #[.int .i64 0, .slice (some ⟨b5 + 1, 0, none⟩) 6 6])
  have hi33 : (Tryd.prog.info? 33).map (·.size) = some 2 := by kernel_rfl
  go_wp2_with (first | (refine wpList_bset (u := ua) (t := 5) rfl rfl rfl rfl rfl ?_; unfold stC) | (refine wpList_bfre1 (p := some ⟨b5, 0, none⟩) (n := 1) (c := 1) rfl rfl rfl rfl rfl ?_; unfold stC) | (refine wpList_store_row rfl 33 (.tmp 0) (.tmp 13) rfl b0 #[.int .i64 0, .slice (some ⟨b5 + 1, 0, none⟩) 6 6] rfl rfl 33 _ HX0.out (by rw [hi33]; rfl) rfl (by simp [Value.oneCell']) ?_))
  refine bodyPost_ret (v := nV 0 (some ⟨b5 + 1, 0, none⟩) 6 6) (results_cell_row rfl _ _ b0 33 #[.int .i64 0, .slice (some ⟨b5 + 1, 0, none⟩) 6 6] (0, 0) _ rfl ?h33 Tryd.underlying33 rfl (by rw [hi33]; rfl)) rfl ?_
  case h33 => exact S8.out.at.2
  refine ⟨⟨some ⟨b5 + 1, 0, none⟩, 6, rfl, ?_⟩, S8.out.bel⟩
  obtain ⟨e1, e2, e3⟩ := HU.out
  exact sv_A e1 e2 e3 S8.out.tl.at.2 S8.out.tl.tl.at.2 S8.out.tl.tl.tl.at.2
end Go.Proofs.YthglciccejholaaDoor
end
section
/- Packages dfa, mini, munch. -/
namespace Go.Proofs.YthglciccejholaaDoor
set_option linter.unusedSimpArgs false
set_option linter.unusedVariables false
set_option maxRecDepth 100000
open Go.RowKit
/- LeftDfa. -/
theorem sameD_refl (d : Df) : sameD d d = true := by simp [sameD, clsEq]
theorem TR.cells {B : Nat} {w : World} {z : Ni} (h : TR B w z) : ∀ i (hi : i < z.1.length), w.cell? ⟨z.2.2.1, i, none⟩ = some (.int .i64 z.1[i]) := fun i hi => by
  have := World.ownsRow.cells h (g := z.2.2.1) rfl i (.int .i64 z.1[i]) (by
    rw [zi, List.getElem?_map, List.getElem?_append_left hi, List.getElem?_eq_getElem hi]; rfl)
  rwa [Addr.add_mid, Nat.zero_add] at this
theorem TR.iv {B : Nat} {w : World} {z : Ni} (h : TR B w z) : IV (fun b => b < w.heap.size) w z.1 (d7_nV z) :=
  ⟨_, _, rfl, fun _ => ⟨z.2.2.1, 0, rfl, h.lt.2, fun i hi => by rw [Nat.zero_add]; exact h.cells i hi⟩⟩
theorem tn_cell {B g n cap : Nat} {zs : List Ni} {w : World} (h : TN B zs (.slice (some ⟨g, 0, none⟩) n cap) w) (i : Nat) (hi : i < zs.length) : w.cell? ⟨g, i, none⟩ = some (d7_nV zs[i]) := by
  have := World.ownsRow.cells h.2 (g := g) rfl i (d7_nV zs[i]) (by rw [List.getElem?_map, List.getElem?_eq_getElem hi]; rfl)
  rwa [Addr.add_mid, Nat.zero_add] at this
theorem tn_nv {B g n cap : Nat} {zs ms : List Ni} {w : World} {ls : List (List Int)} (h : TN B (zs ++ ms) (.slice (some ⟨g, 0, none⟩) n cap) w) (hz : zs.map (fun z : Ni => z.1) = ls) : NV (fun b => b < w.heap.size) w ls (.slice (some ⟨g, 0, none⟩) ls.length cap) := by
  refine ⟨_, _, rfl, fun _ => ⟨g, 0, rfl, (World.ownsRow.lt h.2 g rfl).2, fun i hi => ?_⟩⟩
  subst hz
  have hi2 : i < zs.length := by simpa using hi
  have e : (zs.map (fun z : Ni => z.1))[i] = (zs[i]).1 := by simp
  have h1 := tn_cell h i (by simp; omega)
  rw [List.getElem_append_left hi2] at h1
  rw [e, Nat.zero_add]
  exact ⟨_, _, (h.1 zs[i] (List.mem_append_left _ (List.getElem_mem hi2))).1.iv, h1⟩
theorem tn_ti {B g n cap : Nat} {zs ms : List Ni} {w : World} (h : TN B (zs ++ ms) (.slice (some ⟨g, 0, none⟩) n cap) w) (i : Nat) (hi : i < zs.length) (h7 : ∀ z ∈ zs, z.2.1 = mk7 3) : TI B w (zs[i]).1 (d7_nV zs[i]) := by
  have h1 := (h.1 zs[i] (List.mem_append_left _ (List.getElem_mem hi))).1
  have h2 := h7 zs[i] (List.getElem_mem hi)
  unfold TR at h1
  rw [h2, List.length_append, mk7_len] at h1
  exact ⟨_, _, rfl, h1⟩
/-- A twin of an automaton. -/
structure TD (B : Nat) (w : World) (d : Df) (g cap : Nat) (q : Option Addr) (f : Nat) : Prop where
  tn : ∃ zs ms, zs.map (fun z : Ni => z.1) = d.nx ∧ (∀ z ∈ zs, z.2.1 = mk7 3) ∧ ms.map (fun z : Ni => z.1) = mks 3 ∧ TN B (zs ++ ms) (.slice (some ⟨g, 0, none⟩) (d.nx.length + 3) cap) w
  ti : TI B w d.rl (.slice q d.rl.length f)
theorem TD.up {B : Nat} {w w' : World} {d : Df} {g cap f : Nat} {q : Option Addr} (h : TD B w d g cap q f) (hb : Below w.heap.size w w') : TD B w' d g cap q f := by
  obtain ⟨⟨zs, ms, h1, h2, h3, h4⟩, g', cp, e, h5⟩ := h
  exact ⟨⟨zs, ms, h1, h2, h3, h4.up hb⟩, g', cp, e, World.ownsRow.kept (row := none) h5 ⟨hb.os, hb.tape, hb.output, hb.size, fun k hk _ => hb.block k hk⟩ (.inr (by simp [Value.ownBlock]))⟩
theorem TD.dm {B : Nat} {w : World} {d : Df} {g cap f : Nat} {q : Option Addr} (h : TD B w d g cap q f) (l1 : d.nx.length ≤ 1000000) (l2 : d.rl.length ≤ 1000000) (l3 : ∀ r ∈ d.nx, r.length ≤ 1000000) : DM (fun b => b < w.heap.size) w d (some ⟨g, 0, none⟩) q cap f := by
  obtain ⟨⟨zs, ms, h1, h2, h3, h4⟩, g', cp, e, h5⟩ := h
  refine ⟨tn_nv h4 h1, ?_, fun b h => h, by omega, by omega, fun r hr => by have := l3 r hr; omega⟩
  have h6 := ti_iv h5
  rw [← e] at h6
  exact h6.mono (fun b hb => by rw [hb]; exact (World.ownsRow.lt h5 _ rfl).2) (fun _ _ _ => rfl)
end Go.Proofs.YthglciccejholaaDoor
end
section
/- Packages dfa, mini, munch. -/
namespace Go.Proofs.YthglciccejholaaDoor
set_option linter.unusedSimpArgs false
set_option linter.unusedVariables false
set_option maxRecDepth 100000
open Go.RowKit
/- LeftDfa. -/
set_option maxHeartbeats 16000000 in
theorem left_dfa {D : Nat → Prop} {w : World} {d : Df} {es ds : Array Value} {p q q2 : Option Addr} {c f f2 g cap B : Nat} (hd : DC d ds p q c f) (hm : DM D w d p q c f) (he : DC d es (some ⟨g, 0, none⟩) q2 cap f2) (ht : TD B w d g cap q2 f2) (hl1 : d.nx.length ≤ 1000000) (hl2 : d.rl.length ≤ 1000000) (hl3 : ∀ r ∈ d.nx, r.length ≤ 1000000) :
    Calls Tryd.prog 22 #[.agg es, .agg ds] w fun r w' => r = .returned (.bool true) ∧ Below w.heap.size w w' := by
  obtain ⟨k1, k2, s0⟩ := two_boxes w es ds
  have S0 := Lib.hid s0
  have K1 := Lib.hid k1
  have K2 := Lib.hid k2
  have HS1 := Lib.hid he.sz
  have HS2 := Lib.hid hd.sz
  have HCS := Lib.hid (samedfa_any he ((ht.dm hl1 hl2 hl3).up s0) hd (hm.up s0))
  rw [sameD_refl] at HCS
  have HLI := Lib.hid fun z (hz : Below w.heap.size w z) => left_ints (w := z) (pb := q) (cb := f) (v := .slice q2 d.rl.length f2) hl2 (hm.up hz).lt (ht.up hz).ti (hm.up hz).rl
  have HT := Lib.hid ht
  have HM := Lib.hid hm
  have A1 := Lib.hid he.nx
  have B1 := Lib.hid hd.nx
  have A2 := Lib.hid he.rl
  have B2 := Lib.hid hd.rl
  have HL3 := Lib.hid hl3
  obtain ⟨n, hn⟩ : ∃ n, d.nx.length = n := ⟨_, rfl⟩
  have HCAP : Hid (n + 3 ≤ cap) := Lib.hid (by
    obtain ⟨⟨zs, ms, h1, h2, h3, h4⟩, _⟩ := ht
    have hl : (zs ++ ms).length = d.nx.length + 3 := by
      rw [List.length_append, ← h1, List.length_map]
      have := congrArg List.length h3
      rw [List.length_map, mks_len] at this
      omega
    obtain ⟨g', cp, e, hc⟩ := row_own h4.2 (by omega)
    injection e with _ _ e3
    omega)
  rw [hn] at A1 B1 hl1
  have HN := Lib.hid hn
  clear hd hm he ht s0 k1 k2 hl2 hl3 hn
  have c1 : ¬ (cap : Int) < (n : Int) + 3 := by have := HCAP.out; omega
  have c2 : (n : Int) + 3 ≤ (cap : Int) := by have := HCAP.out; omega
  have c3 : n + 3 ≤ cap := HCAP.out
  have c4 : (0 : Int) ≤ (n : Int) + 3 := by omega
  have c5 : ¬ (n : Int) + 3 < 0 := by omega
  go_enter Tryd.func22, Tryd.ntmps22
  go_wp2_with (first | (refine wpList_load_Dg _ rfl w.heap.size es rfl K1.out HS1.out rfl ?_) | (refine wpList_load_Dg _ rfl (w.heap.size + 1) ds rfl K2.out HS2.out rfl ?_))
  refine HCS.out.mono ?_
  rintro _ w1 ⟨rfl, hb1⟩
  have S1 := Lib.hid (S0.out.trans (hb1.mono S0.out.size))
  have L1 := Lib.hid (K1.out.up hb1)
  have L2 := Lib.hid (K2.out.up hb1)
  have x1 : w1.cell? ⟨w.heap.size, 257, none⟩ = some (.slice (some ⟨g, 0, none⟩) n cap) := (L1.out.cell 257).trans A1.out
  have x2 : w1.cell? ⟨w.heap.size + 1, 257, none⟩ = some (.slice p n c) := (L2.out.cell 257).trans B1.out
  have x3 : w1.cell? ⟨w.heap.size, 258, none⟩ = some (.slice q2 d.rl.length f2) := (L1.out.cell 258).trans A2.out
  have x4 : w1.cell? ⟨w.heap.size + 1, 258, none⟩ = some (.slice q d.rl.length f) := (L2.out.cell 258).trans B2.out
  clear hb1 HCS S0 K1 K2
  go_wp2_with fail
  refine (HLI.out _ S1.out).mono ?_
  rintro _ w2 ⟨rfl, hb2⟩
  have S2 := Lib.hid (S1.out.trans (hb2.mono S1.out.size))
  have M1 := Lib.hid (L1.out.up hb2)
  have M2 := Lib.hid (L2.out.up hb2)
  have x1 : w2.cell? ⟨w.heap.size, 257, none⟩ = some (.slice (some ⟨g, 0, none⟩) n cap) := (M1.out.cell 257).trans A1.out
  have x2 : w2.cell? ⟨w.heap.size + 1, 257, none⟩ = some (.slice p n c) := (M2.out.cell 257).trans B1.out
  clear hb2 HLI S1 L1 L2 x3 x4
  go_wp2_with fail
  clear x1 x2
  go_loopw [6] (fun i wr => ∃ k : Nat, k ≤ 3 ∧ i = .int .i64 (k : Nat) ∧ Hid (BX wr w.heap.size es) ∧ Hid (BX wr (w.heap.size + 1) ds) ∧ Hid (Below w.heap.size w wr)) (fun i _ => 3 - (intOf i).toNat)
  case atStart => exact ⟨0, by omega, rfl, M1, M2, S2⟩
  case round =>
  clear S2 M1 M2
  obtain ⟨k, hk, rfl, L1, L2, HS⟩ := hrel
  have x2 : wr.cell? ⟨w.heap.size + 1, 257, none⟩ = some (.slice p n c) := (L2.out.cell 257).trans B1.out
  by_cases hk3 : k < 3
  · have hk3I : (k : Int) < 3 := by omega
    have hmk : ∃ z : Ni, z.1 = [-7000 - (k : Int)] ∧ TR B wr z ∧ wr.cell? ⟨g, n + k, none⟩ = some (d7_nV z) := by
      obtain ⟨⟨zs, ms, h1, h2, h3, h4⟩, _⟩ := (HT.out.up HS.out)
      have hl1 : zs.length = n := by rw [← HN.out, ← h1, List.length_map]
      have hl2 : ms.length = 3 := by
        have := congrArg List.length h3
        rwa [List.length_map, mks_len] at this
      have hkm : k < ms.length := by omega
      refine ⟨ms[k], ?_, (h4.1 _ (List.mem_append_right _ (List.getElem_mem hkm))).1, ?_⟩
      · have := congrArg (fun l => l[k]?) h3
        simp only [List.getElem?_map, List.getElem?_eq_getElem hkm, Option.map_some, mks, List.getElem?_range hk3] at this
        exact Option.some.inj this
      · have := tn_cell h4 (n + k) (by simp; omega)
        rw [List.getElem_append_right (by omega)] at this
        rw [this]
        congr 2
        simp [hl1]
    obtain ⟨z, hz1, hz2, hz3⟩ := hmk
    have hlen : z.1.length = 1 := by rw [hz1]; rfl
    have hiv := hz2.iv
    obtain ⟨zv, hzv⟩ : ∃ zv, d7_nV z = zv := ⟨_, rfl⟩
    have hform : ∃ pz cz, zv = .slice pz 1 cz := ⟨_, _, by rw [← hzv, d7_nV, hlen]⟩
    obtain ⟨pz, cz, rfl⟩ := hform
    rw [hzv] at hz3 hiv
    rw [hz1] at hiv
    have hgl := hz2.lt
    have HIV := Lib.hid hiv
    have hy1 : (wr.alloc (.cells #[.int .i64 (-7000 - (k : Int))] 3)).heap.size = wr.heap.size + 1 := by simp
    have hb0 := (Below.refl wr.heap.size wr).alloc (Nat.le_refl _) (.cells #[.int .i64 (-7000 - (k : Int))] 3)
    have HB0 := Lib.hid hb0
    have HCC : Hid (Calls Tryd.prog 43 #[.slice pz 1 cz, .slice (some ⟨wr.heap.size, 0, none⟩) 1 1] (wr.alloc (.cells #[.int .i64 (-7000 - (k : Int))] 3)) fun e w' => e = .returned (.bool (decide ([-7000 - (k : Int)] = [-7000 - (k : Int)]))) ∧ Below (wr.alloc (.cells #[.int .i64 (-7000 - (k : Int))] 3)).heap.size (wr.alloc (.cells #[.int .i64 (-7000 - (k : Int))] 3)) w') := Lib.hid (d7_same_any (a := [-7000 - (k : Int)]) (b := [-7000 - (k : Int)]) (D := fun b => b < wr.heap.size) (E := fun b => b = wr.heap.size) (by simp) (fun b hb => by omega) (fun b hb => by omega) (hiv.mono (fun b h => h) (fun b hb _ => hb0.block b hb)) ⟨_, _, rfl, fun _ => ⟨wr.heap.size, 0, rfl, rfl, fun i hi => by
        have hi0 : i = 0 := by simp at hi; exact hi
        subst hi0
        exact cell_of_row _ wr.heap.size 0 _ 3 (0, 0) (heap_alloc_last wr _)⟩⟩)
    have i1 : ¬ (n : Int) + (k : Int) < 0 := by omega
    have i2 : (n : Int) + (k : Int) < (n : Int) + 3 := by omega
    clear hz1 hz2 hzv hlen hiv hb0 hy1
    go_wp2_with fail
    refine HCC.out.mono ?_
    rintro _ w5 ⟨rfl, hb5⟩
    have hb6 : Below wr.heap.size wr w5 := HB0.out.trans (hb5.mono HB0.out.size)
    have HS2 := Lib.hid (HS.out.trans (hb6.mono HS.out.size))
    have M1 := Lib.hid (L1.out.up hb6)
    have M2 := Lib.hid (L2.out.up hb6)
    rw [decide_true]
    clear hb5 hb6 HCC HB0 HS L1 L2 x2 hz3
    go_wp2_with fail
    go_roundw
    case rel => exact ⟨k + 1, by omega, by go_num, M1, M2, HS2⟩
    case measure => simp [intOf]; omega
  · obtain rfl : k = 3 := by omega
    rw [show ((3 : Nat) : Int) = 3 from rfl]
    clear x2
    go_wp2_with fail
    go_loopw [7] (fun i wr => ∃ j : Nat, j ≤ n ∧ i = .int .i64 (j : Nat) ∧ Hid (BX wr w.heap.size es) ∧ Hid (BX wr (w.heap.size + 1) ds) ∧ Hid (Below w.heap.size w wr)) (fun i _ => n - (intOf i).toNat)
    case atStart => exact ⟨0, by omega, rfl, L1, L2, HS⟩
    case round =>
    clear HS L1 L2
    obtain ⟨j, hj, rfl, L1, L2, HS⟩ := hrel
    have x1 : wr.cell? ⟨w.heap.size, 257, none⟩ = some (.slice (some ⟨g, 0, none⟩) n cap) := (L1.out.cell 257).trans A1.out
    have x2 : wr.cell? ⟨w.heap.size + 1, 257, none⟩ = some (.slice p n c) := (L2.out.cell 257).trans B1.out
    by_cases hlt : j < n
    · have hlt2 : j < d.nx.length := by rw [HN.out]; exact hlt
      obtain ⟨p', c', he, hh⟩ := (HM.out.up HS.out).nx
      injection he with e1 e2 e3
      subst e1 e3
      obtain ⟨b, o, rfl, hb, hc⟩ := hh (by intro e; rw [e] at hlt2; simp at hlt2)
      obtain ⟨qf, ff, hiv, hcj⟩ := hc j hlt2
      have hti : ∃ z : Ni, z.1 = d.nx[j] ∧ TI B wr d.nx[j] (d7_nV z) ∧ wr.cell? ⟨g, j, none⟩ = some (d7_nV z) ∧ g < wr.heap.size := by
        obtain ⟨⟨zs, ms, h1, h2, h3, h4⟩, _⟩ := (HT.out.up HS.out)
        have hzl : zs.length = d.nx.length := by rw [← h1, List.length_map]
        have hjz : j < zs.length := by omega
        have e : (zs[j]).1 = d.nx[j] := by
          have := congrArg (fun l => l[j]?) h1
          simp only [List.getElem?_map, List.getElem?_eq_getElem hjz, Option.map_some, List.getElem?_eq_getElem hlt2] at this
          exact Option.some.inj this
        refine ⟨zs[j], e, ?_, ?_, (World.ownsRow.lt h4.2 g rfl).2⟩
        · have := tn_ti h4 j hjz h2
          rwa [e] at this
        · have := tn_cell h4 j (by simp; omega)
          rwa [List.getElem_append_left hjz] at this
      obtain ⟨z, hz1, hz2, hz3, hz4⟩ := hti
      obtain ⟨zv, hzv⟩ : ∃ zv, d7_nV z = zv := ⟨_, rfl⟩
      have hform : ∃ pz cz, zv = .slice pz d.nx[j].length cz := ⟨_, _, by rw [← hzv, d7_nV, hz1]⟩
      obtain ⟨pz, cz, rfl⟩ := hform
      rw [hzv] at hz2 hz3
      have z1 := L1.out.lt
      have z2 := L2.out.lt
      have z4 : b < wr.heap.size := (HM.out.up HS.out).lt b hb
      have HCALL : Hid (∀ z : World, Below wr.heap.size wr z → Calls Tryd.prog 54 #[.slice pz d.nx[j].length cz, .slice qf d.nx[j].length ff] z fun e w' => e = .returned (.bool true) ∧ Below z.heap.size z w') := Lib.hid fun z hz => by
        have h1 : TI B z d.nx[j] (.slice pz d.nx[j].length cz) := by
          obtain ⟨g', cp, e, h⟩ := hz2
          exact ⟨g', cp, e, World.ownsRow.kept (row := none) h ⟨hz.os, hz.tape, hz.output, hz.size, fun k hk _ => hz.block k hk⟩ (.inr (by simp [Value.ownBlock]))⟩
        have hD := (HM.out.up HS.out).lt
        exact left_ints (E := D) (HL3.out _ (List.getElem_mem hlt2)) (fun b hb => Nat.lt_of_lt_of_le (hD b hb) hz.size) h1 (hiv.mono (fun b h => h) (fun b h _ => hz.block b (hD b h)))
      have hltI : (j : Int) < (n : Int) := by omega
      have hjI : ¬ (j : Int) < 0 := by omega
      clear hh hc hiv hz1 hz2 hzv e2
      generalize d.nx[j].length = m1 at *
      go_wp2_with fail
      have hX : ∀ w', Below wr.drew.heap.size wr.drew w' → w'.cell? ⟨w.heap.size, 257, none⟩ = some (.slice (some ⟨g, 0, none⟩) n cap) ∧ w'.cell? ⟨w.heap.size + 1, 257, none⟩ = some (.slice (some ⟨b, o, none⟩) n c) ∧ w'.cell? ⟨g, j, none⟩ = some (.slice pz m1 cz) ∧ w'.cell? ⟨b, o + j, none⟩ = some (.slice qf m1 ff) ∧ Below wr.heap.size wr w' := fun w' hb => 
        have hb' : Below wr.heap.size wr w' := ((Below.refl wr.heap.size wr).drew).trans hb
        ⟨(hb'.cell (p := ⟨w.heap.size, 257, none⟩) z1).trans x1, (hb'.cell (p := ⟨w.heap.size + 1, 257, none⟩) z2).trans x2, (hb'.cell (p := ⟨g, j, none⟩) hz4).trans hz3, (hb'.cell (p := ⟨b, o + j, none⟩) z4).trans hcj, hb'⟩
      go_region_held3 (fun w' => w'.cell? ⟨w.heap.size, 257, none⟩ = some (.slice (some ⟨g, 0, none⟩) n cap) ∧ w'.cell? ⟨w.heap.size + 1, 257, none⟩ = some (.slice (some ⟨b, o, none⟩) n c) ∧ w'.cell? ⟨g, j, none⟩ = some (.slice pz m1 cz) ∧ w'.cell? ⟨b, o + j, none⟩ = some (.slice qf m1 ff) ∧ Below wr.heap.size wr w')
        (first | assumption | exact ⟨x1, x2, hz3, hcj, (Below.refl wr.heap.size wr).drew⟩ | exact hX _ hb)
        (first | (go_at_call 54; refine (HCALL.out _ (Below.refl wr.heap.size wr).drew).mono ?_; rintro _ w' ⟨rfl, hb⟩))
      have hb' : Below wr.heap.size wr w' := ((Below.refl wr.heap.size wr).drew).trans hb
      have HS2 := Lib.hid (HS.out.trans (hb'.mono HS.out.size))
      have M1 := Lib.hid (L1.out.up hb')
      have M2 := Lib.hid (L2.out.up hb')
      clear hb hb' hX HS L1 L2 x1 x2 hz3 hcj HCALL
      go_wp2_with fail
      go_roundw
      case rel => exact ⟨j + 1, by omega, by go_num, M1, M2, HS2⟩
      case measure => simp [intOf]; omega
    · obtain rfl : j = n := by omega
      go_wp2_with fail
      go_ret
      exact ⟨rfl, HS.out⟩
end Go.Proofs.YthglciccejholaaDoor
end
