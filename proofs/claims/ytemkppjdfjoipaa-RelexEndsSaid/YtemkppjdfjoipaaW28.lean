/- Texts of package regs, one behind the other. -/
import Derived.Test.YtemkppjdfjoipaaProg
import Derived.Test.YtemkppjdfjoipaaXn
import Derived.Deep.SlicePairs
import Derived.Deep.Slices
import Derived.Laws.IdiomArrays
import Derived.OpenShut
import Derived.WideBlind
import Derived.Great.BuildSlice
import Derived.WalkKit
import Derived.Maps.OwnSet
import Derived.Maps.OwnOps
import Derived.Maps.Own
import Derived.DeepKeys5
import Derived.BigFrame
import Derived.WalkMore
import Derived.ScopeJumps
import Derived.StillTailTactics
import Derived.Stop.BytesEq
import Derived.WalkLawsBesides
import Derived.WalkSpells
import Derived.Outline
import Derived.Lib.Walk
import Derived.Lib.Hide
import Derived.Lib.Slices
import Derived.Lib.Strings
import Derived.RegionTactic
import Derived.LoopTactic
import Derived.Below
import Derived.IntWalk
import Derived.Deep.QuietTactic
import Derived.BigQuiet
import Derived.Deep.MidRow
import Derived.Maps.AppendAt
import Derived.Laws.Rows
import Derived.Laws.Tables
import Derived.Deep.WholeRow
import Derived.Deep.Cut
import Derived.Deep.CutRange
import Derived.Lib.SliceRun
import Derived.Laws.MakeOwn
import Derived.Deep.RegionLaw
import Derived.Deep.RegionLawGrows
import Derived.Deep.RegionHeld3
import Derived.RegionCalls
import Derived.Deep.RegionWith
import Derived.Deep.Light
import Derived.Laws.CopyOwn
import Derived.Laws.ResultCell
import Derived.Test.YtemkppjdfjoipaaW4
section
/- Package relex. -/
namespace Go.Proofs.Ytemkppjdfjoipaa.I1.X
set_option linter.unusedSimpArgs false
set_option linter.unusedVariables false
set_option maxRecDepth 100000
open Go.RowKit
/- copied. -/
def CpP (w0 : World) (B : Nat) (X : List It) (L : List P3) (x : Lx) (n1 n2 n3 n4 : Nat) (e : Ending) (w' : World) : Prop :=
  ∃ v1 bT bR v3 v4, e = .returned (.agg #[v1, .slice (some ⟨bT, 0, none⟩) n2 n2, v3, v4]) ∧ Sep B w0 w' (.row v4 40 3 n4 (tkL x.toks) :: .row v3 3 1 n3 (zi x.counts) :: .box bT (.cells (csT (vsR bR 0 x.marks) x.marks) 36 (0, 0)) :: .box bR (.cells (zi (zcols x.marks)).toArray 3 (0, 0)) :: .row v1 38 3 n1 (rwL (L.map tR)) :: X)
theorem build28 (a b c d : Value) (ha : ∃ p n k, a = .slice p n k) (hb : ∃ p n k, b = .slice p n k) (hc : ∃ p n k, c = .slice p n k) (hd : ∃ p n k, d = .slice p n k) : Try.prog.built 28 [(0, a), (1, b), (2, c), (3, d)] = some #[a, b, c, d] := by
  obtain ⟨p1, n1, k1, rfl⟩ := ha
  obtain ⟨p2, n2, k2, rfl⟩ := hb
  obtain ⟨p3, n3, k3, rfl⟩ := hc
  obtain ⟨p4, n4, k4, rfl⟩ := hd
  kernel_rfl
set_option maxHeartbeats 16000000 in
theorem copied_any {N B : Nat} {w0 w : World} {X : List It} {L : List P3} {x : Lx} {p1 p2 p3 p4 : Option Addr} {c1 c2 c3 c4 : Nat} (hN : N ≤ B) (hlv : LV N w L x p1 p2 p3 p4 c1 c2 c3 c4) (hne : x.marks ≠ []) (hpos : ∀ m ∈ x.marks, 0 < m.cols.length) (h1 : L.length ≤ 1000000) (h2 : x.marks.length ≤ 1000000) (h3 : x.counts.length ≤ 1000000) (h4 : x.toks.length ≤ 1000000000) (hall : clen x.marks ≤ 1000000000) (hsep : Sep B w0 w X) :
    Calls Try.prog 41 #[.agg #[.slice p1 L.length c1, .slice p2 x.marks.length c2, .slice p3 x.counts.length c3, .slice p4 x.toks.length c4]] w (CpP w0 B X L x L.length x.marks.length x.counts.length x.toks.length) := by
  have hz := zero28
  have hBw := hsep.sz
  have HUP : Hid (∀ z Y, Sep B w0 z Y → LV N z L x p1 p2 p3 p4 c1 c2 c3 c4) := Lib.hid fun z Y hz => by
    have hk : ∀ b, b < N → z.heap[b]? = w.heap[b]? := fun b hb => (hz.bel.block b (by omega)).trans (hsep.bel.block b (by omega)).symm
    exact ⟨hlv.r.mono (fun b hb => hb) (fun b hb _ => hk b hb), hlv.m.mono (fun b hb => hb) (fun b hb _ => hk b hb), hlv.k.mono (fun b hb => hb) (fun b hb _ => hk b hb), hlv.t.mono (fun b hb => hb) (fun b hb _ => hk b hb), hlv.h1, hlv.h2, hlv.h3, hlv.h4⟩
  have HC1 : Hid (∀ z Y, Sep B w0 z Y → Calls Try.prog 27 #[.slice p1 L.length c1] z fun e w' => ∃ v, e = .returned v ∧ w'.ownsRow z.heap.size 38 3 v L.length (rwL (L.map tR)) ∧ Below z.heap.size z w') := Lib.hid fun z Y hz => by
    have hh := (HUP.out z Y hz).r
    have h9 := cloneR_any (l := L.map tR) (by rw [List.length_map]; exact h1) (fun b hb => Nat.lt_of_lt_of_le hb (Nat.le_trans hN hz.sz)) (by rw [List.length_map]; exact hh)
    rw [List.length_map] at h9
    exact h9
  have HC2 : Hid (∀ z Y, Sep B w0 z Y → Calls Try.prog 70 #[.slice p2 x.marks.length c2] z (CmP w0 B Y x.marks.length x.marks)) := Lib.hid fun z Y hz => copmarks_any hN (HUP.out z Y hz).m hne hpos h2 hall hz
  have HC3 : Hid (∀ z Y, Sep B w0 z Y → Calls Try.prog 51 #[.slice p3 x.counts.length c3] z fun e w' => ∃ v, e = .returned v ∧ w'.ownsRow z.heap.size 3 1 v x.counts.length (zi x.counts) ∧ Below z.heap.size z w') := Lib.hid fun z Y hz =>
    clone51 (by omega) (by rw [zi_length, Nat.mul_one]) (zi_one _) (fun b hb => Nat.lt_of_lt_of_le hb (Nat.le_trans hN hz.sz)) (IV.gv (HUP.out z Y hz).k)
  have HC4 : Hid (∀ z Y, Sep B w0 z Y → Calls Try.prog 71 #[.slice p4 x.toks.length c4] z fun e w' => ∃ v, e = .returned v ∧ w'.ownsRow z.heap.size 40 3 v x.toks.length (tkL x.toks) ∧ Below z.heap.size z w') := Lib.hid fun z Y hz =>
    clone71 h4 (tkL_len _) (fun u hu => by obtain ⟨t, _, ht⟩ := List.mem_flatMap.1 hu; exact tk_one t u ht) (fun b hb => Nat.lt_of_lt_of_le hb (Nat.le_trans hN hz.sz)) (WV.gv (HUP.out z Y hz).t)
  obtain ⟨n1, hn1⟩ : ∃ n, L.length = n := ⟨_, rfl⟩
  obtain ⟨n2, hn2⟩ : ∃ n, x.marks.length = n := ⟨_, rfl⟩
  obtain ⟨n3, hn3⟩ : ∃ n, x.counts.length = n := ⟨_, rfl⟩
  obtain ⟨n4, hn4⟩ : ∃ n, x.toks.length = n := ⟨_, rfl⟩
  rw [hn1] at HC1 ⊢
  rw [hn2] at HC2 ⊢
  rw [hn3] at HC3 ⊢
  rw [hn4] at HC4 ⊢
  obtain ⟨b1, hb1⟩ : ∃ b, w.heap.size = b := ⟨_, rfl⟩
  have S0 := Lib.hid ((hsep.allocAt hb1 (.cells #[.slice p1 n1 c1, .slice p2 n2 c2, .slice p3 n3 c3, .slice p4 n4 c4] 28)).allocAt (b := b1 + 1) (by simp [hb1]) (.cells zL 28))
  clear hlv hne hpos h1 h2 h3 h4 hall hsep HUP hn1 hn2 hn3 hn4
  go_enter Try.func41, Try.ntmps41
  go_upto_region 1 with fail
  obtain ⟨b2, hb2⟩ : ∃ b, b1 + 1 = b := ⟨_, rfl⟩
  rw [hb2] at S0 ⊢
  refine at_world (fun y => Sep B w0 y (bxL b2 zL :: bxL b1 #[.slice p1 n1 c1, .slice p2 n2 c2, .slice p3 n3 c3, .slice p4 n4 c4] :: X)) S0.out fun y hy => ?_
  have S1 := Lib.hid hy
  clear hy S0 hb1 hb2
  refine wp_region_held_drew (S := fun z => z.heap[b1]? = some (.cells #[.slice p1 n1 c1, .slice p2 n2 c2, .slice p3 n3 c3, .slice p4 n4 c4] 28)) (by kernel_rfl) (S1.out.drew.tl.at.2) (fun hHeld => ?_)
  refine wpAnyH_take (i := 0) (v := .pointer (some ⟨b1, 0, none⟩)) rfl (by kernel_rfl) (by kernel_rfl) (by kernel_rfl) (fun _ _ _ h => h) (Or.inl ⟨by rfl, by (intro w hSw; (try dsimp only at hSw); go_simp)⟩) hHeld ?_
  (try simp only [Act.put, List.getElem_toArray, List.getElem_cons_zero, List.getElem_cons_succ, List.setIfInBounds_toArray, List.set_cons_zero, List.set_cons_succ])
  refine wpAnyH_take (i := 1) (v := .slice p1 n1 c1) rfl (by kernel_rfl) (by kernel_rfl) (by kernel_rfl) (fun _ _ _ h => h) (Or.inl ⟨by rfl, (by intro w hSw; (try dsimp only at hSw); have hc := cell_of_row w b1 0 _ 28 (0, 0) hSw; go_simp)⟩) hHeld ?_
  (try simp only [Act.put, List.getElem_toArray, List.getElem_cons_zero, List.getElem_cons_succ, List.setIfInBounds_toArray, List.set_cons_zero, List.set_cons_succ])
  refine wpAnyH_take (i := 3) (v := .pointer (some ⟨b1, 1, none⟩)) rfl (by kernel_rfl) (by kernel_rfl) (by kernel_rfl) (fun _ _ _ h => h) (Or.inl ⟨by rfl, by (intro w hSw; (try dsimp only at hSw); go_simp)⟩) hHeld ?_
  (try simp only [Act.put, List.getElem_toArray, List.getElem_cons_zero, List.getElem_cons_succ, List.setIfInBounds_toArray, List.set_cons_zero, List.set_cons_succ])
  refine wpAnyH_take (i := 4) (v := .slice p2 n2 c2) rfl (by kernel_rfl) (by kernel_rfl) (by kernel_rfl) (fun _ _ _ h => h) (Or.inl ⟨by rfl, (by intro w hSw; (try dsimp only at hSw); have hc := cell_of_row w b1 1 _ 28 (0, 0) hSw; go_simp)⟩) hHeld ?_
  (try simp only [Act.put, List.getElem_toArray, List.getElem_cons_zero, List.getElem_cons_succ, List.setIfInBounds_toArray, List.set_cons_zero, List.set_cons_succ])
  refine wpAnyH_take (i := 6) (v := .pointer (some ⟨b1, 2, none⟩)) rfl (by kernel_rfl) (by kernel_rfl) (by kernel_rfl) (fun _ _ _ h => h) (Or.inl ⟨by rfl, by (intro w hSw; (try dsimp only at hSw); go_simp)⟩) hHeld ?_
  (try simp only [Act.put, List.getElem_toArray, List.getElem_cons_zero, List.getElem_cons_succ, List.setIfInBounds_toArray, List.set_cons_zero, List.set_cons_succ])
  refine wpAnyH_take (i := 7) (v := .slice p3 n3 c3) rfl (by kernel_rfl) (by kernel_rfl) (by kernel_rfl) (fun _ _ _ h => h) (Or.inl ⟨by rfl, (by intro w hSw; (try dsimp only at hSw); have hc := cell_of_row w b1 2 _ 28 (0, 0) hSw; go_simp)⟩) hHeld ?_
  (try simp only [Act.put, List.getElem_toArray, List.getElem_cons_zero, List.getElem_cons_succ, List.setIfInBounds_toArray, List.set_cons_zero, List.set_cons_succ])
  refine wpAnyH_take (i := 9) (v := .pointer (some ⟨b1, 3, none⟩)) rfl (by kernel_rfl) (by kernel_rfl) (by kernel_rfl) (fun _ _ _ h => h) (Or.inl ⟨by rfl, by (intro w hSw; (try dsimp only at hSw); go_simp)⟩) hHeld ?_
  (try simp only [Act.put, List.getElem_toArray, List.getElem_cons_zero, List.getElem_cons_succ, List.setIfInBounds_toArray, List.set_cons_zero, List.set_cons_succ])
  refine wpAnyH_take (i := 10) (v := .slice p4 n4 c4) rfl (by kernel_rfl) (by kernel_rfl) (by kernel_rfl) (fun _ _ _ h => h) (Or.inl ⟨by rfl, (by intro w hSw; (try dsimp only at hSw); have hc := cell_of_row w b1 3 _ 28 (0, 0) hSw; go_simp)⟩) hHeld ?_
  (try simp only [Act.put, List.getElem_toArray, List.getElem_cons_zero, List.getElem_cons_succ, List.setIfInBounds_toArray, List.set_cons_zero, List.set_cons_succ])
  have SD := Lib.hid S1.out.drew
  clear S1
  refine wpAnyH_ready (rs := [2]) (by kernel_rfl) (by simp) ?_
  refine AllReadyH.cons rfl (fun K hK => ?_) (AllReadyH.nil)
  rw [if_pos (by rfl)]
  go_wp2_with fail
  refine (HC1.out _ _ SD.out).mono ?_
  rintro _ w2 ⟨v1, rfl, hr1, hb⟩
  have T1 := Lib.hid (SD.out.add hb hr1)
  refine hK.out _ _ ((hb.block b1 (It.lt SD.out.tl.at rfl).2).trans SD.out.tl.at.2) (fun hHeld2 => ?_)
  clear hHeld hK
  have hHeld := hHeld2
  clear hHeld2
  (try simp only [Act.put, List.getElem_toArray, List.getElem_cons_zero, List.getElem_cons_succ, List.setIfInBounds_toArray, List.set_cons_zero, List.set_cons_succ])
  clear SD hb hr1 HC1
  refine wpAnyH_ready (rs := [5]) (by kernel_rfl) (by simp) ?_
  refine AllReadyH.cons rfl (fun K hK => ?_) (AllReadyH.nil)
  rw [if_pos (by rfl)]
  go_wp2_with fail
  refine (HC2.out _ _ T1.out).mono ?_
  rintro _ w3 ⟨bT, bR, rfl, hs3⟩
  have T2 := Lib.hid hs3
  refine hK.out _ _ (hs3.tl.tl.tl.tl.at.2) (fun hHeld2 => ?_)
  clear hHeld hK
  have hHeld := hHeld2
  clear hHeld2
  (try simp only [Act.put, List.getElem_toArray, List.getElem_cons_zero, List.getElem_cons_succ, List.setIfInBounds_toArray, List.set_cons_zero, List.set_cons_succ])
  clear T1 hs3 HC2
  refine wpAnyH_ready (rs := [8]) (by kernel_rfl) (by simp) ?_
  refine AllReadyH.cons rfl (fun K hK => ?_) (AllReadyH.nil)
  rw [if_pos (by rfl)]
  go_wp2_with fail
  refine (HC3.out _ _ T2.out).mono ?_
  rintro _ w4 ⟨v3, rfl, hr1, hb⟩
  have T3 := Lib.hid (T2.out.add hb hr1)
  refine hK.out _ _ ((hb.block b1 (It.lt T2.out.tl.tl.tl.tl.at rfl).2).trans T2.out.tl.tl.tl.tl.at.2) (fun hHeld2 => ?_)
  clear hHeld hK
  have hHeld := hHeld2
  clear hHeld2
  (try simp only [Act.put, List.getElem_toArray, List.getElem_cons_zero, List.getElem_cons_succ, List.setIfInBounds_toArray, List.set_cons_zero, List.set_cons_succ])
  clear T2 hb hr1 HC3
  refine wpAnyH_ready (rs := [11]) (by kernel_rfl) (by simp) ?_
  refine AllReadyH.cons rfl (fun K hK => ?_) (AllReadyH.nil)
  rw [if_pos (by rfl)]
  go_wp2_with fail
  refine (HC4.out _ _ T3.out).mono ?_
  rintro _ w5 ⟨v4, rfl, hr1, hb⟩
  have T4 := Lib.hid (T3.out.add hb hr1)
  refine hK.out _ _ ((hb.block b1 (It.lt T3.out.tl.tl.tl.tl.tl.at rfl).2).trans T3.out.tl.tl.tl.tl.tl.at.2) (fun hHeld2 => ?_)
  clear hHeld hK
  have hHeld := hHeld2
  clear hHeld2
  (try simp only [Act.put, List.getElem_toArray, List.getElem_cons_zero, List.getElem_cons_succ, List.setIfInBounds_toArray, List.set_cons_zero, List.set_cons_succ])
  clear T3 hb hr1 HC4
  obtain ⟨q1, k1, hv1⟩ := row_form (T4.out.li (.row v1 38 3 n1 (rwL (L.map tR))) (by simp))
  obtain ⟨q3, k3, hv3⟩ := row_form (T4.out.tl.at)
  obtain ⟨q4, k4, hv4⟩ := row_form T4.out.at
  have hbld := build28 v1 (.slice (some ⟨bT, 0, none⟩) n2 n2) v3 v4 ⟨_, _, _, hv1⟩ ⟨_, _, _, rfl⟩ ⟨_, _, _, hv3⟩ ⟨_, _, _, hv4⟩
  subst hv1 hv3 hv4
  have d0 : w5.cell? ⟨b2, 0, none⟩ = some (.slice none 0 0) := T4.out.tl.tl.tl.tl.tl.boxAt 0
  have d1 : w5.cell? ⟨b2, 1, none⟩ = some (.slice none 0 0) := T4.out.tl.tl.tl.tl.tl.boxAt 1
  have d2 : w5.cell? ⟨b2, 2, none⟩ = some (.slice none 0 0) := T4.out.tl.tl.tl.tl.tl.boxAt 2
  have d3 : w5.cell? ⟨b2, 3, none⟩ = some (.slice none 0 0) := T4.out.tl.tl.tl.tl.tl.boxAt 3
  have f0 : w5.frozen? ⟨b2, 0, none⟩ = false := T4.out.tl.tl.tl.tl.tl.fz 0
  have f1 : w5.frozen? ⟨b2, 1, none⟩ = false := T4.out.tl.tl.tl.tl.tl.fz 1
  have f2 : w5.frozen? ⟨b2, 2, none⟩ = false := T4.out.tl.tl.tl.tl.tl.fz 2
  have f3 : w5.frozen? ⟨b2, 3, none⟩ = false := T4.out.tl.tl.tl.tl.tl.fz 3
  have T5 : Hid (Sep B w0 ((((w5.setCell ⟨b2, 0, none⟩ (.slice q1 n1 k1)).setCell ⟨b2, 1, none⟩ (.slice (some ⟨bT, 0, none⟩) n2 n2)).setCell ⟨b2, 2, none⟩ (.slice q3 n3 k3)).setCell ⟨b2, 3, none⟩ (.slice q4 n4 k4)) (.row (.slice q4 n4 k4) 40 3 n4 (tkL x.toks) :: .row (.slice q3 n3 k3) 3 1 n3 (zi x.counts) :: .box bT (.cells (csT (vsR bR 0 x.marks) x.marks) 36 (0, 0)) :: .box bR (.cells (zi (zcols x.marks)).toArray 3 (0, 0)) :: .row (.slice q1 n1 k1) 38 3 n1 (rwL (L.map tR)) :: bxL b2 #[.slice q1 n1 k1, .slice (some ⟨bT, 0, none⟩) n2 n2, .slice q3 n3 k3, .slice q4 n4 k4] :: bxL b1 #[.slice p1 n1 c1, .slice p2 n2 c2, .slice p3 n3 c3, .slice p4 n4 c4] :: X)) := Lib.hid (by
    have e := ((((T4.out.setAt [_, _, _, _, _] 0 (.slice q1 n1 k1)).setAt [_, _, _, _, _] 1 (.slice (some ⟨bT, 0, none⟩) n2 n2)).setAt [_, _, _, _, _] 2 (.slice q3 n3 k3)).setAt [_, _, _, _, _] 3 (.slice q4 n4 k4))
    exact e)
  refine wpAnyH_take (i := 12) (v := .agg #[.slice q1 n1 k1, .slice (some ⟨bT, 0, none⟩) n2 n2, .slice q3 n3 k3, .slice q4 n4 k4]) rfl (by kernel_rfl) (by kernel_rfl) (by kernel_rfl) (fun _ _ _ h => h) (Or.inl ⟨by rfl, by (intro w hSw; (try dsimp only at hSw); go_simp)⟩) hHeld ?_
  (try simp only [Act.put, List.getElem_toArray, List.getElem_cons_zero, List.getElem_cons_succ, List.setIfInBounds_toArray, List.set_cons_zero, List.set_cons_succ])
  refine wpAnyH_ready (rs := [13]) (by kernel_rfl) (by simp) ?_
  refine AllReadyH.cons rfl (fun K hK => ?_) (AllReadyH.nil)
  rw [if_pos (by rfl)]
  go_wp2_with fail
  refine hK.out _ _ (T5.out.tl.tl.tl.tl.tl.tl.at.2) (fun hHeld2 => ?_)
  (try simp only [Act.put, List.getElem_toArray, List.getElem_cons_zero, List.getElem_cons_succ, List.setIfInBounds_toArray, List.set_cons_zero, List.set_cons_succ])
  refine wpAnyH_done (by kernel_rfl) ?_ _
  clear hHeld hHeld2 hK d0 d1 d2 d3 f0 f1 f2 f3
  obtain ⟨w6, hw6⟩ : ∃ w6, ((((w5.setCell ⟨b2, 0, none⟩ (.slice q1 n1 k1)).setCell ⟨b2, 1, none⟩ (.slice (some ⟨bT, 0, none⟩) n2 n2)).setCell ⟨b2, 2, none⟩ (.slice q3 n3 k3)).setCell ⟨b2, 3, none⟩ (.slice q4 n4 k4)) = w6 := ⟨_, rfl⟩
  rw [hw6] at T5 ⊢
  go_wp2_with fail
  refine bodyPost_ret (results_cell_row rfl _ _ b2 28 _ (0, 0) _ rfl T5.out.tl.tl.tl.tl.tl.at.2 Try.underlying28 rfl info28) rfl ⟨_, bT, bR, _, _, rfl, ?_⟩
  refine T5.out.sub ?_
  refine .cons_cons _ (.cons_cons _ (.cons_cons _ (.cons_cons _ (.cons_cons _ (.cons _ (.cons _ (.refl _)))))))
end Go.Proofs.Ytemkppjdfjoipaa.I1.X
end
section
/- Package relex. -/
namespace Go.Proofs.Ytemkppjdfjoipaa.I1.X
set_option linter.unusedSimpArgs false
set_option linter.unusedVariables false
set_option maxRecDepth 100000
open Go.RowKit
/- sharing, there. -/
def shV (m n : Mk) (v v' : Value) : Value := if m.cols = n.cols then v else v'
set_option maxHeartbeats 16000000 in
theorem sharing_any {D E : Nat → Prop} {w : World} {m n : Mk} {p p' : Option Addr} {c c' : Nat} (hl : m.cols.length ≤ 9223372036854775806) (hD : ∀ b, D b → b < w.heap.size) (hE : ∀ b, E b → b < w.heap.size) (ha : IV D w m.cols (.slice p m.cols.length c)) (hb : IV E w n.cols (.slice p' n.cols.length c')) :
    Calls Try.prog 47 #[.agg (mkA (.slice p m.cols.length c) m), .agg (mkA (.slice p' n.cols.length c') n)] w fun e w' => e = .returned (.agg (mkA (shV m n (.slice p m.cols.length c) (.slice p' n.cols.length c')) n)) ∧ Below w.heap.size w w' := by
  obtain ⟨cols, o, kk, fr, ld⟩ := m
  obtain ⟨cols', o', kk', fr', ld'⟩ := n
  unfold mkA shV
  simp only [] at hl ha hb ⊢
  have hz := zero24
  obtain ⟨bm, hbm⟩ : ∃ b, w.heap.size = b := ⟨_, rfl⟩
  have HBM := Lib.hid hbm
  have S0 := ((((Sep.start w).allocAt hbm (.cells #[.slice p cols.length c, .int .i64 o, .int .i64 kk, .bool fr, .int .i64 ld] 36)).allocAt (b := bm + 1) (by simp [hbm]) (.cells #[.slice p' cols'.length c', .int .i64 o', .int .i64 kk', .bool fr', .int .i64 ld'] 36)).allocAt (b := bm + 1 + 1) (by simp [hbm]) (.cells zA 36))
  have HC := Lib.hid (fun (y : World) (hy : Below w.heap.size w y) => equal_any (w := y) hl (fun b hb => Nat.lt_of_lt_of_le (hD b hb) hy.size) (fun b hb => Nat.lt_of_lt_of_le (hE b hb) hy.size) (ha.mono (D := D) (E := D) (fun b h => h) (fun b hb _ => hy.block b (hD b hb))) (hb.mono (D := E) (E := E) (fun b h => h) (fun b hb _ => hy.block b (hE b hb))))
  rw [hbm] at S0
  have S0 := Lib.hid S0
  obtain ⟨l1, hl1⟩ : ∃ l, cols.length = l := ⟨_, rfl⟩
  obtain ⟨l2, hl2⟩ : ∃ l, cols'.length = l := ⟨_, rfl⟩
  rw [hl1, hl2] at HC S0 ⊢
  obtain ⟨vR, hvR⟩ : ∃ v, (if cols = cols' then (.slice p l1 c : Value) else .slice p' l2 c') = v := ⟨_, rfl⟩
  rw [hvR]
  have HVR := Lib.hid hvR
  clear hvR
  obtain ⟨b2, hb2⟩ : ∃ b, bm + 1 = b := ⟨_, rfl⟩
  rw [hb2] at S0
  obtain ⟨b3, hb3⟩ : ∃ b, b2 + 1 = b := ⟨_, rfl⟩
  rw [hb3] at S0
  clear ha hb hD hE hl hl1 hl2
  go_enter Try.func47, Try.ntmps47
  go_upto_region 1 with fail
  clear hb2 hb3 hbm
  refine at_world (fun y => Sep bm w y [.box b3 (.cells zA 36 (0, 0)), .box b2 (.cells #[.slice p' l2 c', .int .i64 o', .int .i64 kk', .bool fr', .int .i64 ld'] 36 (0, 0)), .box bm (.cells #[.slice p l1 c, .int .i64 o, .int .i64 kk, .bool fr, .int .i64 ld] 36 (0, 0))]) S0.out fun y hy => ?_
  have y0 : y.cell? ⟨bm, 0, none⟩ = some (.slice p l1 c) := hy.tl.tl.boxAt 0
  have y1 : y.cell? ⟨b2, 0, none⟩ = some (.slice p' l2 c') := hy.tl.boxAt 0
  have HC2 := Lib.hid (HC.out y (HBM.out ▸ hy.bel))
  have S1 := Lib.hid hy
  clear hy S0 HC
  obtain ⟨eq, heq⟩ : ∃ e, decide (cols = cols') = e := ⟨_, rfl⟩
  rw [heq] at HC2
  have HEQ := Lib.hid heq
  clear heq
  go_wp2_with fail
  refine HC2.out.mono ?_
  rintro _ w2 ⟨rfl, hb⟩
  have S2 := Lib.hid (S1.out.up hb)
  clear hb HC2 S1 y0 y1
  have f0 : w2.frozen? ⟨b3, 0, none⟩ = false := S2.out.fz 0
  have f1 : w2.frozen? ⟨b3, 1, none⟩ = false := S2.out.fz 1
  have f2 : w2.frozen? ⟨b3, 2, none⟩ = false := S2.out.fz 2
  have f3 : w2.frozen? ⟨b3, 3, none⟩ = false := S2.out.fz 3
  have f4 : w2.frozen? ⟨b3, 4, none⟩ = false := S2.out.fz 4
  have e0 : w2.cell? ⟨b3, 0, none⟩ = some (.slice none 0 0) := S2.out.boxAt 0
  have e1 : w2.cell? ⟨b3, 1, none⟩ = some (.int .i64 0) := S2.out.boxAt 1
  have e2 : w2.cell? ⟨b3, 2, none⟩ = some (.int .i64 0) := S2.out.boxAt 2
  have e3 : w2.cell? ⟨b3, 3, none⟩ = some (.bool false) := S2.out.boxAt 3
  have e4 : w2.cell? ⟨b3, 4, none⟩ = some (.int .i64 0) := S2.out.boxAt 4
  have g0 : w2.cell? ⟨b2, 0, none⟩ = some (.slice p' l2 c') := S2.out.tl.boxAt 0
  have g1 : w2.cell? ⟨b2, 1, none⟩ = some (.int .i64 o') := S2.out.tl.boxAt 1
  have g2 : w2.cell? ⟨b2, 2, none⟩ = some (.int .i64 kk') := S2.out.tl.boxAt 2
  have g3 : w2.cell? ⟨b2, 3, none⟩ = some (.bool fr') := S2.out.tl.boxAt 3
  have g4 : w2.cell? ⟨b2, 4, none⟩ = some (.int .i64 ld') := S2.out.tl.boxAt 4
  have gf : w2.frozen? ⟨b2, 0, none⟩ = false := S2.out.tl.fz 0
  have a0 : w2.cell? ⟨bm, 0, none⟩ = some (.slice p l1 c) := S2.out.tl.tl.boxAt 0
  have ne1 : b3 ≠ b2 := fun e => (List.pairwise_cons.1 S2.out.ap).1 _ (List.mem_cons_self ..) b3 rfl (by rw [e]; rfl)
  cases eq with
  | true =>
    have hE : cols = cols' := of_decide_eq_true HEQ.out
    have HRES : Hid (vR = .slice p l1 c) := Lib.hid (HVR.out.symm.trans (if_pos hE))
    clear hE HEQ HVR
    have T := Lib.hid (((((((S2.out.setAt [_] 0 (.slice p l1 c)).setc 0 (.slice p l1 c)).setc 1 (.int .i64 o')).setc 2 (.int .i64 kk')).setc 3 (.bool fr')).setc 4 (.int .i64 ld')))
    go_wp2_with fail
    refine bodyPost_ret (results_cell_row rfl _ _ b3 36 _ (0, 0) _ rfl T.out.at.2 Try.underlying36 rfl info24) rfl ⟨by rw [HRES.out]; rfl, HBM.out ▸ T.out.bel⟩
  | false =>
    have hE : ¬ cols = cols' := of_decide_eq_false HEQ.out
    have HRES : Hid (vR = .slice p' l2 c') := Lib.hid (HVR.out.symm.trans (if_neg hE))
    clear hE HEQ HVR
    have T := Lib.hid ((((((S2.out.setc 0 (.slice p' l2 c')).setc 1 (.int .i64 o')).setc 2 (.int .i64 kk')).setc 3 (.bool fr')).setc 4 (.int .i64 ld')))
    go_wp2_with fail
    refine bodyPost_ret (results_cell_row rfl _ _ b3 36 _ (0, 0) _ rfl T.out.at.2 Try.underlying36 rfl info24) rfl ⟨by rw [HRES.out]; rfl, HBM.out ▸ T.out.bel⟩
end Go.Proofs.Ytemkppjdfjoipaa.I1.X
end
