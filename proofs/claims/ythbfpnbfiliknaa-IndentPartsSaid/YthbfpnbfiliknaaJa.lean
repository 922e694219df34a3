/- Package indent. -/
import Derived.Test.YthbfpnbfiliknaaProg
import Derived.Test.YthbfpnbfiliknaaIz
import Derived.Great.BuildSlice
import Derived.WalkKit
import Derived.Maps.OwnSet
import Derived.Maps.OwnOps
import Derived.Maps.Own
import Derived.DeepKeys5
import Derived.BigFrame
import Derived.WalkMore
import Derived.ScopeJumps
import Derived.StillTailTactics
import Derived.Stop.BytesEq
import Derived.WalkLawsBesides
import Derived.WalkSpells
import Derived.Outline
import Derived.Lib.Walk
import Derived.Lib.Hide
import Derived.Lib.Slices
import Derived.Lib.Strings
import Derived.RegionTactic
import Derived.LoopTactic
import Derived.Below
import Derived.IntWalk
import Derived.Deep.QuietTactic
import Derived.BigQuiet
import Derived.Deep.MidRow
import Derived.Maps.AppendAt
import Derived.Laws.Rows
import Derived.Laws.Tables
import Derived.Deep.WholeRow
import Derived.Deep.Cut
import Derived.Deep.CutRange
import Derived.Lib.SliceRun
import Derived.Laws.MakeOwn
import Derived.Deep.RegionLaw
import Derived.Deep.RegionLawGrows
import Derived.Deep.RegionHeld3
import Derived.RegionCalls
import Derived.Deep.RegionWith
import Derived.Deep.Light
import Derived.Laws.CopyOwn
import Derived.Laws.ResultCell
namespace Go.Proofs.Ythbfpnbfiliknaa
set_option linter.unusedSimpArgs false
set_option linter.unusedVariables false
set_option maxRecDepth 100000
open Go.RowKit
/- IndentEnds. -/
theorem Only.grown {g : Option Nat} {w w' : World} (h : Only g w w') : w.grownBy w' g := ⟨h.os, h.tape, h.output, by rw [h.size]; exact Nat.le_refl _, fun k hk hne => h.block k hne⟩
set_option maxHeartbeats 32000000 in
theorem ends_any {D : Nat → Prop} {w : World} {m : Mk} {p : Option Addr} {c : Nat} (hl : m.cols.length ≤ 9223372036854775806) (hD : ∀ b, D b → b < w.heap.size) (hiv : IV D w m.cols (.slice p m.cols.length c)) :
    Calls Try.prog 4 #[.agg (mkA (.slice p m.cols.length c) m)] w fun e w' => e = .returned (.bool true) ∧ Below w.heap.size w w' := by
  have HIV := Lib.hid (fun (z : World) (hz : Below w.heap.size w z) => And.intro (hiv.mono (D := D) (E := D) (w' := z) (fun b h => h) (fun b hb _ => hz.block b (hD b hb))) (fun b hb => Nat.lt_of_lt_of_le (hD b hb) hz.size : ∀ b, D b → b < z.heap.size))
  have HTM := Lib.hid (fun (z : World) (Y : List It) (hz : Sep w.heap.size w z Y) (h10 : m.cols.length ≤ 1000000) => twinmark_any h10 (HIV.out z hz.bel).2 (HIV.out z hz.bel).1 hz)
  have HEN := Lib.hid (fun (z : World) (Y : List It) (g cap : Nat) (hin : rTw g cap m.cols ∈ Y) (hz : Sep w.heap.size w z Y) => end_any (w := z) (m := m) (D := fun b => b = g) hl (fun b hb => by rw [hb]; exact (ti_row (hz.li _ hin)).2.2.2.2) (ti_iv (hz.li _ hin)) hz)
  have HRE := Lib.hid (fun (z : World) (Y : List It) (hz : Sep w.heap.size w z Y) => rend_any (w := z) (m := m) hl (HIV.out z hz.bel).2 (HIV.out z hz.bel).1 hz)
  have HLM := Lib.hid (fun (z : World) (Y : List It) (g cap : Nat) (h10 : m.cols.length ≤ 1000000) (hin : rTw g cap m.cols ∈ Y) (hz : Sep w.heap.size w z Y) => leftmark_any (w := z) (m := m) h10 (HIV.out z hz.bel).2 (hz.li _ hin) (HIV.out z hz.bel).1)
  obtain ⟨EQ, hEQ⟩ : ∃ q, endQ m = q := ⟨_, rfl⟩
  rw [hEQ] at HEN HRE
  have HEL : Hid (EQ.length ≤ 9223372036854775806) := Lib.hid (by
    rw [← hEQ]; unfold endQ; split
    · rename_i hmb
      have := (mayB_may hmb).len
      unfold endF; simp only [List.length_append, List.length_replicate, List.length_singleton]; cases m.fresh <;> simp <;> omega
    · simp)
  clear hEQ hiv hD
  obtain ⟨cols, o, kk, fr, ld⟩ := m
  unfold mkA at HTM HEN HRE HLM
  unfold mkA
  simp only [] at HTM HEN HRE HLM HIV hl ⊢
  have hz := zero24
  obtain ⟨b1, hb1⟩ : ∃ b, w.heap.size = b := ⟨_, rfl⟩
  have S1 := Lib.hid ((Sep.start w).allocAt hb1 (.cells #[.slice p cols.length c, .int .i64 o, .int .i64 kk, .bool fr, .int .i64 ld] 24))
  have HTM2 := Lib.hid hb1
  by_cases hbig : 10000 < cols.length
  · have hI : (10000 : Int) < (cols.length : Int) := by omega
    go_enter Try.func4, Try.ntmps4
    go_wp2_with fail
    go_ret
    exact ⟨rfl, S1.out.bel⟩
  have hI : ¬ (10000 : Int) < (cols.length : Int) := by omega
  go_enter Try.func4, Try.ntmps4
  go_upto_region 3 with fail
  refine at_world (fun y => Sep w.heap.size w y [bxM b1 #[.slice p cols.length c, .int .i64 o, .int .i64 kk, .bool fr, .int .i64 ld]]) S1.out fun y hy => ?_
  have S2 := Lib.hid hy
  have HTM3 := Lib.hid (HTM.out y _ hy (by omega))
  clear S1 hy HTM
  have c0 : y.cell? ⟨b1, 0, none⟩ = some (.slice p cols.length c) := S2.out.boxAt 0
  have c1 : y.cell? ⟨b1, 1, none⟩ = some (.int .i64 o) := S2.out.boxAt 1
  have c2 : y.cell? ⟨b1, 2, none⟩ = some (.int .i64 kk) := S2.out.boxAt 2
  have c3 : y.cell? ⟨b1, 3, none⟩ = some (.bool fr) := S2.out.boxAt 3
  have c4 : y.cell? ⟨b1, 4, none⟩ = some (.int .i64 ld) := S2.out.boxAt 4
  go_wp2_with fail
  refine HTM3.out.mono ?_
  rintro _ w2 ⟨g, cap, rfl, hs⟩
  unfold mkA
  simp only [] at hs ⊢
  obtain ⟨b3, hb3⟩ : ∃ b, w2.heap.size = b := ⟨_, rfl⟩
  have S3 : Hid (Sep w.heap.size w (w2.alloc (.cells #[.slice (some ⟨g, 0, none⟩) cols.length cap, .int .i64 o, .int .i64 kk, .bool fr, .int .i64 ld] 24)) [bxM b3 #[.slice (some ⟨g, 0, none⟩) cols.length cap, .int .i64 o, .int .i64 kk, .bool fr, .int .i64 ld], rTw g cap cols, bxM b1 #[.slice p cols.length c, .int .i64 o, .int .i64 kk, .bool fr, .int .i64 ld]]) := Lib.hid (by
    exact hs.allocAt hb3 (.cells #[.slice (some ⟨g, 0, none⟩) cols.length cap, .int .i64 o, .int .i64 kk, .bool fr, .int .i64 ld] 24))
  clear hs HTM3 S2 c0 c1 c2 c3 c4
  go_upto_region 4 with fail
  refine at_world (fun y => Sep w.heap.size w y [bxM b3 #[.slice (some ⟨g, 0, none⟩) cols.length cap, .int .i64 o, .int .i64 kk, .bool fr, .int .i64 ld], rTw g cap cols, bxM b1 #[.slice p cols.length c, .int .i64 o, .int .i64 kk, .bool fr, .int .i64 ld]]) S3.out fun y3 hy3 => ?_
  have S4 := Lib.hid hy3
  clear S3 hy3 hb3 hb1
  go_wp2_with fail
  refine (first_any S4.out).mono ?_
  rintro _ w4 ⟨v0, rfl, hs⟩
  obtain ⟨p0, c0, rfl⟩ : ∃ p c, v0 = .slice p 1 c := row_form hs.at
  unfold mkA m0
  simp only []
  obtain ⟨b4, hb4⟩ : ∃ b, w4.heap.size = b := ⟨_, rfl⟩
  have S5 := Lib.hid (hs.allocAt hb4 (.cells #[.slice p0 1 c0, .int .i64 0, .int .i64 0, .bool true, .int .i64 0] 24))
  clear hs S4
  go_upto_region 5 with fail
  refine at_world (fun y => Sep w.heap.size w y [bxM b4 #[.slice p0 1 c0, .int .i64 0, .int .i64 0, .bool true, .int .i64 0], rI (.slice p0 1 c0) [0], bxM b3 #[.slice (some ⟨g, 0, none⟩) cols.length cap, .int .i64 o, .int .i64 kk, .bool fr, .int .i64 ld], rTw g cap cols, bxM b1 #[.slice p cols.length c, .int .i64 o, .int .i64 kk, .bool fr, .int .i64 ld]]) S5.out fun y5 hy5 => ?_
  have S6 := Lib.hid hy5.drew
  have H4 := Lib.hid hy5.drew.at.2
  clear S5 hy5 hb4
  refine wp_region_held_drew (S := fun v => v.heap[b4]? = some (.cells #[.slice p0 1 c0, .int .i64 0, .int .i64 0, .bool true, .int .i64 0] 24 (0, 0))) (by kernel_rfl) H4.out (fun hHeld => ?_)
  refine wpAnyH_take (i := 0) (v := (.agg #[.slice p0 1 c0, .int .i64 0, .int .i64 0, .bool true, .int .i64 0])) rfl (by kernel_rfl) (by kernel_rfl) (by kernel_rfl) (fun _ _ _ h => h) (Or.inl ⟨by rfl, by (intro w hSw; have q0 : w.cell? ⟨b4, 0, none⟩ = some (.slice p0 1 c0) := cell_of_row w b4 0 _ 24 (0, 0) hSw; have q1 : w.cell? ⟨b4, 1, none⟩ = some (.int .i64 0) := cell_of_row w b4 1 _ 24 (0, 0) hSw; have q2 : w.cell? ⟨b4, 2, none⟩ = some (.int .i64 0) := cell_of_row w b4 2 _ 24 (0, 0) hSw; have q3 : w.cell? ⟨b4, 3, none⟩ = some (.bool true) := cell_of_row w b4 3 _ 24 (0, 0) hSw; have q4 : w.cell? ⟨b4, 4, none⟩ = some (.int .i64 0) := cell_of_row w b4 4 _ 24 (0, 0) hSw; go_simp)⟩) hHeld ?_
  (try simp only [Act.put, List.getElem_toArray, List.getElem_cons_zero, List.getElem_cons_succ, List.setIfInBounds_toArray, List.set_cons_zero, List.set_cons_succ])
  refine wpAnyH_ready (rs := [1]) (by kernel_rfl) (by simp) ?_
  refine AllReadyH.cons rfl (fun K hK => ?_) (AllReadyH.nil)
  rw [if_pos (by rfl)]
  go_wp2_with fail
  refine (rfirst_any S6.out).mono ?_
  rintro _ w6 ⟨v6, rfl, hs6⟩
  obtain ⟨p6, c6, rfl⟩ : ∃ p c, v6 = .slice p 1 c := row_form hs6.at
  unfold mkA m0
  simp only []
  refine hK.out _ _ ((hs6.li (bxM b4 #[.slice p0 1 c0, .int .i64 0, .int .i64 0, .bool true, .int .i64 0]) (by simp)).2) (fun hHeld2 => ?_)
  clear hHeld hK
  have hHeld := hHeld2
  clear hHeld2
  (try simp only [Act.put, List.getElem_toArray, List.getElem_cons_zero, List.getElem_cons_succ, List.setIfInBounds_toArray, List.set_cons_zero, List.set_cons_succ])
  have HSM := Lib.hid (samemark_any (w := w6) (m := m0) (by decide) (fun b hb => hb.2.1) (fun b hb => hb.2.1) (own_iv (hs6.li (rI (.slice p0 1 c0) [0]) (by simp))) (own_iv hs6.at))
  unfold mkA m0 at HSM
  simp only [] at HSM
  refine wpAnyH_ready (rs := [2]) (by kernel_rfl) (by simp) ?_
  refine AllReadyH.cons rfl (fun K hK => ?_) (AllReadyH.nil)
  rw [if_pos (by rfl)]
  go_wp2_with fail
  refine HSM.out.mono ?_
  rintro _ w7 ⟨rfl, hb⟩
  have S7 := Lib.hid (hs6.up hb).tl
  refine hK.out _ _ (S7.out.at.2) (fun hHeld2 => ?_)
  clear hHeld hK
  have hHeld := hHeld2
  clear hHeld2
  (try simp only [Act.put, List.getElem_toArray, List.getElem_cons_zero, List.getElem_cons_succ, List.setIfInBounds_toArray, List.set_cons_zero, List.set_cons_succ])
  refine wpAnyH_take (i := 3) (v := (.bool false)) rfl (by kernel_rfl) (by kernel_rfl) (by kernel_rfl) (fun _ _ _ h => h) (Or.inl ⟨by rfl, by (intro w hSw; (try dsimp only at hSw); go_simp)⟩) hHeld ?_
  (try simp only [Act.put, List.getElem_toArray, List.getElem_cons_zero, List.getElem_cons_succ, List.setIfInBounds_toArray, List.set_cons_zero, List.set_cons_succ])
  refine wpAnyH_done (by kernel_rfl) ?_ _
  clear hb hs6 S6 H4 HSM
  go_upto_region 7 with fail
  have HMI := Lib.hid (mark_any (n := 0) (l := [0]) (v := .slice p0 1 c0) (by omega) (by simp) S7.out.tl.at)
  obtain ⟨j, hj⟩ : ∃ q : Nat, q = 0 := ⟨0, rfl⟩
  have k0 : w7.cell? ⟨b4, 0, none⟩ = some (.slice p0 1 c0) := S7.out.boxAt 0
  go_wp2_with fail
  refine HMI.out.mono ?_
  rintro _ w8 ⟨rfl, ho, hr⟩
  have S8 : Hid (Sep w.heap.size w w8 [bxM b3 #[.slice (some ⟨g, 0, none⟩) cols.length cap, .int .i64 o, .int .i64 kk, .bool fr, .int .i64 ld], rTw g cap cols, bxM b1 #[.slice p cols.length c, .int .i64 o, .int .i64 kk, .bool fr, .int .i64 ld]]) := Lib.hid (S7.out.swap.rep (x' := rI (.slice p0 1 c0) (mkn 0 1)) ho.grown hr (fun b hb => .inl hb)).tl.tl
  clear S7 HMI ho hr k0
  go_upto_region 8 with fail
  have S9 := Lib.hid S8.out.drew
  have H31 := Lib.hid (And.intro S9.out.at.2 S9.out.tl.tl.at.2)
  clear S8
  refine wp_region_held_drew (S := fun v => v.heap[b3]? = some (.cells #[.slice (some ⟨g, 0, none⟩) cols.length cap, .int .i64 o, .int .i64 kk, .bool fr, .int .i64 ld] 24 (0, 0)) ∧ v.heap[b1]? = some (.cells #[.slice p cols.length c, .int .i64 o, .int .i64 kk, .bool fr, .int .i64 ld] 24 (0, 0))) (by kernel_rfl) H31.out (fun hHeld => ?_)
  refine wpAnyH_take (i := 0) (v := (.agg #[.slice (some ⟨g, 0, none⟩) cols.length cap, .int .i64 o, .int .i64 kk, .bool fr, .int .i64 ld])) rfl (by kernel_rfl) (by kernel_rfl) (by kernel_rfl) (fun _ _ _ h => h) (Or.inl ⟨by rfl, by (intro w hSw; have q0 : w.cell? ⟨b3, 0, none⟩ = some (.slice (some ⟨g, 0, none⟩) cols.length cap) := cell_of_row w b3 0 _ 24 (0, 0) hSw.1; have q1 : w.cell? ⟨b3, 1, none⟩ = some (.int .i64 o) := cell_of_row w b3 1 _ 24 (0, 0) hSw.1; have q2 : w.cell? ⟨b3, 2, none⟩ = some (.int .i64 kk) := cell_of_row w b3 2 _ 24 (0, 0) hSw.1; have q3 : w.cell? ⟨b3, 3, none⟩ = some (.bool fr) := cell_of_row w b3 3 _ 24 (0, 0) hSw.1; have q4 : w.cell? ⟨b3, 4, none⟩ = some (.int .i64 ld) := cell_of_row w b3 4 _ 24 (0, 0) hSw.1; go_simp)⟩) hHeld ?_
  (try simp only [Act.put, List.getElem_toArray, List.getElem_cons_zero, List.getElem_cons_succ, List.setIfInBounds_toArray, List.set_cons_zero, List.set_cons_succ])
  refine wpAnyH_take (i := 2) (v := (.agg #[.slice p cols.length c, .int .i64 o, .int .i64 kk, .bool fr, .int .i64 ld])) rfl (by kernel_rfl) (by kernel_rfl) (by kernel_rfl) (fun _ _ _ h => h) (Or.inl ⟨by rfl, by (intro w hSw; have q0 : w.cell? ⟨b1, 0, none⟩ = some (.slice p cols.length c) := cell_of_row w b1 0 _ 24 (0, 0) hSw.2; have q1 : w.cell? ⟨b1, 1, none⟩ = some (.int .i64 o) := cell_of_row w b1 1 _ 24 (0, 0) hSw.2; have q2 : w.cell? ⟨b1, 2, none⟩ = some (.int .i64 kk) := cell_of_row w b1 2 _ 24 (0, 0) hSw.2; have q3 : w.cell? ⟨b1, 3, none⟩ = some (.bool fr) := cell_of_row w b1 3 _ 24 (0, 0) hSw.2; have q4 : w.cell? ⟨b1, 4, none⟩ = some (.int .i64 ld) := cell_of_row w b1 4 _ 24 (0, 0) hSw.2; go_simp)⟩) hHeld ?_
  (try simp only [Act.put, List.getElem_toArray, List.getElem_cons_zero, List.getElem_cons_succ, List.setIfInBounds_toArray, List.set_cons_zero, List.set_cons_succ])
  refine wpAnyH_ready (rs := [1]) (by kernel_rfl) (by simp) ?_
  refine AllReadyH.cons rfl (fun K hK => ?_) (AllReadyH.nil)
  rw [if_pos (by rfl)]
  go_wp2_with fail
  refine (HEN.out _ _ g cap (by simp) S9.out).mono ?_
  rintro _ w21 ⟨te, rfl, hs21⟩
  refine hK.out _ _ (⟨(hs21.li (bxM b3 #[.slice (some ⟨g, 0, none⟩) cols.length cap, .int .i64 o, .int .i64 kk, .bool fr, .int .i64 ld]) (by simp)).2, (hs21.li (bxM b1 #[.slice p cols.length c, .int .i64 o, .int .i64 kk, .bool fr, .int .i64 ld]) (by simp)).2⟩) (fun hHeld2 => ?_)
  clear hHeld hK
  have hHeld := hHeld2
  clear hHeld2
  (try simp only [Act.put, List.getElem_toArray, List.getElem_cons_zero, List.getElem_cons_succ, List.setIfInBounds_toArray, List.set_cons_zero, List.set_cons_succ])
  refine wpAnyH_ready (rs := [3]) (by kernel_rfl) (by simp) ?_
  refine AllReadyH.cons rfl (fun K hK => ?_) (AllReadyH.nil)
  rw [if_pos (by rfl)]
  go_wp2_with fail
  refine (HRE.out _ _ hs21).mono ?_
  rintro _ w22 ⟨tr, rfl, hs22⟩
  refine hK.out _ _ (⟨(hs22.li (bxM b3 #[.slice (some ⟨g, 0, none⟩) cols.length cap, .int .i64 o, .int .i64 kk, .bool fr, .int .i64 ld]) (by simp)).2, (hs22.li (bxM b1 #[.slice p cols.length c, .int .i64 o, .int .i64 kk, .bool fr, .int .i64 ld]) (by simp)).2⟩) (fun hHeld2 => ?_)
  clear hHeld hK
  have hHeld := hHeld2
  clear hHeld2
  (try simp only [Act.put, List.getElem_toArray, List.getElem_cons_zero, List.getElem_cons_succ, List.setIfInBounds_toArray, List.set_cons_zero, List.set_cons_succ])
  obtain ⟨pa, ca, rfl⟩ := row_form (hs22.li (rT te EQ) (by simp))
  obtain ⟨pb, cb, rfl⟩ := row_form (hs22.li (rT tr EQ) (by simp))
  have HST := Lib.hid (sametok_any (w := w22) (l := EQ) (fun b hb => hb.2.1) (fun b hb => hb.2.1) (row_wv (hs22.li (rT (.slice pa EQ.length ca) EQ) (by simp))) (row_wv (hs22.li (rT (.slice pb EQ.length cb) EQ) (by simp))) HEL.out)
  refine wpAnyH_ready (rs := [4]) (by kernel_rfl) (by simp) ?_
  refine AllReadyH.cons rfl (fun K hK => ?_) (AllReadyH.nil)
  rw [if_pos (by rfl)]
  go_wp2_with fail
  refine HST.out.mono ?_
  rintro _ wa ⟨rfl, hb⟩
  have SA := Lib.hid (hs22.up hb)
  clear hb
  refine hK.out _ _ (⟨(SA.out.li (bxM b3 #[.slice (some ⟨g, 0, none⟩) cols.length cap, .int .i64 o, .int .i64 kk, .bool fr, .int .i64 ld]) (by simp)).2, (SA.out.li (bxM b1 #[.slice p cols.length c, .int .i64 o, .int .i64 kk, .bool fr, .int .i64 ld]) (by simp)).2⟩) (fun hHeld2 => ?_)
  clear hHeld hK
  have hHeld := hHeld2
  clear hHeld2
  (try simp only [Act.put, List.getElem_toArray, List.getElem_cons_zero, List.getElem_cons_succ, List.setIfInBounds_toArray, List.set_cons_zero, List.set_cons_succ])
  refine wpAnyH_take (i := 5) (v := (.bool true)) rfl (by kernel_rfl) (by kernel_rfl) (by kernel_rfl) (fun _ _ _ h => h) (Or.inl ⟨by rfl, by (intro w hSw; (try dsimp only at hSw); go_simp)⟩) hHeld ?_
  (try simp only [Act.put, List.getElem_toArray, List.getElem_cons_zero, List.getElem_cons_succ, List.setIfInBounds_toArray, List.set_cons_zero, List.set_cons_succ])
  refine wpAnyH_take (i := 6) (v := (.agg #[.slice (some ⟨g, 0, none⟩) cols.length cap, .int .i64 o, .int .i64 kk, .bool fr, .int .i64 ld])) rfl (by kernel_rfl) (by kernel_rfl) (by kernel_rfl) (fun _ _ _ h => h) (Or.inl ⟨by rfl, by (intro w hSw; have q0 : w.cell? ⟨b3, 0, none⟩ = some (.slice (some ⟨g, 0, none⟩) cols.length cap) := cell_of_row w b3 0 _ 24 (0, 0) hSw.1; have q1 : w.cell? ⟨b3, 1, none⟩ = some (.int .i64 o) := cell_of_row w b3 1 _ 24 (0, 0) hSw.1; have q2 : w.cell? ⟨b3, 2, none⟩ = some (.int .i64 kk) := cell_of_row w b3 2 _ 24 (0, 0) hSw.1; have q3 : w.cell? ⟨b3, 3, none⟩ = some (.bool fr) := cell_of_row w b3 3 _ 24 (0, 0) hSw.1; have q4 : w.cell? ⟨b3, 4, none⟩ = some (.int .i64 ld) := cell_of_row w b3 4 _ 24 (0, 0) hSw.1; go_simp)⟩) hHeld ?_
  (try simp only [Act.put, List.getElem_toArray, List.getElem_cons_zero, List.getElem_cons_succ, List.setIfInBounds_toArray, List.set_cons_zero, List.set_cons_succ])
  refine wpAnyH_take (i := 7) (v := (.agg #[.slice p cols.length c, .int .i64 o, .int .i64 kk, .bool fr, .int .i64 ld])) rfl (by kernel_rfl) (by kernel_rfl) (by kernel_rfl) (fun _ _ _ h => h) (Or.inl ⟨by rfl, by (intro w hSw; have q0 : w.cell? ⟨b1, 0, none⟩ = some (.slice p cols.length c) := cell_of_row w b1 0 _ 24 (0, 0) hSw.2; have q1 : w.cell? ⟨b1, 1, none⟩ = some (.int .i64 o) := cell_of_row w b1 1 _ 24 (0, 0) hSw.2; have q2 : w.cell? ⟨b1, 2, none⟩ = some (.int .i64 kk) := cell_of_row w b1 2 _ 24 (0, 0) hSw.2; have q3 : w.cell? ⟨b1, 3, none⟩ = some (.bool fr) := cell_of_row w b1 3 _ 24 (0, 0) hSw.2; have q4 : w.cell? ⟨b1, 4, none⟩ = some (.int .i64 ld) := cell_of_row w b1 4 _ 24 (0, 0) hSw.2; go_simp)⟩) hHeld ?_
  (try simp only [Act.put, List.getElem_toArray, List.getElem_cons_zero, List.getElem_cons_succ, List.setIfInBounds_toArray, List.set_cons_zero, List.set_cons_succ])
  refine wpAnyH_ready (rs := [8]) (by kernel_rfl) (by simp) ?_
  refine AllReadyH.cons rfl (fun K hK => ?_) (AllReadyH.nil)
  rw [if_pos (by rfl)]
  go_wp2_with fail
  refine (HLM.out _ _ g cap (by omega) (by simp) SA.out).mono ?_
  rintro _ wb ⟨rfl, hb⟩
  have SB := Lib.hid (SA.out.up hb)
  clear hb SA
  refine hK.out _ _ (⟨(SB.out.li (bxM b3 #[.slice (some ⟨g, 0, none⟩) cols.length cap, .int .i64 o, .int .i64 kk, .bool fr, .int .i64 ld]) (by simp)).2, (SB.out.li (bxM b1 #[.slice p cols.length c, .int .i64 o, .int .i64 kk, .bool fr, .int .i64 ld]) (by simp)).2⟩) (fun hHeld2 => ?_)
  clear hHeld hK
  have hHeld := hHeld2
  clear hHeld2
  (try simp only [Act.put, List.getElem_toArray, List.getElem_cons_zero, List.getElem_cons_succ, List.setIfInBounds_toArray, List.set_cons_zero, List.set_cons_succ])
  refine wpAnyH_take (i := 9) (v := (.bool true)) rfl (by kernel_rfl) (by kernel_rfl) (by kernel_rfl) (fun _ _ _ h => h) (Or.inl ⟨by rfl, by (intro w hSw; (try dsimp only at hSw); go_simp)⟩) hHeld ?_
  (try simp only [Act.put, List.getElem_toArray, List.getElem_cons_zero, List.getElem_cons_succ, List.setIfInBounds_toArray, List.set_cons_zero, List.set_cons_succ])
  refine wpAnyH_take (i := 10) (v := (.bool true)) rfl (by kernel_rfl) (by kernel_rfl) (by kernel_rfl) (fun _ _ _ h => h) (Or.inl ⟨by rfl, by (intro w hSw; (try dsimp only at hSw); go_simp)⟩) hHeld ?_
  (try simp only [Act.put, List.getElem_toArray, List.getElem_cons_zero, List.getElem_cons_succ, List.setIfInBounds_toArray, List.set_cons_zero, List.set_cons_succ])
  refine wpAnyH_ready (rs := [11]) (by kernel_rfl) (by simp) ?_
  refine AllReadyH.cons rfl (fun K hK => ?_) (AllReadyH.nil)
  rw [if_pos (by rfl)]
  go_wp2_with fail
  refine (first_any SB.out).mono ?_
  rintro _ wx1 ⟨vf, rfl, hsx1⟩
  obtain ⟨pf, cf, rfl⟩ : ∃ p c, vf = .slice p 1 c := row_form hsx1.at
  unfold mkA m0
  simp only []
  refine hK.out _ _ (⟨(hsx1.li (bxM b3 #[.slice (some ⟨g, 0, none⟩) cols.length cap, .int .i64 o, .int .i64 kk, .bool fr, .int .i64 ld]) (by simp)).2, (hsx1.li (bxM b1 #[.slice p cols.length c, .int .i64 o, .int .i64 kk, .bool fr, .int .i64 ld]) (by simp)).2⟩) (fun hHeld2 => ?_)
  clear hHeld hK
  have hHeld := hHeld2
  clear hHeld2
  (try simp only [Act.put, List.getElem_toArray, List.getElem_cons_zero, List.getElem_cons_succ, List.setIfInBounds_toArray, List.set_cons_zero, List.set_cons_succ])
  refine wpAnyH_ready (rs := [12]) (by kernel_rfl) (by simp) ?_
  refine AllReadyH.cons rfl (fun K hK => ?_) (AllReadyH.nil)
  rw [if_pos (by rfl)]
  go_wp2_with fail
  refine (rfirst_any hsx1).mono ?_
  rintro _ wx2 ⟨vr, rfl, hsx2⟩
  obtain ⟨pr, cr, rfl⟩ : ∃ p c, vr = .slice p 1 c := row_form hsx2.at
  unfold mkA m0
  simp only []
  refine hK.out _ _ (⟨(hsx2.li (bxM b3 #[.slice (some ⟨g, 0, none⟩) cols.length cap, .int .i64 o, .int .i64 kk, .bool fr, .int .i64 ld]) (by simp)).2, (hsx2.li (bxM b1 #[.slice p cols.length c, .int .i64 o, .int .i64 kk, .bool fr, .int .i64 ld]) (by simp)).2⟩) (fun hHeld2 => ?_)
  clear hHeld hK
  have hHeld := hHeld2
  clear hHeld2
  (try simp only [Act.put, List.getElem_toArray, List.getElem_cons_zero, List.getElem_cons_succ, List.setIfInBounds_toArray, List.set_cons_zero, List.set_cons_succ])
  have HSM := Lib.hid (samemark_any (w := wx2) (m := m0) (by decide) (fun b hb => hb.2.1) (fun b hb => hb.2.1) (own_iv (hsx2.li (rI (.slice pf 1 cf) [0]) (by simp))) (own_iv (hsx2.li (rI (.slice pr 1 cr) [0]) (by simp))))
  unfold mkA m0 at HSM
  simp only [] at HSM
  refine wpAnyH_ready (rs := [13]) (by kernel_rfl) (by simp) ?_
  refine AllReadyH.cons rfl (fun K hK => ?_) (AllReadyH.nil)
  rw [if_pos (by rfl)]
  go_wp2_with fail
  refine HSM.out.mono ?_
  rintro _ wc ⟨rfl, hb⟩
  have SC := Lib.hid (hsx2.up hb)
  clear hb HSM
  refine hK.out _ _ (⟨(SC.out.li (bxM b3 #[.slice (some ⟨g, 0, none⟩) cols.length cap, .int .i64 o, .int .i64 kk, .bool fr, .int .i64 ld]) (by simp)).2, (SC.out.li (bxM b1 #[.slice p cols.length c, .int .i64 o, .int .i64 kk, .bool fr, .int .i64 ld]) (by simp)).2⟩) (fun hHeld2 => ?_)
  clear hHeld hK
  have hHeld := hHeld2
  clear hHeld2
  (try simp only [Act.put, List.getElem_toArray, List.getElem_cons_zero, List.getElem_cons_succ, List.setIfInBounds_toArray, List.set_cons_zero, List.set_cons_succ])
  refine wpAnyH_take (i := 14) (v := (.bool true)) rfl (by kernel_rfl) (by kernel_rfl) (by kernel_rfl) (fun _ _ _ h => h) (Or.inl ⟨by rfl, by (intro w hSw; (try dsimp only at hSw); go_simp)⟩) hHeld ?_
  (try simp only [Act.put, List.getElem_toArray, List.getElem_cons_zero, List.getElem_cons_succ, List.setIfInBounds_toArray, List.set_cons_zero, List.set_cons_succ])
  refine wpAnyH_take (i := 15) (v := (.bool true)) rfl (by kernel_rfl) (by kernel_rfl) (by kernel_rfl) (fun _ _ _ h => h) (Or.inl ⟨by rfl, by (intro w hSw; (try dsimp only at hSw); go_simp)⟩) hHeld ?_
  (try simp only [Act.put, List.getElem_toArray, List.getElem_cons_zero, List.getElem_cons_succ, List.setIfInBounds_toArray, List.set_cons_zero, List.set_cons_succ])
  refine wpAnyH_ready (rs := [16]) (by kernel_rfl) (by simp) ?_
  refine AllReadyH.cons rfl (fun K hK => ?_) (AllReadyH.nil)
  rw [if_pos (by rfl)]
  go_wp2_with fail
  refine alive_any.mono ?_
  rintro _ wd ⟨rfl, hb⟩
  have SD := Lib.hid (SC.out.up hb)
  clear hb SC
  refine hK.out _ _ (⟨(SD.out.li (bxM b3 #[.slice (some ⟨g, 0, none⟩) cols.length cap, .int .i64 o, .int .i64 kk, .bool fr, .int .i64 ld]) (by simp)).2, (SD.out.li (bxM b1 #[.slice p cols.length c, .int .i64 o, .int .i64 kk, .bool fr, .int .i64 ld]) (by simp)).2⟩) (fun hHeld2 => ?_)
  clear hHeld hK
  have hHeld := hHeld2
  clear hHeld2
  (try simp only [Act.put, List.getElem_toArray, List.getElem_cons_zero, List.getElem_cons_succ, List.setIfInBounds_toArray, List.set_cons_zero, List.set_cons_succ])
  refine wpAnyH_take (i := 17) (v := (.bool true)) rfl (by kernel_rfl) (by kernel_rfl) (by kernel_rfl) (fun _ _ _ h => h) (Or.inl ⟨by rfl, by (intro w hSw; (try dsimp only at hSw); go_simp)⟩) hHeld ?_
  (try simp only [Act.put, List.getElem_toArray, List.getElem_cons_zero, List.getElem_cons_succ, List.setIfInBounds_toArray, List.set_cons_zero, List.set_cons_succ])
  refine wpAnyH_take (i := 18) (v := (.bool true)) rfl (by kernel_rfl) (by kernel_rfl) (by kernel_rfl) (fun _ _ _ h => h) (Or.inl ⟨by rfl, by (intro w hSw; (try dsimp only at hSw); go_simp)⟩) hHeld ?_
  (try simp only [Act.put, List.getElem_toArray, List.getElem_cons_zero, List.getElem_cons_succ, List.setIfInBounds_toArray, List.set_cons_zero, List.set_cons_succ])
  refine wpAnyH_done (by kernel_rfl) ?_ _
  go_wp2_with fail
  go_ret
  exact ⟨rfl, SD.out.bel⟩
end Go.Proofs.Ythbfpnbfiliknaa
