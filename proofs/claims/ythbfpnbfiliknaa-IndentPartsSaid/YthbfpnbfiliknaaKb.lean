/- Package indent. -/
import Derived.Test.YthbfpnbfiliknaaProg
import Derived.Test.YthbfpnbfiliknaaJe
import Derived.Test.YthbfpnbfiliknaaKa0
import Derived.Test.YthbfpnbfiliknaaIt0
import Derived.Test.YthbfpnbfiliknaaIu0
import Derived.Deep.SlicePairs
import Derived.Deep.Slices
import Derived.Laws.IdiomArrays
import Derived.OpenShut
import Derived.WideBlind
import Derived.Great.BuildSlice
import Derived.WalkKit
import Derived.Maps.OwnSet
import Derived.Maps.OwnOps
import Derived.Maps.Own
import Derived.DeepKeys5
import Derived.BigFrame
import Derived.WalkMore
import Derived.ScopeJumps
import Derived.StillTailTactics
import Derived.Stop.BytesEq
import Derived.WalkLawsBesides
import Derived.WalkSpells
import Derived.Outline
import Derived.Lib.Walk
import Derived.Lib.Hide
import Derived.Lib.Slices
import Derived.Lib.Strings
import Derived.RegionTactic
import Derived.LoopTactic
import Derived.Below
import Derived.IntWalk
import Derived.Deep.QuietTactic
import Derived.BigQuiet
import Derived.Deep.MidRow
import Derived.Maps.AppendAt
import Derived.Laws.Rows
import Derived.Laws.Tables
import Derived.Deep.WholeRow
import Derived.Deep.Cut
import Derived.Deep.CutRange
import Derived.Lib.SliceRun
import Derived.Laws.MakeOwn
import Derived.Deep.RegionLaw
import Derived.Deep.RegionLawGrows
import Derived.Deep.RegionHeld3
import Derived.RegionCalls
import Derived.Deep.RegionWith
import Derived.Deep.Light
import Derived.Laws.CopyOwn
import Derived.Laws.ResultCell
namespace Go.Proofs.Ythbfpnbfiliknaa
set_option linter.unusedSimpArgs false
set_option linter.unusedVariables false
set_option maxRecDepth 100000
open Go.RowKit
/- IndentParts. -/
set_option maxHeartbeats 32000000 in
theorem parts_any {D : Nat → Prop} {w : World} {s : ByteArray} {l : List Rw} {p : Option Addr} {c : Nat} (hl : l.length ≤ 9223372036854775806) (hss : s.size ≤ 9223372036854775806) (hD : ∀ b, D b → b < w.heap.size) (hrw : RW D w l (.slice p l.length c)) :
    Calls Try.prog 7 #[.string s, .slice p l.length c] w fun e w' => e = .returned (.bool true) ∧ Below w.heap.size w w' := by
  have HI := Lib.hid hrw
  have HD := Lib.hid hD
  have S0 := Lib.hid (Below.refl w.heap.size w)
  clear hrw hD
  by_cases hlong : 300 < l.length
  · have hI : (300 : Int) < (l.length : Int) := by omega
    go_enter Try.func7, Try.ntmps7
    go_wp2_with fail
    go_ret
    exact ⟨rfl, S0.out⟩
  have hI : ¬ (300 : Int) < (l.length : Int) := by omega
  have hl2 : l.length ≤ 300 := by omega
  have HALL := Lib.hid (all_any (B := w.heap.size) (w0 := w) (w := w) (XX := []) (s := s) (lst := l) (by omega) hss HD.out HI.out (Sep.start w))
  obtain ⟨⟨⟨q1, x⟩, q5⟩, hQ⟩ : ∃ z, allQ s l = z := ⟨_, rfl⟩
  rw [hQ] at HALL
  have HQ := Lib.hid hQ
  clear hQ
  have hz := zero46
  go_enter Try.func7, Try.ntmps7
  go_wp2_with fail
  refine HALL.out.mono ?_
  rintro _ w2 ⟨v1, v2, v3, v4, vs, rfl, hvs, hs2⟩
  simp only [] at hvs hs2 ⊢
  obtain ⟨p1, c1, rfl⟩ := row_form hs2.at
  obtain ⟨p2, c2, rfl⟩ := row_form hs2.tl.at
  obtain ⟨p3, c3, rfl⟩ := row_form hs2.tl.tl.at
  obtain ⟨p4, c4, rfl⟩ := row_form hs2.tl.tl.tl.at
  obtain ⟨b6, hb6⟩ : ∃ b, w2.heap.size = b := ⟨_, rfl⟩
  have S2 := Lib.hid (hs2.allocAt hb6 (.cells #[.slice p1 q1.length c1, .slice p2 x.marks.length c2, .slice p3 x.counts.length c3, .slice p4 x.toks.length c4] 46))
  have HVS := Lib.hid hvs
  clear hs2 hvs HALL
  go_upto_region 4 with fail
  refine at_world (fun y => Sep w.heap.size w y (bxL b6 #[.slice p1 q1.length c1, .slice p2 x.marks.length c2, .slice p3 x.counts.length c3, .slice p4 x.toks.length c4] :: rR (.slice p1 q1.length c1) q1 :: rM (.slice p2 x.marks.length c2) vs x.marks :: rI (.slice p3 x.counts.length c3) x.counts :: rT (.slice p4 x.toks.length c4) x.toks :: (colsI vs x.marks ++ []))) S2.out fun y hy => ?_
  have S3 := Lib.hid hy
  clear S2 hy hb6
  by_cases hq5 : q5 = 0
  case neg =>
    have hq5I : (q5 != 0) = true := by simpa using hq5
    go_wp2_with fail
    refine alive_any.mono ?_
    rintro _ w9 ⟨rfl, hb⟩
    have HB := Lib.hid (S3.out.up hb).bel
    clear hb S3
    go_wp2_with fail
    go_ret
    exact ⟨rfl, HB.out⟩
  subst hq5
  obtain ⟨hq, har, hsz⟩ := allQ_R HQ.out
  injection hq with hq1 hx
  subst hq1
  have HWP := Lib.hid (Wp.start har hsz)
  have HTS := Lib.hid (toks_small hl2 hsz har)
  have hrl := runF_len q1 ⟨[m0], [0], []⟩ m0 (bl s)
  change (allR (bl s) q1).1.marks.length = _ ∧ (allR (bl s) q1).1.counts.length = _ at hrl
  obtain ⟨RR, hRR⟩ : ∃ z, allR (bl s) q1 = z := ⟨_, rfl⟩
  rw [hRR] at HWP HTS hrl hx
  obtain ⟨RX, mE⟩ := RR
  simp only [] at HTS hrl hx
  have HSZ := Lib.hid (And.intro hsz hRR)
  clear hsz hRR HQ
  subst hx
  simp only [] at S3 HVS ⊢
  have HLM : Hid (RX.marks.length = q1.length + 1 ∧ RX.counts.length = q1.length + 1) := Lib.hid ⟨by rw [hrl.1]; simp; omega, by rw [hrl.2]; simp; omega⟩
  clear hrl
  obtain ⟨n, hn⟩ : ∃ n, (RX.toks ++ endF mE).length = n := ⟨_, rfl⟩
  obtain ⟨TT, hTT⟩ : ∃ z, RX.toks ++ endF mE = z := ⟨_, rfl⟩
  rw [hTT] at hn HTS S3
  have HTT := Lib.hid hTT
  have S4 : Hid (Sep w.heap.size w y (bxL b6 #[.slice p1 q1.length c1, .slice p2 (q1.length + 1) c2, .slice p3 (q1.length + 1) c3, .slice p4 n c4] :: rR (.slice p1 q1.length c1) q1 :: rM (.slice p2 (q1.length + 1) c2) vs RX.marks :: rI (.slice p3 (q1.length + 1) c3) RX.counts :: rT (.slice p4 n c4) TT :: (colsI vs RX.marks ++ []))) := Lib.hid (by
    have h := S3.out
    rw [HLM.out.1, HLM.out.2, hn] at h
    exact h)
  clear hTT S3
  have HNN := Lib.hid hn
  have hn2 : n ≤ 2000000 := by rw [← hn]; exact HTS.out
  have hrowI : y.ownsRow w.heap.size 3 1 (.slice p3 (q1.length + 1) c3) RX.counts.length (zi RX.counts) := S4.out.tl.tl.tl.at
  have hrowM : y.ownsRow w.heap.size 24 5 (.slice p2 (q1.length + 1) c2) RX.marks.length (mkL vs RX.marks) := S4.out.tl.tl.at
  obtain ⟨g3, k3, hv3, -⟩ := row_own hrowI (by rw [HLM.out.2]; omega)
  injection hv3 with e7 e8 e9
  subst e7
  obtain ⟨g2, k2', hv2, -⟩ := row_own hrowM (by rw [HLM.out.1]; omega)
  injection hv2 with e10 e11 e12
  subst e10
  have HCC : Hid (∀ i, i < q1.length + 1 → ∀ z : World, Below y.heap.size y z → z.cell? ⟨g3, i, none⟩ = some (.int .i64 (RX.counts.getD i 0))) := Lib.hid fun i hi z hz => by
    have hi2 : i < RX.counts.length := by rw [HLM.out.2]; exact hi
    have h1 := hrowI.cells (g := g3) rfl i (.int .i64 RX.counts[i]) (by simp [zi, hi2])
    rw [Addr.add_mid, Nat.zero_add] at h1
    rw [getD_lt hi2]
    exact (cell_same (hz.block g3 (blk_lt h1)) _).trans h1
  have HMK : Hid (∀ i m, RX.marks[i]? = some m → ∃ p q, ∀ z : World, Below y.heap.size y z → z.ownsRow w.heap.size 3 1 (.slice p m.cols.length q) m.cols.length (zi m.cols) ∧ z.cell? ⟨g2, i * 5, none⟩ = some (.slice p m.cols.length q) ∧ z.cell? ⟨g2, i * 5 + 1, none⟩ = some (.int .i64 m.opn) ∧ z.cell? ⟨g2, i * 5 + 2, none⟩ = some (.int .i64 m.col) ∧ z.cell? ⟨g2, i * 5 + 3, none⟩ = some (.bool m.fresh) ∧ z.cell? ⟨g2, i * 5 + 4, none⟩ = some (.int .i64 m.lead)) := Lib.hid fun i m hm => by
    obtain ⟨hi2, rfl⟩ := List.getElem?_eq_some_iff.1 hm
    obtain ⟨p, q, h0, h1, -⟩ := mark_at (g := g2) (n := q1.length + 1) (c := c2) S4.out HVS.out (by simp) (fun y hy => by simp [hy]) hi2
    refine ⟨p, q, fun z hz => ?_⟩
    obtain ⟨p', q', k0, k1, k2, k3, k4, k5⟩ := mark_at (g := g2) (n := q1.length + 1) (c := c2) (S4.out.up hz) HVS.out (by simp) (fun y hy => by simp [hy]) hi2
    have e := (cell_same (hz.block g2 (blk_lt h1)) (i * 5)).trans h1
    rw [k1] at e
    have e2 := Option.some.inj e
    rw [e2] at k0 k1
    exact ⟨k0, k1, k2, k3, k4, k5⟩
  have HBX : Hid (∀ z : World, Below y.heap.size y z → z.heap[b6]? = some (.cells #[.slice p1 q1.length c1, .slice (some ⟨g2, 0, none⟩) (q1.length + 1) c2, .slice (some ⟨g3, 0, none⟩) (q1.length + 1) c3, .slice p4 n c4] 46 (0, 0))) := Lib.hid fun z hz => (hz.block b6 (Array.getElem?_eq_some_iff.1 S4.out.at.2).1).trans S4.out.at.2
  have HRT : Hid (∀ z : World, Below y.heap.size y z → z.ownsRow w.heap.size 35 3 (.slice p4 n c4) TT.length (tkL TT)) := Lib.hid fun z hz => (S4.out.up hz).tl.tl.tl.tl.at
  have HRA : Hid (∀ z : World, Below y.heap.size y z → RW D z q1 (.slice p q1.length c) ∧ ∀ b, D b → b < z.heap.size) := Lib.hid fun z hz => ⟨HI.out.mono (fun b h => h) (fun b hb _ => (hz.mono S4.out.bel.size).block b (HD.out b hb) |>.trans (S4.out.bel.block b (HD.out b hb))), fun b hb => Nat.lt_of_lt_of_le (Nat.lt_of_lt_of_le (HD.out b hb) S4.out.bel.size) hz.size⟩
  have HBY := Lib.hid S4.out.bel
  clear S4 hrowI hrowM hn e8 e9 e11 e12 HI HD
  have hll : (((q1.length + 1 : Nat) : Int) != ((q1.length : Int) + 1)) = false := by simp
  have hlw : IntKind.i64.wrap ((q1.length : Int) + 1) = (q1.length : Int) + 1 := IntWalk.i64_in _ (by omega)
  have hm0 : RX.marks[0]? = some m0 := HWP.out.mark
  obtain ⟨pm0, qm0, HM0⟩ := HMK.out 0 m0 hm0
  have HM0 := Lib.hid HM0
  clear hm0
  go_upto_region 6 with fail
  have HY0 := Lib.hid (Below.refl y.heap.size y).drew
  refine wp_region_held_drew (S := fun v => Below y.heap.size y v) (by kernel_rfl) HY0.out (fun hHeld => ?_)
  refine wpAnyH_take (i := 0) (v := (.pointer (some ⟨b6, 1, none⟩))) rfl (by kernel_rfl) (by kernel_rfl) (by kernel_rfl) (fun _ _ _ h => h) (Or.inl ⟨by rfl, by (intro w hSw; (try dsimp only at hSw); go_simp)⟩) hHeld ?_
  (try simp only [Act.put, List.getElem_toArray, List.getElem_cons_zero, List.getElem_cons_succ, List.setIfInBounds_toArray, List.set_cons_zero, List.set_cons_succ])
  refine wpAnyH_take (i := 1) (v := (.slice (some ⟨g2, 0, none⟩) (q1.length + 1) c2)) rfl (by kernel_rfl) (by kernel_rfl) (by kernel_rfl) (fun _ _ _ h => h) (Or.inl ⟨by rfl, by (intro w' hSw; have q := cell_of_row w' b6 1 _ 46 (0, 0) (HBX.out w' hSw); go_simp)⟩) hHeld ?_
  (try simp only [Act.put, List.getElem_toArray, List.getElem_cons_zero, List.getElem_cons_succ, List.setIfInBounds_toArray, List.set_cons_zero, List.set_cons_succ])
  refine wpAnyH_take (i := 2) (v := (.int .i64 ((q1.length + 1 : Nat) : Int))) rfl (by kernel_rfl) (by kernel_rfl) (by kernel_rfl) (fun _ _ _ h => h) (Or.inl ⟨by rfl, by (intro w hSw; (try dsimp only at hSw); go_simp)⟩) hHeld ?_
  (try simp only [Act.put, List.getElem_toArray, List.getElem_cons_zero, List.getElem_cons_succ, List.setIfInBounds_toArray, List.set_cons_zero, List.set_cons_succ])
  refine wpAnyH_take (i := 3) (v := (.slice p q1.length c)) rfl (by kernel_rfl) (by kernel_rfl) (by kernel_rfl) (fun _ _ _ h => h) (Or.inl ⟨by rfl, by (intro w hSw; (try dsimp only at hSw); go_simp)⟩) hHeld ?_
  (try simp only [Act.put, List.getElem_toArray, List.getElem_cons_zero, List.getElem_cons_succ, List.setIfInBounds_toArray, List.set_cons_zero, List.set_cons_succ])
  refine wpAnyH_take (i := 4) (v := (.int .i64 (q1.length : Int))) rfl (by kernel_rfl) (by kernel_rfl) (by kernel_rfl) (fun _ _ _ h => h) (Or.inl ⟨by rfl, by (intro w hSw; (try dsimp only at hSw); go_simp)⟩) hHeld ?_
  (try simp only [Act.put, List.getElem_toArray, List.getElem_cons_zero, List.getElem_cons_succ, List.setIfInBounds_toArray, List.set_cons_zero, List.set_cons_succ])
  refine wpAnyH_take (i := 5) (v := (.int .i64 ((q1.length : Int) + 1))) rfl (by kernel_rfl) (by kernel_rfl) (by kernel_rfl) (fun _ _ _ h => h) (Or.inl ⟨by rfl, by (intro w hSw; (try dsimp only at hSw); go_simp)⟩) hHeld ?_
  (try simp only [Act.put, List.getElem_toArray, List.getElem_cons_zero, List.getElem_cons_succ, List.setIfInBounds_toArray, List.set_cons_zero, List.set_cons_succ])
  refine wpAnyH_take (i := 6) (v := (.bool false)) rfl (by kernel_rfl) (by kernel_rfl) (by kernel_rfl) (fun _ _ _ h => h) (Or.inl ⟨by rfl, by (intro w hSw; (try dsimp only at hSw); go_simp)⟩) hHeld ?_
  (try simp only [Act.put, List.getElem_toArray, List.getElem_cons_zero, List.getElem_cons_succ, List.setIfInBounds_toArray, List.set_cons_zero, List.set_cons_succ])
  refine wpAnyH_take (i := 7) (v := (.bool false)) rfl (by kernel_rfl) (by kernel_rfl) (by kernel_rfl) (fun _ _ _ h => h) (Or.inl ⟨by rfl, by (intro w hSw; (try dsimp only at hSw); go_simp)⟩) hHeld ?_
  (try simp only [Act.put, List.getElem_toArray, List.getElem_cons_zero, List.getElem_cons_succ, List.setIfInBounds_toArray, List.set_cons_zero, List.set_cons_succ])
  refine wpAnyH_take (i := 8) (v := (.pointer (some ⟨b6, 2, none⟩))) rfl (by kernel_rfl) (by kernel_rfl) (by kernel_rfl) (fun _ _ _ h => h) (Or.inl ⟨by rfl, by (intro w hSw; (try dsimp only at hSw); go_simp)⟩) hHeld ?_
  (try simp only [Act.put, List.getElem_toArray, List.getElem_cons_zero, List.getElem_cons_succ, List.setIfInBounds_toArray, List.set_cons_zero, List.set_cons_succ])
  refine wpAnyH_take (i := 9) (v := (.slice (some ⟨g3, 0, none⟩) (q1.length + 1) c3)) rfl (by kernel_rfl) (by kernel_rfl) (by kernel_rfl) (fun _ _ _ h => h) (Or.inl ⟨by rfl, by (intro w' hSw; have q := cell_of_row w' b6 2 _ 46 (0, 0) (HBX.out w' hSw); go_simp)⟩) hHeld ?_
  (try simp only [Act.put, List.getElem_toArray, List.getElem_cons_zero, List.getElem_cons_succ, List.setIfInBounds_toArray, List.set_cons_zero, List.set_cons_succ])
  refine wpAnyH_take (i := 10) (v := (.int .i64 ((q1.length + 1 : Nat) : Int))) rfl (by kernel_rfl) (by kernel_rfl) (by kernel_rfl) (fun _ _ _ h => h) (Or.inl ⟨by rfl, by (intro w hSw; (try dsimp only at hSw); go_simp)⟩) hHeld ?_
  (try simp only [Act.put, List.getElem_toArray, List.getElem_cons_zero, List.getElem_cons_succ, List.setIfInBounds_toArray, List.set_cons_zero, List.set_cons_succ])
  refine wpAnyH_take (i := 11) (v := (.slice p q1.length c)) rfl (by kernel_rfl) (by kernel_rfl) (by kernel_rfl) (fun _ _ _ h => h) (Or.inl ⟨by rfl, by (intro w hSw; (try dsimp only at hSw); go_simp)⟩) hHeld ?_
  (try simp only [Act.put, List.getElem_toArray, List.getElem_cons_zero, List.getElem_cons_succ, List.setIfInBounds_toArray, List.set_cons_zero, List.set_cons_succ])
  refine wpAnyH_take (i := 12) (v := (.int .i64 (q1.length : Int))) rfl (by kernel_rfl) (by kernel_rfl) (by kernel_rfl) (fun _ _ _ h => h) (Or.inl ⟨by rfl, by (intro w hSw; (try dsimp only at hSw); go_simp)⟩) hHeld ?_
  (try simp only [Act.put, List.getElem_toArray, List.getElem_cons_zero, List.getElem_cons_succ, List.setIfInBounds_toArray, List.set_cons_zero, List.set_cons_succ])
  refine wpAnyH_take (i := 13) (v := (.int .i64 ((q1.length : Int) + 1))) rfl (by kernel_rfl) (by kernel_rfl) (by kernel_rfl) (fun _ _ _ h => h) (Or.inl ⟨by rfl, by (intro w hSw; (try dsimp only at hSw); go_simp)⟩) hHeld ?_
  (try simp only [Act.put, List.getElem_toArray, List.getElem_cons_zero, List.getElem_cons_succ, List.setIfInBounds_toArray, List.set_cons_zero, List.set_cons_succ])
  refine wpAnyH_take (i := 14) (v := (.bool false)) rfl (by kernel_rfl) (by kernel_rfl) (by kernel_rfl) (fun _ _ _ h => h) (Or.inl ⟨by rfl, by (intro w hSw; (try dsimp only at hSw); go_simp)⟩) hHeld ?_
  (try simp only [Act.put, List.getElem_toArray, List.getElem_cons_zero, List.getElem_cons_succ, List.setIfInBounds_toArray, List.set_cons_zero, List.set_cons_succ])
  refine wpAnyH_take (i := 15) (v := (.bool false)) rfl (by kernel_rfl) (by kernel_rfl) (by kernel_rfl) (fun _ _ _ h => h) (Or.inl ⟨by rfl, by (intro w hSw; (try dsimp only at hSw); go_simp)⟩) hHeld ?_
  (try simp only [Act.put, List.getElem_toArray, List.getElem_cons_zero, List.getElem_cons_succ, List.setIfInBounds_toArray, List.set_cons_zero, List.set_cons_succ])
  refine wpAnyH_take (i := 16) (v := (.bool false)) rfl (by kernel_rfl) (by kernel_rfl) (by kernel_rfl) (fun _ _ _ h => h) (Or.inl ⟨by rfl, by (intro w hSw; (try dsimp only at hSw); go_simp)⟩) hHeld ?_
  (try simp only [Act.put, List.getElem_toArray, List.getElem_cons_zero, List.getElem_cons_succ, List.setIfInBounds_toArray, List.set_cons_zero, List.set_cons_succ])
  refine wpAnyH_take (i := 17) (v := (.pointer (some ⟨b6, 1, none⟩))) rfl (by kernel_rfl) (by kernel_rfl) (by kernel_rfl) (fun _ _ _ h => h) (Or.inl ⟨by rfl, by (intro w hSw; (try dsimp only at hSw); go_simp)⟩) hHeld ?_
  (try simp only [Act.put, List.getElem_toArray, List.getElem_cons_zero, List.getElem_cons_succ, List.setIfInBounds_toArray, List.set_cons_zero, List.set_cons_succ])
  refine wpAnyH_take (i := 18) (v := (.slice (some ⟨g2, 0, none⟩) (q1.length + 1) c2)) rfl (by kernel_rfl) (by kernel_rfl) (by kernel_rfl) (fun _ _ _ h => h) (Or.inl ⟨by rfl, by (intro w' hSw; have q := cell_of_row w' b6 1 _ 46 (0, 0) (HBX.out w' hSw); go_simp)⟩) hHeld ?_
  (try simp only [Act.put, List.getElem_toArray, List.getElem_cons_zero, List.getElem_cons_succ, List.setIfInBounds_toArray, List.set_cons_zero, List.set_cons_succ])
  refine wpAnyH_take (i := 19) (v := (.pointer (some ⟨g2, 0, none⟩))) rfl (by kernel_rfl) (by kernel_rfl) (by kernel_rfl) (fun _ _ _ h => h) (Or.inl ⟨by rfl, by (intro w hSw; (try dsimp only at hSw); go_simp)⟩) hHeld ?_
  (try simp only [Act.put, List.getElem_toArray, List.getElem_cons_zero, List.getElem_cons_succ, List.setIfInBounds_toArray, List.set_cons_zero, List.set_cons_succ])
  refine wpAnyH_take (i := 20) (v := (.agg #[.slice pm0 1 qm0, .int .i64 0, .int .i64 0, .bool true, .int .i64 0])) rfl (by kernel_rfl) (by kernel_rfl) (by kernel_rfl) (fun _ _ _ h => h) (Or.inl ⟨by rfl, by (intro w' hSw; obtain ⟨-, q0, q1', q2, q3, q4⟩ := HM0.out w' hSw; simp only [Nat.zero_mul, Nat.zero_add, m0, List.length_singleton] at q0 q1' q2 q3 q4; go_simp; try exact ⟨rfl, rfl, rfl, rfl, rfl⟩)⟩) hHeld ?_
  (try simp only [Act.put, List.getElem_toArray, List.getElem_cons_zero, List.getElem_cons_succ, List.setIfInBounds_toArray, List.set_cons_zero, List.set_cons_succ])
  refine wpAnyH_ready (rs := [21]) (by kernel_rfl) (by simp) ?_
  refine AllReadyH.cons rfl (fun K hK => ?_) (AllReadyH.nil)
  rw [if_pos (by rfl)]
  go_wp2_with fail
  refine (first_any (Sep.start y).drew).mono ?_
  rintro _ w6 ⟨v6, rfl, hs6⟩
  obtain ⟨p6, c6, rfl⟩ : ∃ p c, v6 = .slice p 1 c := row_form hs6.at
  unfold mkA m0
  simp only []
  refine hK.out _ _ (hs6.bel) (fun hHeld2 => ?_)
  clear hHeld hK
  have hHeld := hHeld2
  clear hHeld2
  (try simp only [Act.put, List.getElem_toArray, List.getElem_cons_zero, List.getElem_cons_succ, List.setIfInBounds_toArray, List.set_cons_zero, List.set_cons_succ])
  have HSM := Lib.hid (samemark_any (w := w6) (m := m0) (by decide) (fun b hb => hb.2.1) (fun b hb => hb.2.1) (own_iv (HM0.out w6 hs6.bel).1) (own_iv hs6.at))
  unfold mkA m0 at HSM
  simp only [List.length_singleton] at HSM
  refine wpAnyH_ready (rs := [22]) (by kernel_rfl) (by simp) ?_
  refine AllReadyH.cons rfl (fun K hK => ?_) (AllReadyH.nil)
  rw [if_pos (by rfl)]
  go_wp2_with fail
  refine HSM.out.mono ?_
  rintro _ w7 ⟨rfl, hb⟩
  have S7 := Lib.hid (hs6.up hb).tl
  refine hK.out _ _ (S7.out.bel) (fun hHeld2 => ?_)
  clear hHeld hK
  have hHeld := hHeld2
  clear hHeld2
  (try simp only [Act.put, List.getElem_toArray, List.getElem_cons_zero, List.getElem_cons_succ, List.setIfInBounds_toArray, List.set_cons_zero, List.set_cons_succ])
  refine wpAnyH_take (i := 23) (v := (.bool false)) rfl (by kernel_rfl) (by kernel_rfl) (by kernel_rfl) (fun _ _ _ h => h) (Or.inl ⟨by rfl, by (intro w hSw; (try dsimp only at hSw); go_simp)⟩) hHeld ?_
  (try simp only [Act.put, List.getElem_toArray, List.getElem_cons_zero, List.getElem_cons_succ, List.setIfInBounds_toArray, List.set_cons_zero, List.set_cons_succ])
  refine wpAnyH_take (i := 24) (v := (.bool false)) rfl (by kernel_rfl) (by kernel_rfl) (by kernel_rfl) (fun _ _ _ h => h) (Or.inl ⟨by rfl, by (intro w hSw; (try dsimp only at hSw); go_simp)⟩) hHeld ?_
  (try simp only [Act.put, List.getElem_toArray, List.getElem_cons_zero, List.getElem_cons_succ, List.setIfInBounds_toArray, List.set_cons_zero, List.set_cons_succ])
  refine wpAnyH_done (by kernel_rfl) ?_ _
  have S8 : Hid (Sep y.heap.size y w7 [rT (.slice none 0 0) []]) := Lib.hid (S7.out.none_ 35 3)
  clear hb hs6 S7 HSM HM0 HY0 hll
  go_upto_region 11 with fail
  go_loopw [7, 8, 9] (fun av tv i z => ∃ (j A : Nat) (xx : Lx) (m : Mk), i = .int .i64 (j : Nat) ∧ tv = .int .i64 (A : Nat) ∧ j ≤ q1.length ∧ Hid (Wp s q1 (RX, mE) j A xx m) ∧ xx.toks.length ≤ 4099 * j ∧ Hid (Sep y.heap.size y z [rT av xx.toks])) (fun av tv i _ => q1.length - (intOf i).toNat)
  case atStart => exact ⟨0, 0, ⟨[m0], [0], []⟩, m0, rfl, rfl, by omega, HWP, by simp, S8⟩
  case round =>
  clear HWP S8
  obtain ⟨j, A, xx, m, rfl, rfl, hj, HW, htl, HS⟩ := hrel
  obtain ⟨Z, rfl⟩ : ∃ W : World, W = wr := ⟨_, rfl⟩
  obtain ⟨pv, cv, rfl⟩ := row_form HS.out.at
  by_cases hlt : j < q1.length
  · have hltI : (j : Int) < (q1.length : Int) := by omega
    have hjI : ¬ (j : Int) < 0 := by omega
    obtain ⟨nn, hnn⟩ := HW.out.nat hlt
    obtain ⟨⟨k, n0, lk⟩, hr⟩ : ∃ r, q1[j] = r := ⟨_, rfl⟩
    rw [hr] at hnn
    simp only [] at hnn
    subst hnn
    obtain ⟨h1n, hAn, hstq, hw2, hcount⟩ := HW.out.step hlt hr
    obtain ⟨⟨m2, tk2⟩, hst⟩ : ∃ q, stepF m (((bl s).drop A).take nn) k (nn : Int) = q := ⟨_, rfl⟩
    have htk : tk2.length ≤ 4099 := by
      have h1 := stepF_len m (((bl s).drop A).take nn) k (nn : Int)
      rw [hst] at h1
      have h2 := HW.out.may.len
      simp only [] at h1
      omega
    rw [hst] at hstq hw2 hcount
    have hmat := HW.out.mark
    have hmat2 := hw2.mark
    simp only [] at hw2 hcount hmat hmat2
    obtain ⟨pm, qm, HM1⟩ := HMK.out j m hmat
    obtain ⟨pm2, qm2, HM2⟩ := HMK.out (j + 1) m2 hmat2
    have HM1 := Lib.hid HM1
    have HM2 := Lib.hid HM2
    have HW2 := Lib.hid hw2
    have HST := Lib.hid hstq
    have HCT := Lib.hid hcount
    have HLE := Lib.hid (And.intro HW.out.may.len hw2.may.len)
    have HG0 : Hid (∃ b o, p = some ⟨b, o, none⟩ ∧ ∀ z : World, Below y.heap.size y z → z.cell? ⟨b, o + j * 3, none⟩ = some (.int .i64 k) ∧ z.cell? ⟨b, o + j * 3 + 1, none⟩ = some (.int .i64 (nn : Nat)) ∧ z.cell? ⟨b, o + j * 3 + 2, none⟩ = some (.int .i64 lk)) := Lib.hid (by
      obtain ⟨p', c', he, -, hh⟩ := (HRA.out y (Below.refl _ _)).1
      injection he with e1 e2 e3
      subst e1 e3
      obtain ⟨b, o, e, hDb, hc⟩ := hh (by intro e; rw [e] at hlt; simp at hlt)
      obtain ⟨g0, g1, g2'⟩ := rwL_get q1 j hlt
      rw [hr] at g0 g1 g2'
      simp only [] at g0 g1 g2'
      refine ⟨b, o, e, fun z hz => ?_⟩
      have hb := hz.block b ((HRA.out y (Below.refl _ _)).2 b hDb)
      exact ⟨(cell_same hb _).trans (hc _ _ g0), (cell_same hb _).trans (hc _ _ g1), (cell_same hb _).trans (hc _ _ g2')⟩)
    obtain ⟨b, ob, rfl, HG1⟩ := HG0.out
    clear HG0
    have HG := Lib.hid HG1
    clear HG1
    obtain ⟨-, c1', -⟩ := HG.out Z HS.out.bel
    have hsz2 := HSZ.out.1
    have hn1 : ¬ (nn : Int) < 1 := by omega
    have hn2' : ¬ ((s.size : Int) - (A : Int)) < (nn : Int) := by omega
    have hsw : IntKind.i64.wrap ((s.size : Int) - (A : Int)) = (s.size : Int) - (A : Int) := IntWalk.i64_in _ (by omega)
    have haw : IntKind.i64.wrap ((A : Int) + (nn : Int)) = (A : Int) + (nn : Int) := IntWalk.i64_in _ (by omega)
    have hjw : IntKind.i64.wrap ((j : Int) + 1) = (j : Int) + 1 := IntWalk.i64_in _ (by omega)
    have hj2 : ¬ ((q1.length : Int) + 1 ≤ (j : Int)) := by omega
    have hs1 : 0 ≤ (A : Int) + (nn : Int) ∧ (A : Int) + (nn : Int) ≤ (s.size : Int) := by omega
    have hs2 : (A : Int) ≤ (A : Int) + (nn : Int) := by omega
    have hs3 : ((A : Int) + (nn : Int)).toNat = A + nn := by omega
    clear hw2 hstq hcount hmat hmat2 hr hst
    go_upto_region 15 with fail
  
    clear c1'
    have HSTEP := Lib.hid (fun (z : World) (hz : Sep y.heap.size y z [rT (.slice pv xx.toks.length cv) xx.toks]) => step_any (w := z) (m := m) (s := s.extract A (A + nn)) (k := k) (n := (nn : Nat)) (lk := lk) (X := [rT (.slice pv xx.toks.length cv) xx.toks]) (by have := HLE.out.1; omega) (by simp; omega) (fun b hb => hb.2.1) (own_iv (HM1.out z hz.bel).1) hz)
    have HSTEP2 := Lib.hid (fun (z : World) {bx : Nat} (hz : Sep y.heap.size y z [bxM bx zA, rT (.slice pv xx.toks.length cv) xx.toks]) => step_any (w := z) (m := m) (s := s.extract A (A + nn)) (k := k) (n := (nn : Nat)) (lk := lk) (X := [bxM bx zA, rT (.slice pv xx.toks.length cv) xx.toks]) (by have := HLE.out.1; omega) (by simp; omega) (fun b hb => hb.2.1) (own_iv (HM1.out z hz.bel).1) hz)
    rw [HST.out] at HSTEP HSTEP2
    unfold StepP mkA rwV at HSTEP HSTEP2
    simp only [] at HSTEP HSTEP2
    have hz24 := zero24
    refine Code.wp_mono (Q := fun e a v => ∃ bx p5 c5 q5 c5t, e = .normal ∧ a = { tmps := List.toArray ((Value.string s) :: (Value.slice (some { block := b, off := ob }) q1.length c) :: (undef) :: (undef) :: (u4) :: (Value.pointer (some { block := b6, off := 0 })) :: (Value.int IntKind.i64 0) :: (Value.slice pv xx.toks.length cv) :: (Value.int IntKind.i64 ↑A) :: (Value.int IntKind.i64 ↑j) :: (.pointer (some ⟨bx, 0, none⟩)) :: (.slice q5 tk2.length c5t) :: (Value.slice (some { block := b, off := ob }) q1.length c) :: (Value.int IntKind.i64 ↑q1.length) :: (Value.bool false) :: (Value.tuple #[Value.agg #[Value.slice p1 q1.length c1, Value.slice (some { block := g2, off := 0 }) RX.marks.length c2, Value.slice (some { block := g3, off := 0 }) RX.counts.length c3, Value.slice p4 (RX.toks.length + (endF mE).length) c4], Value.int IntKind.i64 0]) :: (Value.string s) :: (Value.slice (some { block := b, off := ob }) q1.length c) :: (Value.tuple #[Value.agg #[Value.slice p1 q1.length c1, Value.slice (some { block := g2, off := 0 }) RX.marks.length c2, Value.slice (some { block := g3, off := 0 }) RX.counts.length c3, Value.slice p4 (RX.toks.length + (endF mE).length) c4], Value.int IntKind.i64 0]) :: (Value.agg #[Value.slice p1 q1.length c1, Value.slice (some { block := g2, off := 0 }) RX.marks.length c2, Value.slice (some { block := g3, off := 0 }) RX.counts.length c3, Value.slice p4 (RX.toks.length + (endF mE).length) c4]) :: (Value.int IntKind.i64 0) :: (Value.int IntKind.i64 0) :: (Value.bool false) :: (undef) :: (Value.pointer (some { block := b6, off := 1 })) :: (Value.slice (some { block := g2, off := 0 }) (q1.length + 1) c2) :: (Value.int IntKind.i64 (↑q1.length + 1)) :: (Value.slice (some { block := b, off := ob }) q1.length c) :: (Value.int IntKind.i64 ↑q1.length) :: (Value.int IntKind.i64 (↑q1.length + 1)) :: (Value.bool false) :: (Value.bool false) :: (Value.pointer (some { block := b6, off := 2 })) :: (Value.slice (some { block := g3, off := 0 }) (q1.length + 1) c3) :: (Value.int IntKind.i64 (↑q1.length + 1)) :: (Value.slice (some { block := b, off := ob }) q1.length c) :: (Value.int IntKind.i64 ↑q1.length) :: (Value.int IntKind.i64 (↑q1.length + 1)) :: (Value.bool false) :: (Value.bool false) :: (Value.bool false) :: (Value.pointer (some { block := b6, off := 1 })) :: (Value.slice (some { block := g2, off := 0 }) (q1.length + 1) c2) :: (Value.pointer (some { block := g2, off := 0 })) :: (Value.agg #[Value.slice pm0 1 qm0, Value.int IntKind.i64 0, Value.int IntKind.i64 0, Value.bool true, Value.int IntKind.i64 0]) :: (Value.agg #[Value.slice p6 1 c6, Value.int IntKind.i64 0, Value.int IntKind.i64 0, Value.bool true, Value.int IntKind.i64 0]) :: (Value.bool true) :: (Value.bool false) :: (Value.bool false) :: (Value.int IntKind.i64 ↑j) :: (Value.slice (some { block := b, off := ob }) q1.length c) :: (Value.int IntKind.i64 ↑q1.length) :: (Value.bool true) :: (u53) :: (u54) :: (Value.slice (some { block := b, off := ob }) q1.length c) :: (Value.int IntKind.i64 ↑j) :: (Value.pointer (some { block := b, off := ob + j * 3 })) :: (Value.pointer (some { block := b, off := ob + j * 3 + 1 })) :: (Value.int IntKind.i64 ↑nn) :: (Value.bool false) :: (Value.bool false) :: (Value.slice (some { block := b, off := ob }) q1.length c) :: (Value.int IntKind.i64 ↑j) :: (Value.pointer (some { block := b, off := ob + j * 3 })) :: (Value.pointer (some { block := b, off := ob + j * 3 + 1 })) :: (Value.int IntKind.i64 ↑nn) :: (Value.string s) :: (Value.int IntKind.i64 ↑s.size) :: (Value.int IntKind.i64 ↑A) :: (Value.int IntKind.i64 (↑s.size - ↑A)) :: (Value.bool false) :: (Value.bool false) :: (.tuple #[(.agg #[.slice p5 m2.cols.length c5, .int .i64 m2.opn, .int .i64 m2.col, .bool m2.fresh, .int .i64 m2.lead]), (.slice q5 tk2.length c5t)]) :: (.pointer (some ⟨b6, 1, none⟩)) :: (.slice (some ⟨g2, 0, none⟩) (q1.length + 1) c2) :: (.int .i64 (j : Nat)) :: (.pointer (some ⟨g2, j * 5, none⟩)) :: (.agg #[.slice pm m.cols.length qm, .int .i64 m.opn, .int .i64 m.col, .bool m.fresh, .int .i64 m.lead]) :: (.string s) :: (.int .i64 (A : Nat)) :: (.int .i64 (A : Nat)) :: (.slice (some ⟨b, ob, none⟩) q1.length c) :: (.int .i64 (j : Nat)) :: (.pointer (some ⟨b, ob + j * 3, none⟩)) :: (.pointer (some ⟨b, ob + j * 3 + 1, none⟩)) :: (.int .i64 (nn : Nat)) :: (.int .i64 ((A : Int) + (nn : Int))) :: (.string (s.extract A (A + nn))) :: (.slice (some ⟨b, ob, none⟩) q1.length c) :: (.int .i64 (j : Nat)) :: (.pointer (some ⟨b, ob + j * 3, none⟩)) :: (.agg #[.int .i64 k, .int .i64 (nn : Nat), .int .i64 lk]) :: (.tuple #[(.agg #[.slice p5 m2.cols.length c5, .int .i64 m2.opn, .int .i64 m2.col, .bool m2.fresh, .int .i64 m2.lead]), (.slice q5 tk2.length c5t)]) :: (.agg #[.slice p5 m2.cols.length c5, .int .i64 m2.opn, .int .i64 m2.col, .bool m2.fresh, .int .i64 m2.lead]) :: (.slice q5 tk2.length c5t) :: (u96) :: (u97) :: (u98) :: (u99) :: (u100) :: (u101) :: (u102) :: (u103) :: (u104) :: (u105) :: (u106) :: (u107) :: (u108) :: (u109) :: (u110) :: (u111) :: (u112) :: (u113) :: (u114) :: (u115) :: (u116) :: (u117) :: (u118) :: (u119) :: (u120) :: (u121) :: (u122) :: (u123) :: (u124) :: (u125) :: (undef) :: (undef) :: (undef) :: (undef) :: (undef) :: (undef) :: (undef) :: (undef) :: (undef) :: (undef) :: (undef) :: (undef) :: (undef) :: (undef) :: (undef) :: (undef) :: []), defers := [] } ∧ Sep y.heap.size y v [bxM bx (mkA (.slice p5 m2.cols.length c5) m2), rT (.slice q5 tk2.length c5t) tk2, rI (.slice p5 m2.cols.length c5) m2.cols, rT (.slice pv xx.toks.length cv) xx.toks]) ?next ?region
    case next =>
      intro e a1 v hh
      obtain ⟨bx, p5, c5, q5, c5t, rfl, rfl, hS⟩ := hh
      have hb5 := hS.bel
      have S5 := Lib.hid ((hS.tl.tl.tl).drew.drew)
      have SA := Lib.hid (hS.to 3 (by simp))
      simp only [List.getElem_cons_succ, List.getElem_cons_zero, List.eraseIdx] at SA
      have HT5 := Lib.hid (SA.out.li (rT (.slice q5 tk2.length c5t) tk2) (by simp))
      clear S5 hS hb5 HS HSTEP HSTEP2 HST HM1
      have htm : xx.toks.length + tk2.length ≤ 1000000000000 := by omega
      have htl2 : xx.toks.length + tk2.length ≤ 4099 * (j + 1) := by omega
      go_upto_region 16 with fail
      go_wp2_with (at_builtin; refine wp_appTT (B := y.heap.size) (w0 := y) (l := xx.toks) (news := tk2) _ (.slice q5 tk2.length c5t) rfl (.tmp 96) (.tmp 97) rfl rfl rfl SA.out HT5.out htm ?_)
      intro v6 w6 hs6
      obtain ⟨pa, ca, rfl⟩ := row_form hs6.at
      have S6 := Lib.hid hs6
      clear hs6 SA HT5
      rw [← List.length_append] at htl2 htm
      obtain ⟨T2, hT2⟩ : ∃ T2, xx.toks ++ tk2 = T2 := ⟨_, rfl⟩
      rw [hT2] at S6 HW2 HCT htl2 htm ⊢
      clear hT2
      go_upto_region 17 with fail
      have S7 := Lib.hid S6.out.drew
      have HCJ := Lib.hid (fun (z : World) (hz : Below y.heap.size y z) => HCC.out (j + 1) (by omega) z hz)
      rw [HCT.out] at HCJ
      clear S6
      have hj3 : ¬ ((q1.length : Int) + 1 ≤ (j : Int) + 1) := by omega
      have hj4 : ¬ ((j : Int) + 1 < 0) := by omega
      have hj5 : ((j : Int) + 1).toNat = j + 1 := by omega
      refine wp_region_held_drew (S := fun v => Sep y.heap.size y v [rT (.slice pa T2.length ca) T2, bxM bx (mkA (.slice p5 m2.cols.length c5) m2), rT (.slice q5 tk2.length c5t) tk2, rI (.slice p5 m2.cols.length c5) m2.cols]) (by kernel_rfl) S7.out (fun hHeld => ?_)
      refine wpAnyH_take (i := 0) (v := (.agg #[.slice p5 m2.cols.length c5, .int .i64 m2.opn, .int .i64 m2.col, .bool m2.fresh, .int .i64 m2.lead])) rfl (by kernel_rfl) (by kernel_rfl) (by kernel_rfl) (fun _ _ _ h => h) (Or.inl ⟨by rfl, by (intro w' hSw; have k0 : w'.cell? ⟨bx, 0, none⟩ = some (.slice p5 m2.cols.length c5) := hSw.tl.boxAt 0; have k1 : w'.cell? ⟨bx, 1, none⟩ = some (.int .i64 m2.opn) := hSw.tl.boxAt 1; have k2 : w'.cell? ⟨bx, 2, none⟩ = some (.int .i64 m2.col) := hSw.tl.boxAt 2; have k3 : w'.cell? ⟨bx, 3, none⟩ = some (.bool m2.fresh) := hSw.tl.boxAt 3; have k4 : w'.cell? ⟨bx, 4, none⟩ = some (.int .i64 m2.lead) := hSw.tl.boxAt 4; go_simp)⟩) hHeld ?_
      (try simp only [Act.put, List.getElem_toArray, List.getElem_cons_zero, List.getElem_cons_succ, List.setIfInBounds_toArray, List.set_cons_zero, List.set_cons_succ])
      refine wpAnyH_take (i := 1) (v := (.pointer (some ⟨b6, 1, none⟩))) rfl (by kernel_rfl) (by kernel_rfl) (by kernel_rfl) (fun _ _ _ h => h) (Or.inl ⟨by rfl, by (intro w hSw; (try dsimp only at hSw); go_simp)⟩) hHeld ?_
      (try simp only [Act.put, List.getElem_toArray, List.getElem_cons_zero, List.getElem_cons_succ, List.setIfInBounds_toArray, List.set_cons_zero, List.set_cons_succ])
      refine wpAnyH_take (i := 2) (v := (.slice (some ⟨g2, 0, none⟩) (q1.length + 1) c2)) rfl (by kernel_rfl) (by kernel_rfl) (by kernel_rfl) (fun _ _ _ h => h) (Or.inl ⟨by rfl, by (intro w' hSw; have q := cell_of_row w' b6 1 _ 46 (0, 0) (HBX.out w' hSw.bel); go_simp)⟩) hHeld ?_
      (try simp only [Act.put, List.getElem_toArray, List.getElem_cons_zero, List.getElem_cons_succ, List.setIfInBounds_toArray, List.set_cons_zero, List.set_cons_succ])
      refine wpAnyH_take (i := 3) (v := (.int .i64 (j : Nat))) rfl (by kernel_rfl) (by kernel_rfl) (by kernel_rfl) (fun _ _ _ h => h) (Or.inl ⟨by rfl, by (intro w hSw; (try dsimp only at hSw); go_simp)⟩) hHeld ?_
      (try simp only [Act.put, List.getElem_toArray, List.getElem_cons_zero, List.getElem_cons_succ, List.setIfInBounds_toArray, List.set_cons_zero, List.set_cons_succ])
      refine wpAnyH_take (i := 4) (v := (.int .i64 ((j : Int) + 1))) rfl (by kernel_rfl) (by kernel_rfl) (by kernel_rfl) (fun _ _ _ h => h) (Or.inl ⟨by rfl, by (intro w hSw; (try dsimp only at hSw); go_simp)⟩) hHeld ?_
      (try simp only [Act.put, List.getElem_toArray, List.getElem_cons_zero, List.getElem_cons_succ, List.setIfInBounds_toArray, List.set_cons_zero, List.set_cons_succ])
      refine wpAnyH_take (i := 5) (v := (.pointer (some ⟨g2, (j + 1) * 5, none⟩))) rfl (by kernel_rfl) (by kernel_rfl) (by kernel_rfl) (fun _ _ _ h => h) (Or.inl ⟨by rfl, by (intro w hSw; (try dsimp only at hSw); go_simp)⟩) hHeld ?_
      (try simp only [Act.put, List.getElem_toArray, List.getElem_cons_zero, List.getElem_cons_succ, List.setIfInBounds_toArray, List.set_cons_zero, List.set_cons_succ])
      refine wpAnyH_take (i := 6) (v := (.agg #[.slice pm2 m2.cols.length qm2, .int .i64 m2.opn, .int .i64 m2.col, .bool m2.fresh, .int .i64 m2.lead])) rfl (by kernel_rfl) (by kernel_rfl) (by kernel_rfl) (fun _ _ _ h => h) (Or.inl ⟨by rfl, by (intro w' hSw; obtain ⟨-, q0, q1', q2, q3, q4⟩ := HM2.out w' hSw.bel; go_simp)⟩) hHeld ?_
      (try simp only [Act.put, List.getElem_toArray, List.getElem_cons_zero, List.getElem_cons_succ, List.setIfInBounds_toArray, List.set_cons_zero, List.set_cons_succ])
      have HSM := Lib.hid (fun (z : World) (hz : Sep y.heap.size y z [rT (.slice pa T2.length ca) T2, bxM bx (mkA (.slice p5 m2.cols.length c5) m2), rT (.slice q5 tk2.length c5t) tk2, rI (.slice p5 m2.cols.length c5) m2.cols]) => samemark_any (w := z) (m := m2) (by have := HLE.out.2; omega) (fun b hb => hb.2.1) (fun b hb => hb.2.1) (own_iv (hz.li (rI (.slice p5 m2.cols.length c5) m2.cols) (by simp))) (own_iv (HM2.out z hz.bel).1))
      unfold mkA at HSM
      refine wpAnyH_ready (rs := [7]) (by kernel_rfl) (by simp) ?_
      refine AllReadyH.cons rfl (fun K hK => ?_) (AllReadyH.nil)
      rw [if_pos (by rfl)]
      go_wp2_with fail
      refine (HSM.out _ (by assumption)).mono ?_
      rintro _ w7 ⟨rfl, hb⟩
      have S8 := Lib.hid (S7.out.up hb)
      clear hb
      refine hK.out _ _ (S8.out) (fun hHeld2 => ?_)
      clear hHeld hK
      have hHeld := hHeld2
      clear hHeld2
      (try simp only [Act.put, List.getElem_toArray, List.getElem_cons_zero, List.getElem_cons_succ, List.setIfInBounds_toArray, List.set_cons_zero, List.set_cons_succ])
      refine wpAnyH_take (i := 8) (v := (.bool false)) rfl (by kernel_rfl) (by kernel_rfl) (by kernel_rfl) (fun _ _ _ h => h) (Or.inl ⟨by rfl, by (intro w hSw; (try dsimp only at hSw); go_simp)⟩) hHeld ?_
      (try simp only [Act.put, List.getElem_toArray, List.getElem_cons_zero, List.getElem_cons_succ, List.setIfInBounds_toArray, List.set_cons_zero, List.set_cons_succ])
      refine wpAnyH_take (i := 9) (v := (.bool false)) rfl (by kernel_rfl) (by kernel_rfl) (by kernel_rfl) (fun _ _ _ h => h) (Or.inl ⟨by rfl, by (intro w hSw; (try dsimp only at hSw); go_simp)⟩) hHeld ?_
      (try simp only [Act.put, List.getElem_toArray, List.getElem_cons_zero, List.getElem_cons_succ, List.setIfInBounds_toArray, List.set_cons_zero, List.set_cons_succ])
      refine wpAnyH_take (i := 10) (v := (.pointer (some ⟨b6, 2, none⟩))) rfl (by kernel_rfl) (by kernel_rfl) (by kernel_rfl) (fun _ _ _ h => h) (Or.inl ⟨by rfl, by (intro w hSw; (try dsimp only at hSw); go_simp)⟩) hHeld ?_
      (try simp only [Act.put, List.getElem_toArray, List.getElem_cons_zero, List.getElem_cons_succ, List.setIfInBounds_toArray, List.set_cons_zero, List.set_cons_succ])
      refine wpAnyH_take (i := 11) (v := (.slice (some ⟨g3, 0, none⟩) (q1.length + 1) c3)) rfl (by kernel_rfl) (by kernel_rfl) (by kernel_rfl) (fun _ _ _ h => h) (Or.inl ⟨by rfl, by (intro w' hSw; have q := cell_of_row w' b6 2 _ 46 (0, 0) (HBX.out w' hSw.bel); go_simp)⟩) hHeld ?_
      (try simp only [Act.put, List.getElem_toArray, List.getElem_cons_zero, List.getElem_cons_succ, List.setIfInBounds_toArray, List.set_cons_zero, List.set_cons_succ])
      refine wpAnyH_take (i := 12) (v := (.int .i64 (j : Nat))) rfl (by kernel_rfl) (by kernel_rfl) (by kernel_rfl) (fun _ _ _ h => h) (Or.inl ⟨by rfl, by (intro w hSw; (try dsimp only at hSw); go_simp)⟩) hHeld ?_
      (try simp only [Act.put, List.getElem_toArray, List.getElem_cons_zero, List.getElem_cons_succ, List.setIfInBounds_toArray, List.set_cons_zero, List.set_cons_succ])
      refine wpAnyH_take (i := 13) (v := (.int .i64 ((j : Int) + 1))) rfl (by kernel_rfl) (by kernel_rfl) (by kernel_rfl) (fun _ _ _ h => h) (Or.inl ⟨by rfl, by (intro w hSw; (try dsimp only at hSw); go_simp)⟩) hHeld ?_
      (try simp only [Act.put, List.getElem_toArray, List.getElem_cons_zero, List.getElem_cons_succ, List.setIfInBounds_toArray, List.set_cons_zero, List.set_cons_succ])
      refine wpAnyH_take (i := 14) (v := (.pointer (some ⟨g3, j + 1, none⟩))) rfl (by kernel_rfl) (by kernel_rfl) (by kernel_rfl) (fun _ _ _ h => h) (Or.inl ⟨by rfl, by (intro w hSw; (try dsimp only at hSw); go_simp)⟩) hHeld ?_
      (try simp only [Act.put, List.getElem_toArray, List.getElem_cons_zero, List.getElem_cons_succ, List.setIfInBounds_toArray, List.set_cons_zero, List.set_cons_succ])
      refine wpAnyH_take (i := 15) (v := (.int .i64 (T2.length : Int))) rfl (by kernel_rfl) (by kernel_rfl) (by kernel_rfl) (fun _ _ _ h => h) (Or.inl ⟨by rfl, by (intro w' hSw; have q := HCJ.out w' hSw.bel; go_simp)⟩) hHeld ?_
      (try simp only [Act.put, List.getElem_toArray, List.getElem_cons_zero, List.getElem_cons_succ, List.setIfInBounds_toArray, List.set_cons_zero, List.set_cons_succ])
      refine wpAnyH_take (i := 16) (v := (.slice pa T2.length ca)) rfl (by kernel_rfl) (by kernel_rfl) (by kernel_rfl) (fun _ _ _ h => h) (Or.inl ⟨by rfl, by (intro w hSw; (try dsimp only at hSw); go_simp)⟩) hHeld ?_
      (try simp only [Act.put, List.getElem_toArray, List.getElem_cons_zero, List.getElem_cons_succ, List.setIfInBounds_toArray, List.set_cons_zero, List.set_cons_succ])
      refine wpAnyH_take (i := 17) (v := (.int .i64 (T2.length : Int))) rfl (by kernel_rfl) (by kernel_rfl) (by kernel_rfl) (fun _ _ _ h => h) (Or.inl ⟨by rfl, by (intro w hSw; (try dsimp only at hSw); go_simp)⟩) hHeld ?_
      (try simp only [Act.put, List.getElem_toArray, List.getElem_cons_zero, List.getElem_cons_succ, List.setIfInBounds_toArray, List.set_cons_zero, List.set_cons_succ])
      refine wpAnyH_take (i := 18) (v := (.bool false)) rfl (by kernel_rfl) (by kernel_rfl) (by kernel_rfl) (fun _ _ _ h => h) (Or.inl ⟨by rfl, by (intro w hSw; (try dsimp only at hSw); go_simp)⟩) hHeld ?_
      (try simp only [Act.put, List.getElem_toArray, List.getElem_cons_zero, List.getElem_cons_succ, List.setIfInBounds_toArray, List.set_cons_zero, List.set_cons_succ])
      refine wpAnyH_take (i := 19) (v := (.bool false)) rfl (by kernel_rfl) (by kernel_rfl) (by kernel_rfl) (fun _ _ _ h => h) (Or.inl ⟨by rfl, by (intro w hSw; (try dsimp only at hSw); go_simp)⟩) hHeld ?_
      (try simp only [Act.put, List.getElem_toArray, List.getElem_cons_zero, List.getElem_cons_succ, List.setIfInBounds_toArray, List.set_cons_zero, List.set_cons_succ])
      refine wpAnyH_done (by kernel_rfl) ?_ _
      have S9 : Hid (Sep y.heap.size y w7 [rT (.slice pa T2.length ca) T2]) := Lib.hid (S8.out.sub (List.Sublist.cons_cons _ (.cons _ (.cons _ (.cons _ (.refl []))))))
      clear S7 S8 HSM HCJ
      obtain ⟨-, c1', -⟩ := HG.out w7 S9.out.bel
      go_wp2_with fail
      go_roundw
      case rel => exact ⟨j + 1, A + nn, ⟨_, _, T2⟩, m2, by go_num, by go_num, by omega, HW2, htl2, S9⟩
      case measure => first | (simp [intOf]; done) | (simp [intOf]; omega)
    case region =>
      have HS0 := HS.out.drew
      refine wp_region_held_drew (S := fun v => Sep y.heap.size y v [rT (.slice pv xx.toks.length cv) xx.toks]) (by kernel_rfl) HS0 (fun hHeld => ?_)
      refine wpAnyH_take (i := 0) (v := (.pointer (some ⟨b6, 1, none⟩))) rfl (by kernel_rfl) (by kernel_rfl) (by kernel_rfl) (fun _ _ _ h => (by obtain ⟨_, _, _, _, _, h, _⟩ := h; cases h)) (Or.inl ⟨by rfl, by (intro w hSw; (try dsimp only at hSw); go_simp)⟩) hHeld ?_
      (try simp only [Act.put, List.getElem_toArray, List.getElem_cons_zero, List.getElem_cons_succ, List.setIfInBounds_toArray, List.set_cons_zero, List.set_cons_succ])
      refine wpAnyH_take (i := 1) (v := (.slice (some ⟨g2, 0, none⟩) (q1.length + 1) c2)) rfl (by kernel_rfl) (by kernel_rfl) (by kernel_rfl) (fun _ _ _ h => (by obtain ⟨_, _, _, _, _, h, _⟩ := h; cases h)) (Or.inl ⟨by rfl, by (intro w' hSw; have q := cell_of_row w' b6 1 _ 46 (0, 0) (HBX.out w' hSw.bel); go_simp)⟩) hHeld ?_
      (try simp only [Act.put, List.getElem_toArray, List.getElem_cons_zero, List.getElem_cons_succ, List.setIfInBounds_toArray, List.set_cons_zero, List.set_cons_succ])
      refine wpAnyH_take (i := 2) (v := (.int .i64 (j : Nat))) rfl (by kernel_rfl) (by kernel_rfl) (by kernel_rfl) (fun _ _ _ h => (by obtain ⟨_, _, _, _, _, h, _⟩ := h; cases h)) (Or.inl ⟨by rfl, by (intro w hSw; (try dsimp only at hSw); go_simp)⟩) hHeld ?_
      (try simp only [Act.put, List.getElem_toArray, List.getElem_cons_zero, List.getElem_cons_succ, List.setIfInBounds_toArray, List.set_cons_zero, List.set_cons_succ])
      refine wpAnyH_take (i := 3) (v := (.pointer (some ⟨g2, j * 5, none⟩))) rfl (by kernel_rfl) (by kernel_rfl) (by kernel_rfl) (fun _ _ _ h => (by obtain ⟨_, _, _, _, _, h, _⟩ := h; cases h)) (Or.inl ⟨by rfl, by (intro w hSw; (try dsimp only at hSw); go_simp)⟩) hHeld ?_
      (try simp only [Act.put, List.getElem_toArray, List.getElem_cons_zero, List.getElem_cons_succ, List.setIfInBounds_toArray, List.set_cons_zero, List.set_cons_succ])
      refine wpAnyH_take (i := 4) (v := (.agg #[.slice pm m.cols.length qm, .int .i64 m.opn, .int .i64 m.col, .bool m.fresh, .int .i64 m.lead])) rfl (by kernel_rfl) (by kernel_rfl) (by kernel_rfl) (fun _ _ _ h => (by obtain ⟨_, _, _, _, _, h, _⟩ := h; cases h)) (Or.inl ⟨by rfl, by (intro w' hSw; obtain ⟨-, q0, q1', q2, q3, q4⟩ := HM1.out w' hSw.bel; go_simp)⟩) hHeld ?_
      (try simp only [Act.put, List.getElem_toArray, List.getElem_cons_zero, List.getElem_cons_succ, List.setIfInBounds_toArray, List.set_cons_zero, List.set_cons_succ])
      refine wpAnyH_take (i := 5) (v := (.string s)) rfl (by kernel_rfl) (by kernel_rfl) (by kernel_rfl) (fun _ _ _ h => (by obtain ⟨_, _, _, _, _, h, _⟩ := h; cases h)) (Or.inl ⟨by rfl, by (intro w hSw; (try dsimp only at hSw); go_simp)⟩) hHeld ?_
      (try simp only [Act.put, List.getElem_toArray, List.getElem_cons_zero, List.getElem_cons_succ, List.setIfInBounds_toArray, List.set_cons_zero, List.set_cons_succ])
      refine wpAnyH_take (i := 6) (v := (.int .i64 (A : Nat))) rfl (by kernel_rfl) (by kernel_rfl) (by kernel_rfl) (fun _ _ _ h => (by obtain ⟨_, _, _, _, _, h, _⟩ := h; cases h)) (Or.inl ⟨by rfl, by (intro w hSw; (try dsimp only at hSw); go_simp)⟩) hHeld ?_
      (try simp only [Act.put, List.getElem_toArray, List.getElem_cons_zero, List.getElem_cons_succ, List.setIfInBounds_toArray, List.set_cons_zero, List.set_cons_succ])
      refine wpAnyH_take (i := 7) (v := (.int .i64 (A : Nat))) rfl (by kernel_rfl) (by kernel_rfl) (by kernel_rfl) (fun _ _ _ h => (by obtain ⟨_, _, _, _, _, h, _⟩ := h; cases h)) (Or.inl ⟨by rfl, by (intro w hSw; (try dsimp only at hSw); go_simp)⟩) hHeld ?_
      (try simp only [Act.put, List.getElem_toArray, List.getElem_cons_zero, List.getElem_cons_succ, List.setIfInBounds_toArray, List.set_cons_zero, List.set_cons_succ])
      refine wpAnyH_take (i := 8) (v := (.slice (some ⟨b, ob, none⟩) q1.length c)) rfl (by kernel_rfl) (by kernel_rfl) (by kernel_rfl) (fun _ _ _ h => (by obtain ⟨_, _, _, _, _, h, _⟩ := h; cases h)) (Or.inl ⟨by rfl, by (intro w hSw; (try dsimp only at hSw); go_simp)⟩) hHeld ?_
      (try simp only [Act.put, List.getElem_toArray, List.getElem_cons_zero, List.getElem_cons_succ, List.setIfInBounds_toArray, List.set_cons_zero, List.set_cons_succ])
      refine wpAnyH_take (i := 9) (v := (.int .i64 (j : Nat))) rfl (by kernel_rfl) (by kernel_rfl) (by kernel_rfl) (fun _ _ _ h => (by obtain ⟨_, _, _, _, _, h, _⟩ := h; cases h)) (Or.inl ⟨by rfl, by (intro w hSw; (try dsimp only at hSw); go_simp)⟩) hHeld ?_
      (try simp only [Act.put, List.getElem_toArray, List.getElem_cons_zero, List.getElem_cons_succ, List.setIfInBounds_toArray, List.set_cons_zero, List.set_cons_succ])
      refine wpAnyH_take (i := 10) (v := (.pointer (some ⟨b, ob + j * 3, none⟩))) rfl (by kernel_rfl) (by kernel_rfl) (by kernel_rfl) (fun _ _ _ h => (by obtain ⟨_, _, _, _, _, h, _⟩ := h; cases h)) (Or.inl ⟨by rfl, by (intro w hSw; (try dsimp only at hSw); go_simp)⟩) hHeld ?_
      (try simp only [Act.put, List.getElem_toArray, List.getElem_cons_zero, List.getElem_cons_succ, List.setIfInBounds_toArray, List.set_cons_zero, List.set_cons_succ])
      refine wpAnyH_take (i := 11) (v := (.pointer (some ⟨b, ob + j * 3 + 1, none⟩))) rfl (by kernel_rfl) (by kernel_rfl) (by kernel_rfl) (fun _ _ _ h => (by obtain ⟨_, _, _, _, _, h, _⟩ := h; cases h)) (Or.inl ⟨by rfl, by (intro w hSw; (try dsimp only at hSw); go_simp)⟩) hHeld ?_
      (try simp only [Act.put, List.getElem_toArray, List.getElem_cons_zero, List.getElem_cons_succ, List.setIfInBounds_toArray, List.set_cons_zero, List.set_cons_succ])
      refine wpAnyH_take (i := 12) (v := (.int .i64 (nn : Nat))) rfl (by kernel_rfl) (by kernel_rfl) (by kernel_rfl) (fun _ _ _ h => (by obtain ⟨_, _, _, _, _, h, _⟩ := h; cases h)) (Or.inl ⟨by rfl, by (intro w' hSw; obtain ⟨-, q1', -⟩ := HG.out w' hSw.bel; go_simp)⟩) hHeld ?_
      (try simp only [Act.put, List.getElem_toArray, List.getElem_cons_zero, List.getElem_cons_succ, List.setIfInBounds_toArray, List.set_cons_zero, List.set_cons_succ])
      refine wpAnyH_take (i := 13) (v := (.int .i64 ((A : Int) + (nn : Int)))) rfl (by kernel_rfl) (by kernel_rfl) (by kernel_rfl) (fun _ _ _ h => (by obtain ⟨_, _, _, _, _, h, _⟩ := h; cases h)) (Or.inl ⟨by rfl, by (intro w hSw; (try dsimp only at hSw); go_simp)⟩) hHeld ?_
      (try simp only [Act.put, List.getElem_toArray, List.getElem_cons_zero, List.getElem_cons_succ, List.setIfInBounds_toArray, List.set_cons_zero, List.set_cons_succ])
      refine wpAnyH_take (i := 14) (v := (.string (s.extract A (A + nn)))) rfl (by kernel_rfl) (by kernel_rfl) (by kernel_rfl) (fun _ _ _ h => (by obtain ⟨_, _, _, _, _, h, _⟩ := h; cases h)) (Or.inl ⟨by rfl, by (intro w hSw; (try dsimp only at hSw); go_simp)⟩) hHeld ?_
      (try simp only [Act.put, List.getElem_toArray, List.getElem_cons_zero, List.getElem_cons_succ, List.setIfInBounds_toArray, List.set_cons_zero, List.set_cons_succ])
      refine wpAnyH_take (i := 15) (v := (.slice (some ⟨b, ob, none⟩) q1.length c)) rfl (by kernel_rfl) (by kernel_rfl) (by kernel_rfl) (fun _ _ _ h => (by obtain ⟨_, _, _, _, _, h, _⟩ := h; cases h)) (Or.inl ⟨by rfl, by (intro w hSw; (try dsimp only at hSw); go_simp)⟩) hHeld ?_
      (try simp only [Act.put, List.getElem_toArray, List.getElem_cons_zero, List.getElem_cons_succ, List.setIfInBounds_toArray, List.set_cons_zero, List.set_cons_succ])
      refine wpAnyH_take (i := 16) (v := (.int .i64 (j : Nat))) rfl (by kernel_rfl) (by kernel_rfl) (by kernel_rfl) (fun _ _ _ h => (by obtain ⟨_, _, _, _, _, h, _⟩ := h; cases h)) (Or.inl ⟨by rfl, by (intro w hSw; (try dsimp only at hSw); go_simp)⟩) hHeld ?_
      (try simp only [Act.put, List.getElem_toArray, List.getElem_cons_zero, List.getElem_cons_succ, List.setIfInBounds_toArray, List.set_cons_zero, List.set_cons_succ])
      refine wpAnyH_take (i := 17) (v := (.pointer (some ⟨b, ob + j * 3, none⟩))) rfl (by kernel_rfl) (by kernel_rfl) (by kernel_rfl) (fun _ _ _ h => (by obtain ⟨_, _, _, _, _, h, _⟩ := h; cases h)) (Or.inl ⟨by rfl, by (intro w hSw; (try dsimp only at hSw); go_simp)⟩) hHeld ?_
      (try simp only [Act.put, List.getElem_toArray, List.getElem_cons_zero, List.getElem_cons_succ, List.setIfInBounds_toArray, List.set_cons_zero, List.set_cons_succ])
      refine wpAnyH_take (i := 18) (v := (.agg #[.int .i64 k, .int .i64 (nn : Nat), .int .i64 lk])) rfl (by kernel_rfl) (by kernel_rfl) (by kernel_rfl) (fun _ _ _ h => (by obtain ⟨_, _, _, _, _, h, _⟩ := h; cases h)) (Or.inl ⟨by rfl, by (intro w' hSw; obtain ⟨q0, q1', q2⟩ := HG.out w' hSw.bel; go_simp)⟩) hHeld ?_
      (try simp only [Act.put, List.getElem_toArray, List.getElem_cons_zero, List.getElem_cons_succ, List.setIfInBounds_toArray, List.set_cons_zero, List.set_cons_succ])
      refine wpAnyH_ready (rs := [19, 23]) (by kernel_rfl) (by simp) ?_
      refine AllReadyH.cons rfl (fun K hK => ?_) (AllReadyH.cons rfl (fun K hK => ?_) AllReadyH.nil)
      · rw [if_pos (by rfl)]
        go_wp2_with fail
        refine (HSTEP.out _ HS0).mono ?_
        rintro _ w5 ⟨v5, t5, rfl, hs5⟩
        obtain ⟨p5, c5, rfl⟩ := row_form hs5.tl.at
        obtain ⟨q5, c5t, rfl⟩ := row_form hs5.at
        refine hK.out _ _ (hs5.tl.tl) (fun hHeld2 => ?_)
        clear hHeld hK
        have hHeld := hHeld2
        clear hHeld2
        (try simp only [Act.put, List.getElem_toArray, List.getElem_cons_zero, List.getElem_cons_succ, List.setIfInBounds_toArray, List.set_cons_zero, List.set_cons_succ])
        refine wpAnyH_take (i := 20) (v := (.tuple #[(.agg #[.slice p5 m2.cols.length c5, .int .i64 m2.opn, .int .i64 m2.col, .bool m2.fresh, .int .i64 m2.lead]), (.slice q5 tk2.length c5t)])) rfl (by kernel_rfl) (by kernel_rfl) (by kernel_rfl) (fun _ _ _ h => (by obtain ⟨_, _, _, _, _, h, _⟩ := h; cases h)) (Or.inl ⟨by rfl, by (intro w hSw; (try dsimp only at hSw); go_simp)⟩) hHeld ?_
        (try simp only [Act.put, List.getElem_toArray, List.getElem_cons_zero, List.getElem_cons_succ, List.setIfInBounds_toArray, List.set_cons_zero, List.set_cons_succ])
        refine wpAnyH_take (i := 21) (v := (.agg #[.slice p5 m2.cols.length c5, .int .i64 m2.opn, .int .i64 m2.col, .bool m2.fresh, .int .i64 m2.lead])) rfl (by kernel_rfl) (by kernel_rfl) (by kernel_rfl) (fun _ _ _ h => (by obtain ⟨_, _, _, _, _, h, _⟩ := h; cases h)) (Or.inl ⟨by rfl, by (intro w hSw; (try dsimp only at hSw); go_simp)⟩) hHeld ?_
        (try simp only [Act.put, List.getElem_toArray, List.getElem_cons_zero, List.getElem_cons_succ, List.setIfInBounds_toArray, List.set_cons_zero, List.set_cons_succ])
        refine wpAnyH_take (i := 22) (v := (.slice q5 tk2.length c5t)) rfl (by kernel_rfl) (by kernel_rfl) (by kernel_rfl) (fun _ _ _ h => (by obtain ⟨_, _, _, _, _, h, _⟩ := h; cases h)) (Or.inl ⟨by rfl, by (intro w hSw; (try dsimp only at hSw); go_simp)⟩) hHeld ?_
        (try simp only [Act.put, List.getElem_toArray, List.getElem_cons_zero, List.getElem_cons_succ, List.setIfInBounds_toArray, List.set_cons_zero, List.set_cons_succ])
        obtain ⟨bx, hbx⟩ : ∃ b, w5.heap.size = b := ⟨_, rfl⟩
        have hal := hs5.allocAt hbx (.cells zA 24)
        refine wpAnyH_ready (rs := [23]) (by kernel_rfl) (by simp) ?_
        refine AllReadyH.cons rfl (fun K hK => ?_) (AllReadyH.nil)
        rw [if_pos (by rfl)]
        go_wp2_with fail
        refine at_K (fun v => Sep y.heap.size y v [bxM bx zA, rT (.slice q5 tk2.length c5t) tk2, rI (.slice p5 m2.cols.length c5) m2.cols, rT (.slice pv xx.toks.length cv) xx.toks]) hal fun w6 hS6 => ?_
        refine hK.out _ _ (hS6.tl.tl.tl) (fun hHeld2 => ?_)
        clear hHeld hK
        have hHeld := hHeld2
        clear hHeld2
        (try simp only [Act.put, List.getElem_toArray, List.getElem_cons_zero, List.getElem_cons_succ, List.setIfInBounds_toArray, List.set_cons_zero, List.set_cons_succ])
        refine wpAnyH_ready (rs := [24]) (by kernel_rfl) (by simp) ?_
        refine AllReadyH.cons rfl (fun K hK => ?_) (AllReadyH.nil)
        rw [if_pos (by rfl)]
        refine wp_store_row 24 (.tmp 10) (.tmp 94) rfl bx (mkA (.slice p5 m2.cols.length c5) m2) rfl rfl 24 _ hS6.at.2 info24 rfl (by simp [Value.oneCell', mkA]) ?_
        have hSS := hS6.putRow (mkA (.slice p5 m2.cols.length c5) m2)
        refine hK.out _ _ (hSS.tl.tl.tl) (fun hHeld2 => ?_)
        clear hHeld hK
        have hHeld := hHeld2
        clear hHeld2
        (try simp only [Act.put, List.getElem_toArray, List.getElem_cons_zero, List.getElem_cons_succ, List.setIfInBounds_toArray, List.set_cons_zero, List.set_cons_succ])
        refine wpAnyH_take (i := 25) (v := (.slice q5 tk2.length c5t)) rfl (by kernel_rfl) (by kernel_rfl) (by kernel_rfl) (fun _ _ _ h => (by obtain ⟨_, _, _, _, _, h, _⟩ := h; cases h)) (Or.inl ⟨by rfl, by (intro w hSw; (try dsimp only at hSw); go_simp)⟩) hHeld ?_
        (try simp only [Act.put, List.getElem_toArray, List.getElem_cons_zero, List.getElem_cons_succ, List.setIfInBounds_toArray, List.set_cons_zero, List.set_cons_succ])
        refine wpAnyH_done (by kernel_rfl) ?_ _
        exact ⟨bx, p5, c5, q5, c5t, rfl, rfl, hSS⟩
      · obtain ⟨bx, hbx⟩ : ∃ b, Z.drew.heap.size = b := ⟨_, rfl⟩
        have hbx2 : Z.heap.size = bx := hbx
        have hal := HS0.allocAt hbx (.cells zA 24)
        rw [if_pos (by rfl)]
        go_wp2_with fail
        refine at_K (fun v => Sep y.heap.size y v [bxM bx zA, rT (.slice pv xx.toks.length cv) xx.toks]) hal fun w4 hS4 => ?_
        refine hK.out _ _ (hS4.tl) (fun hHeld2 => ?_)
        clear hHeld hK
        have hHeld := hHeld2
        clear hHeld2
        (try simp only [Act.put, List.getElem_toArray, List.getElem_cons_zero, List.getElem_cons_succ, List.setIfInBounds_toArray, List.set_cons_zero, List.set_cons_succ])
        refine wpAnyH_ready (rs := [19]) (by kernel_rfl) (by simp) ?_
        refine AllReadyH.cons rfl (fun K hK => ?_) (AllReadyH.nil)
        rw [if_pos (by rfl)]
        go_wp2_with fail
        refine (HSTEP2.out _ hS4).mono ?_
        rintro _ w5 ⟨v5, t5, rfl, hs5⟩
        obtain ⟨p5, c5, rfl⟩ := row_form hs5.tl.at
        obtain ⟨q5, c5t, rfl⟩ := row_form hs5.at
        refine hK.out _ _ (hs5.tl.tl.tl) (fun hHeld2 => ?_)
        clear hHeld hK
        have hHeld := hHeld2
        clear hHeld2
        (try simp only [Act.put, List.getElem_toArray, List.getElem_cons_zero, List.getElem_cons_succ, List.setIfInBounds_toArray, List.set_cons_zero, List.set_cons_succ])
        refine wpAnyH_take (i := 20) (v := (.tuple #[(.agg #[.slice p5 m2.cols.length c5, .int .i64 m2.opn, .int .i64 m2.col, .bool m2.fresh, .int .i64 m2.lead]), (.slice q5 tk2.length c5t)])) rfl (by kernel_rfl) (by kernel_rfl) (by kernel_rfl) (fun _ _ _ h => (by obtain ⟨_, _, _, _, _, h, _⟩ := h; cases h)) (Or.inl ⟨by rfl, by (intro w hSw; (try dsimp only at hSw); go_simp)⟩) hHeld ?_
        (try simp only [Act.put, List.getElem_toArray, List.getElem_cons_zero, List.getElem_cons_succ, List.setIfInBounds_toArray, List.set_cons_zero, List.set_cons_succ])
        refine wpAnyH_take (i := 21) (v := (.agg #[.slice p5 m2.cols.length c5, .int .i64 m2.opn, .int .i64 m2.col, .bool m2.fresh, .int .i64 m2.lead])) rfl (by kernel_rfl) (by kernel_rfl) (by kernel_rfl) (fun _ _ _ h => (by obtain ⟨_, _, _, _, _, h, _⟩ := h; cases h)) (Or.inl ⟨by rfl, by (intro w hSw; (try dsimp only at hSw); go_simp)⟩) hHeld ?_
        (try simp only [Act.put, List.getElem_toArray, List.getElem_cons_zero, List.getElem_cons_succ, List.setIfInBounds_toArray, List.set_cons_zero, List.set_cons_succ])
        refine wpAnyH_take (i := 22) (v := (.slice q5 tk2.length c5t)) rfl (by kernel_rfl) (by kernel_rfl) (by kernel_rfl) (fun _ _ _ h => (by obtain ⟨_, _, _, _, _, h, _⟩ := h; cases h)) (Or.inl ⟨by rfl, by (intro w hSw; (try dsimp only at hSw); go_simp)⟩) hHeld ?_
        (try simp only [Act.put, List.getElem_toArray, List.getElem_cons_zero, List.getElem_cons_succ, List.setIfInBounds_toArray, List.set_cons_zero, List.set_cons_succ])
        have hS6 := (hs5.to 2 (by simp))
        refine wpAnyH_ready (rs := [24]) (by kernel_rfl) (by simp) ?_
        refine AllReadyH.cons rfl (fun K hK => ?_) (AllReadyH.nil)
        rw [if_pos (by rfl)]
        refine wp_store_row 24 (.tmp 10) (.tmp 94) rfl bx (mkA (.slice p5 m2.cols.length c5) m2) rfl rfl 24 _ hS6.at.2 info24 rfl (by simp [Value.oneCell', mkA]) ?_
        have hSS := hS6.putRow (mkA (.slice p5 m2.cols.length c5) m2)
        refine hK.out _ _ (hSS.tl.tl.tl) (fun hHeld2 => ?_)
        clear hHeld hK
        have hHeld := hHeld2
        clear hHeld2
        (try simp only [Act.put, List.getElem_toArray, List.getElem_cons_zero, List.getElem_cons_succ, List.setIfInBounds_toArray, List.set_cons_zero, List.set_cons_succ])
        refine wpAnyH_take (i := 25) (v := (.slice q5 tk2.length c5t)) rfl (by kernel_rfl) (by kernel_rfl) (by kernel_rfl) (fun _ _ _ h => (by obtain ⟨_, _, _, _, _, h, _⟩ := h; cases h)) (Or.inl ⟨by rfl, by (intro w hSw; (try dsimp only at hSw); go_simp)⟩) hHeld ?_
        (try simp only [Act.put, List.getElem_toArray, List.getElem_cons_zero, List.getElem_cons_succ, List.setIfInBounds_toArray, List.set_cons_zero, List.set_cons_succ])
        refine wpAnyH_done (by kernel_rfl) ?_ _
        exact ⟨bx, p5, c5, q5, c5t, rfl, rfl, hSS⟩
  · obtain rfl : j = q1.length := by omega
    have hltI : ¬ (q1.length : Int) < (q1.length : Int) := by omega
    have hfin := HW.out.fin
    have hmat := HW.out.mark
    have HMY := Lib.hid HW.out.may
    simp only [] at hmat
    obtain ⟨pm, qm, HM1⟩ := HMK.out q1.length m hmat
    have HM1 := Lib.hid HM1
    injection hfin with hf1 hf2
    rw [hf1, hf2] at HTT
    have hEQ : endQ m = endF m := by unfold endQ; rw [if_pos (may_mayB HMY.out)]
    have hiv := own_iv (HM1.out Z HS.out.bel).1
    have HEN := Lib.hid (end_any (w := Z) (m := m) (p := pm) (c := qm) (by have := HMY.out.len; omega) (fun b hb => hb.2.1) hiv HS.out)
    clear hiv
    rw [hEQ] at HEN
    unfold mkA at HEN
    have htt : (xx.toks ++ endF m).length = n := by rw [HTT.out]; exact HNN.out
    have htm : xx.toks.length + (endF m).length ≤ 1000000000000 := by rw [List.length_append] at htt; omega
    have hj2 : ¬ ((q1.length : Int) + 1 ≤ (q1.length : Int)) := by omega
    have hj4 : ¬ ((q1.length : Int) < 0) := by omega
    obtain ⟨-, k0, k1, k2, k3, k4⟩ := HM1.out Z HS.out.bel
    have kb1 : Z.cell? ⟨b6, 1, none⟩ = some (.slice (some ⟨g2, 0, none⟩) (q1.length + 1) c2) := cell_of_row Z b6 1 _ 46 (0, 0) (HBX.out Z HS.out.bel)
    clear hEQ hf1 hf2 hmat HM1
    go_upto_region 20 with fail
    go_wp2_with fail
    refine HEN.out.mono ?_
    rintro _ w5 ⟨t5, rfl, hs5⟩
    obtain ⟨p5, c5, rfl⟩ := row_form hs5.at
    have SA := Lib.hid hs5.swap
    have HT5 := Lib.hid hs5.at
    clear hs5 HS HEN k0 k1 k2 k3 k4 kb1
    go_wp2_with (at_builtin; refine wp_appTT (B := y.heap.size) (w0 := y) (l := xx.toks) (news := endF m) _ (.slice p5 (endF m).length c5) rfl (.tmp 126) (.tmp 133) rfl rfl rfl SA.out HT5.out htm ?_)
    intro v6 w6 hs6
    obtain ⟨pa, ca, rfl⟩ := row_form hs6.at
    rw [HTT.out] at hs6 ⊢
    have S6 := Lib.hid hs6
    clear hs6 SA HT5 htm htt
    have hra := row_wv S6.out.at
    have hrb : w6.ownsRow w.heap.size 35 3 (.slice p4 TT.length c4) TT.length (tkL TT) := by have h := HRT.out w6 S6.out.bel; rw [← HNN.out] at h; exact h
    have hrb2 := row_wv hrb
    have HST := Lib.hid (sametok_any (w := w6) (l := TT) (p := pa) (c := ca) (p' := p4) (c' := c4) (fun b hb => hb.2.1) (fun b hb => hb.2.1) hra hrb2 (by rw [HNN.out]; omega))
    clear hra hrb hrb2
    rw [HNN.out] at HST ⊢
    have kb3 : w6.cell? ⟨b6, 3, none⟩ = some (.slice p4 n c4) := cell_of_row w6 b6 3 _ 46 (0, 0) (HBX.out w6 S6.out.bel)
    go_upto_region 21 with fail
    go_wp2_with fail
    refine HST.out.mono ?_
    rintro _ w7 ⟨rfl, hb7⟩
    have S7 := Lib.hid (S6.out.up hb7)
    clear hb7 S6 HST kb3
    go_wp2_with fail
    refine alive_any.mono ?_
    rintro _ w9 ⟨rfl, hb⟩
    have S9 := Lib.hid (S7.out.up hb)
    clear hb S7
    go_wp2_with fail
    go_ret
    exact ⟨rfl, HBY.out.trans (S9.out.bel.mono HBY.out.size)⟩
end Go.Proofs.Ythbfpnbfiliknaa
