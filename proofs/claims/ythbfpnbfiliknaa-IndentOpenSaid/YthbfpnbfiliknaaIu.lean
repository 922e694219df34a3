/- Package indent. -/
import Derived.Test.YthbfpnbfiliknaaProg
import Derived.Test.YthbfpnbfiliknaaIu0
import Derived.Great.BuildSlice
import Derived.WalkKit
import Derived.Maps.OwnSet
import Derived.Maps.OwnOps
import Derived.Maps.Own
import Derived.DeepKeys5
import Derived.BigFrame
import Derived.WalkMore
import Derived.ScopeJumps
import Derived.StillTailTactics
import Derived.Stop.BytesEq
import Derived.WalkLawsBesides
import Derived.WalkSpells
import Derived.Outline
import Derived.Lib.Walk
import Derived.Lib.Hide
import Derived.Lib.Slices
import Derived.Lib.Strings
import Derived.RegionTactic
import Derived.LoopTactic
import Derived.Below
import Derived.IntWalk
import Derived.Deep.QuietTactic
import Derived.BigQuiet
import Derived.Deep.MidRow
import Derived.Maps.AppendAt
import Derived.Laws.Rows
import Derived.Laws.Tables
import Derived.Deep.WholeRow
import Derived.Deep.Cut
import Derived.Deep.CutRange
import Derived.Lib.SliceRun
import Derived.Laws.MakeOwn
import Derived.Deep.RegionLaw
import Derived.Deep.RegionLawGrows
import Derived.Deep.RegionHeld3
import Derived.RegionCalls
import Derived.Deep.RegionWith
import Derived.Deep.Light
import Derived.Laws.CopyOwn
import Derived.Laws.ResultCell
namespace Go.Proofs.Ythbfpnbfiliknaa
set_option linter.unusedSimpArgs false
set_option linter.unusedVariables false
set_option maxRecDepth 100000
open Go.RowKit
/- IndentOpen. -/
set_option maxHeartbeats 32000000 in
theorem open_any {D : Nat → Prop} {w : World} {s : ByteArray} {l : List Rw} {p : Option Addr} {c : Nat} (hl : l.length ≤ 9223372036854775806) (hss : s.size ≤ 9223372036854775806) (hD : ∀ b, D b → b < w.heap.size) (hrw : RW D w l (.slice p l.length c)) :
    Calls Try.prog 8 #[.string s, .slice p l.length c] w fun e w' => e = .returned (.bool true) ∧ Below w.heap.size w w' := by
  have HI := Lib.hid hrw
  have HD := Lib.hid hD
  have S0 := Lib.hid (Below.refl w.heap.size w)
  clear hrw hD
  by_cases hlong : 2000 < l.length
  · have hI : (2000 : Int) < (l.length : Int) := by omega
    go_enter Try.func8, Try.ntmps8
    go_wp2_with fail
    go_ret
    exact ⟨rfl, S0.out⟩
  have hI : ¬ (2000 : Int) < (l.length : Int) := by omega
  have hl2 : l.length ≤ 2000 := by omega
  have HK0 : Hid (∀ i (h : i < l.length), i < 0 → l[i].1 ≠ 20 ∧ l[i].1 ≠ 21) := Lib.hid fun i _ h => by omega
  go_enter Try.func8, Try.ntmps8
  go_wp2_with fail
  go_loopw [5] (fun i wr => ∃ j : Nat, i = .int .i64 (j : Nat) ∧ j ≤ l.length ∧ Hid (∀ i (h : i < l.length), i < j → l[i].1 ≠ 20 ∧ l[i].1 ≠ 21) ∧ wr = w) (fun i _ => l.length - (intOf i).toNat)
  case atStart => exact ⟨0, rfl, by omega, HK0, rfl⟩
  case round =>
  clear HK0
  obtain ⟨j, rfl, hj, HK, rfl⟩ := hrel
  by_cases hlt : j < l.length
  · have hltI : (j : Int) < (l.length : Int) := by omega
    have hjI : ¬ (j : Int) < 0 := by omega
    obtain ⟨p', c', he, -, hh⟩ := HI.out
    injection he with e1 e2 e3
    subst e1 e3
    obtain ⟨b, o, rfl, hDb, hc⟩ := hh (by intro e; rw [e] at hlt; simp at hlt)
    obtain ⟨g0, -, -⟩ := rwL_get l j hlt
    have c0 := hc _ _ g0
    obtain ⟨k, hx⟩ : ∃ z, l[j].1 = z := ⟨_, rfl⟩
    rw [hx] at c0
    have HX := Lib.hid hx
    clear hh hc g0 hx e2
    by_cases h20 : k = 20
    · subst h20
      go_wp2_with fail
      refine alive_any.mono ?_
      rintro _ w9 ⟨rfl, hb⟩
      have HB := Lib.hid hb
      clear hb
      go_wp2_with fail
      go_ret
      exact ⟨rfl, HB.out⟩
    have k20 : (k == 20) = false := by simpa using h20
    by_cases h21 : k = 21
    · subst h21
      go_wp2_with fail
      refine alive_any.mono ?_
      rintro _ w9 ⟨rfl, hb⟩
      have HB := Lib.hid hb
      clear hb
      go_wp2_with fail
      go_ret
      exact ⟨rfl, HB.out⟩
    have k21 : (k == 21) = false := by simpa using h21
    have HK2 : Hid (∀ i (h : i < l.length), i < j + 1 → l[i].1 ≠ 20 ∧ l[i].1 ≠ 21) := Lib.hid fun i h hi => by
      by_cases e : i = j
      · subst e; rw [HX.out]; exact ⟨h20, h21⟩
      · exact HK.out i h (by omega)
    go_wp2_with fail
    go_roundw
    case rel => exact ⟨j + 1, by go_num, by omega, HK2, by first | rfl | trivial⟩
    case measure => simp [intOf]; omega
  · obtain rfl : j = l.length := by omega
    obtain ⟨WR0, rfl⟩ : ∃ W : World, W = wr := ⟨_, rfl⟩
    have hltI : ¬ (l.length : Int) < (l.length : Int) := by omega
    have HKG : Hid (∀ r ∈ l, r.1 ≠ 20 ∧ r.1 ≠ 21) := Lib.hid fun r hr => by
      obtain ⟨i, hi, rfl⟩ := List.mem_iff_getElem.1 hr
      exact HK.out i hi hi
    clear HK
    have HALL := Lib.hid (all_any (B := WR0.heap.size) (w0 := WR0) (w := WR0) (XX := []) (s := s) (lst := l) (by omega) hss HD.out HI.out (Sep.start WR0))
    obtain ⟨⟨⟨q1, x⟩, q5⟩, hQ⟩ : ∃ z, allQ s l = z := ⟨_, rfl⟩
    rw [hQ] at HALL
    have HQ := Lib.hid hQ
    clear hQ
    go_wp2_with fail
    refine HALL.out.mono ?_
    rintro _ w2 ⟨v1, v2, v3, v4, vs, rfl, hvs, hs2⟩
    simp only [] at hvs hs2 ⊢
    obtain ⟨p1, c1, rfl⟩ := row_form hs2.at
    obtain ⟨p2, c2, rfl⟩ := row_form hs2.tl.at
    obtain ⟨p3, c3, rfl⟩ := row_form hs2.tl.tl.at
    obtain ⟨p4, c4, rfl⟩ := row_form hs2.tl.tl.tl.at
    obtain ⟨b6, hb6⟩ : ∃ b, w2.heap.size = b := ⟨_, rfl⟩
    have S2 := Lib.hid (hs2.allocAt hb6 (.cells #[.slice p1 q1.length c1, .slice p2 x.marks.length c2, .slice p3 x.counts.length c3, .slice p4 x.toks.length c4] 46))
    have HVS := Lib.hid hvs
    clear hs2 hvs HALL
    go_upto_region 9 with fail
    refine at_world (fun y => Sep WR0.heap.size WR0 y (bxL b6 #[.slice p1 q1.length c1, .slice p2 x.marks.length c2, .slice p3 x.counts.length c3, .slice p4 x.toks.length c4] :: rR (.slice p1 q1.length c1) q1 :: rM (.slice p2 x.marks.length c2) vs x.marks :: rI (.slice p3 x.counts.length c3) x.counts :: rT (.slice p4 x.toks.length c4) x.toks :: (colsI vs x.marks ++ []))) S2.out fun y hy => ?_
    have S3 := Lib.hid hy
    clear S2 hy hb6
    by_cases hq5 : q5 = 0
    case neg =>
      have hq5I : (q5 != 0) = true := by simpa using hq5
      go_wp2_with fail
      refine alive_any.mono ?_
      rintro _ w9 ⟨rfl, hb⟩
      have HB := Lib.hid (S3.out.up hb).bel
      clear hb S3
      go_wp2_with fail
      go_ret
      exact ⟨rfl, HB.out⟩
    subst hq5
    have hq1 := allQ_l HQ.out
    have hwq := wq_all HQ.out HKG.out
    simp only [] at hq1 hwq
    subst hq1
    have HWQ := Lib.hid hwq
    clear hwq HQ HKG
    have HLM := Lib.hid (And.intro HWQ.out.lm HWQ.out.lc)
    obtain ⟨n, hn⟩ : ∃ n, x.toks.length = n := ⟨_, rfl⟩
    have S4 : Hid (Sep WR0.heap.size WR0 y (bxL b6 #[.slice p1 q1.length c1, .slice p2 (q1.length + 1) c2, .slice p3 (q1.length + 1) c3, .slice p4 n c4] :: rR (.slice p1 q1.length c1) q1 :: rM (.slice p2 (q1.length + 1) c2) vs x.marks :: rI (.slice p3 (q1.length + 1) c3) x.counts :: rT (.slice p4 n c4) x.toks :: (colsI vs x.marks ++ []))) := Lib.hid (by
      have h := S3.out
      rw [HLM.out.1, HLM.out.2, hn] at h
      exact h)
    have HNN := Lib.hid hn
    have hrowT : y.ownsRow WR0.heap.size 35 3 (.slice p4 n c4) x.toks.length (rwL x.toks) := S4.out.tl.tl.tl.tl.at
    have hrowI : y.ownsRow WR0.heap.size 3 1 (.slice p3 (q1.length + 1) c3) x.counts.length (zi x.counts) := S4.out.tl.tl.tl.at
    have hrowM : y.ownsRow WR0.heap.size 24 5 (.slice p2 (q1.length + 1) c2) x.marks.length (mkL vs x.marks) := S4.out.tl.tl.at
    obtain ⟨g3, k3, hv3, -⟩ := row_own hrowI (by rw [HLM.out.2]; omega)
    injection hv3 with e7 e8 e9
    subst e7
    obtain ⟨g2, k2', hv2, -⟩ := row_own hrowM (by rw [HLM.out.1]; omega)
    injection hv2 with e10 e11 e12
    subst e10
    have HTC : Hid (∀ j, j < n → ∃ g, p4 = some ⟨g, 0, none⟩ ∧ ∀ z : World, Below y.heap.size y z → z.cell? ⟨g, j * 3, none⟩ = some (.int .i64 (tg x.toks j).1)) := Lib.hid fun j hj => by
      obtain ⟨g4, k4, hv4, -⟩ := row_own hrowT (by rw [HNN.out]; omega)
      injection hv4 with e4 e5 e6
      refine ⟨g4, e4, fun z hz => ?_⟩
      subst e4
      have hj2 : j < x.toks.length := by rw [HNN.out]; exact hj
      have e : tg x.toks j = x.toks[j] := by simp [tg, List.getD, hj2]
      rw [e]
      have h1 := hrowT.cells (g := g4) rfl (j * 3) _ (rwL_get x.toks j hj2).1
      rw [Addr.add_mid, Nat.zero_add] at h1
      exact (cell_same (hz.block g4 (blk_lt h1)) _).trans h1
    have HCC : Hid (∀ i, i < q1.length + 1 → ∀ z : World, Below y.heap.size y z → z.cell? ⟨g3, i, none⟩ = some (.int .i64 (x.counts.getD i 0))) := Lib.hid fun i hi z hz => by
      have hi2 : i < x.counts.length := by rw [HLM.out.2]; exact hi
      have h1 := hrowI.cells (g := g3) rfl i (.int .i64 x.counts[i]) (by simp [zi, hi2])
      rw [Addr.add_mid, Nat.zero_add] at h1
      rw [getD_lt hi2]
      exact (cell_same (hz.block g3 (blk_lt h1)) _).trans h1
    have HMK : Hid (∀ i, i < q1.length → ∃ m, x.marks[i]? = some m ∧ ∀ z : World, Below y.heap.size y z → z.cell? ⟨g2, i * 5 + 1, none⟩ = some (.int .i64 m.opn)) := Lib.hid fun i hi => by
      have hi2 : i < x.marks.length := by rw [HLM.out.1]; omega
      obtain ⟨pm, qm, -, -, h1, -⟩ := mark_at (g := g2) (n := q1.length + 1) (c := c2) S4.out HVS.out (by simp) (fun y hy => by simp [hy]) hi2
      exact ⟨x.marks[i], List.getElem?_eq_getElem hi2, fun z hz => (cell_same (hz.block g2 (blk_lt h1)) _).trans h1⟩
    have HBX : Hid (∀ z : World, Below y.heap.size y z → z.heap[b6]? = some (.cells #[.slice p1 q1.length c1, .slice (some ⟨g2, 0, none⟩) (q1.length + 1) c2, .slice (some ⟨g3, 0, none⟩) (q1.length + 1) c3, .slice p4 n c4] 46 (0, 0))) := Lib.hid fun z hz => (hz.block b6 (Array.getElem?_eq_some_iff.1 S4.out.at.2).1).trans S4.out.at.2
    have HNB : Hid (n ≤ 9223372036854775807) := Lib.hid (by have := row_max hrowT; rw [HNN.out] at this; unfold maxLen at this; omega)
    have HBY := Lib.hid S4.out.bel
    have HYY := Lib.hid (Below.refl y.heap.size y)
    clear S3 S4 hrowT hrowI hrowM hn e8 e9 e11 e12
    have hbx := HBX.out y HYY.out
    have k1 : y.cell? ⟨b6, 1, none⟩ = some (.slice (some ⟨g2, 0, none⟩) (q1.length + 1) c2) := cell_of_row y b6 1 _ 46 (0, 0) hbx
    have k2 : y.cell? ⟨b6, 2, none⟩ = some (.slice (some ⟨g3, 0, none⟩) (q1.length + 1) c3) := cell_of_row y b6 2 _ 46 (0, 0) hbx
    have k3 : y.cell? ⟨b6, 3, none⟩ = some (.slice p4 n c4) := cell_of_row y b6 3 _ 46 (0, 0) hbx
    clear hbx
    have hcl := HWQ.out.le q1.length (by omega)
    have hcc := HCC.out q1.length (by omega) y HYY.out
    rw [HNN.out] at hcl
    obtain ⟨yl, hyl⟩ : ∃ z, x.counts.getD q1.length 0 = z := ⟨_, rfl⟩
    rw [hyl] at hcl hcc
    have hclI : ¬ ((n : Int) < yl) := by omega
    have hll : (((q1.length + 1 : Nat) : Int) != ((q1.length : Int) + 1)) = false := by simp
    have hq1 : ¬ (q1.length : Int) < 0 := by omega
    have hq2 : (q1.length : Int) < ((q1.length + 1 : Nat) : Int) := by omega
    clear hyl hcl
    go_upto_region 11 with fail
    go_quiet (fail)
    clear k1 k2 k3 hcc hclI
    refine at_worldQ (fun z => Below y.heap.size y z) (below_drewN HYY.out _) fun z0 hz0 => ?_
    have HZ0 := Lib.hid hz0
    clear hz0
    go_upto_region 14 with fail
    go_loopw [8] (fun i z => ∃ j : Nat, i = .int .i64 (j : Nat) ∧ j ≤ q1.length ∧ Hid (Below y.heap.size y z)) (fun i _ => q1.length - (intOf i).toNat)
    case atStart => exact ⟨0, rfl, by omega, HZ0⟩
    case round =>
    clear HZ0
    obtain ⟨i, rfl, hi, HZ⟩ := hrel
    obtain ⟨Z, rfl⟩ : ∃ W : World, W = wr := ⟨_, rfl⟩
    by_cases hlt : i < q1.length
    · have hltI : (i : Int) < (q1.length : Int) := by omega
      have hiI : ¬ (i : Int) < 0 := by omega
      have hiI2 : (i : Int) < ((q1.length + 1 : Nat) : Int) := by omega
      have hiI3 : ¬ ((i : Int) + 1 < 0) := by omega
      have hiI4 : (i : Int) + 1 < ((q1.length + 1 : Nat) : Int) := by omega
      have hiw : IntKind.i64.wrap ((i : Int) + 1) = (i : Int) + 1 := IntWalk.i64_in ((i : Int) + 1) (by omega)
      have K0 := HCC.out i (by omega) Z HZ.out
      have K1 := HCC.out (i + 1) (by omega) Z HZ.out
      have cz := HWQ.out.c0 i (by omega)
      have ct := HWQ.out.le (i + 1) (by omega)
      rw [HNN.out] at ct
      obtain ⟨y0, hy0⟩ : ∃ z, x.counts.getD i 0 = z := ⟨_, rfl⟩
      obtain ⟨y1, hy1⟩ : ∃ z, x.counts.getD (i + 1) 0 = z := ⟨_, rfl⟩
      have HY := Lib.hid (And.intro hy0 hy1)
      rw [hy0] at K0 cz
      rw [hy1] at K1 ct
      obtain ⟨k0', rfl⟩ : ∃ k : Nat, y0 = (k : Int) := ⟨y0.toNat, by omega⟩
      have czI : ¬ ((k0' : Nat) : Int) < 0 := by omega
      have ctI : ¬ ((n : Int) < y1) := by omega
      clear hy0 hy1
      have hbx := HBX.out Z HZ.out
      have k2 : Z.cell? ⟨b6, 2, none⟩ = some (.slice (some ⟨g3, 0, none⟩) (q1.length + 1) c3) := cell_of_row Z b6 2 _ 46 (0, 0) hbx
      have k3 : Z.cell? ⟨b6, 3, none⟩ = some (.slice p4 n c4) := cell_of_row Z b6 3 _ 46 (0, 0) hbx
      clear hbx
      go_upto_region 16 with fail
      go_quiet (fail)
      refine at_worldQ (fun z => Below y.heap.size y z) (below_drewN HZ.out _) fun Z1 hz1 => ?_
      have HZ1 := Lib.hid hz1
      clear hz1 K0 K1 k2 k3 HZ
      have K0 := HCC.out i (by omega) Z1 HZ1.out
      rw [HY.out.1] at K0
      have hbx := HBX.out Z1 HZ1.out
      have k2 : Z1.cell? ⟨b6, 2, none⟩ = some (.slice (some ⟨g3, 0, none⟩) (q1.length + 1) c3) := cell_of_row Z1 b6 2 _ 46 (0, 0) hbx
      clear hbx
      go_upto_region 19 with fail
      clear K0 k2
      go_loopw [9] (fun q z => ∃ k : Nat, q = .int .i64 (k : Nat) ∧ k0' ≤ k ∧ (k : Int) ≤ max (k0' : Int) y1 ∧ Hid (Below y.heap.size y z)) (fun q _ => n - (intOf q).toNat)
      case atStart => exact ⟨k0', rfl, by omega, by omega, HZ1⟩
      case round =>
      clear HZ1
      obtain ⟨k, rfl, hk1, hk2, HZ⟩ := hrel
      obtain ⟨Z, rfl⟩ : ∃ W : World, W = wr := ⟨_, rfl⟩
      have K1 := HCC.out (i + 1) (by omega) Z HZ.out
      rw [HY.out.2] at K1
      have hbx := HBX.out Z HZ.out
      have k1 : Z.cell? ⟨b6, 1, none⟩ = some (.slice (some ⟨g2, 0, none⟩) (q1.length + 1) c2) := cell_of_row Z b6 1 _ 46 (0, 0) hbx
      have k2 : Z.cell? ⟨b6, 2, none⟩ = some (.slice (some ⟨g3, 0, none⟩) (q1.length + 1) c3) := cell_of_row Z b6 2 _ 46 (0, 0) hbx
      have k3 : Z.cell? ⟨b6, 3, none⟩ = some (.slice p4 n c4) := cell_of_row Z b6 3 _ 46 (0, 0) hbx
      clear hbx
      by_cases hkl : (k : Int) < y1
      · have hkn : k < n := by omega
        have hkI : ¬ (k : Int) < 0 := by omega
        have hkI2 : (k : Int) < (n : Int) := by omega
        obtain ⟨g4, hg4, hc4⟩ := HTC.out k hkn
        have T0 := hc4 Z HZ.out
        obtain ⟨m, hm, hmc⟩ := HMK.out i hlt
        have M1 := hmc Z HZ.out
        have hop := HWQ.out.op i hlt m hm
        have hin := HWQ.out.ind i hlt k
        rw [HY.out.1, HY.out.2] at hop
        rw [HY.out.2] at hin
        have hop2 := fun ho => hop ho k (by omega) hkl
        have hin2 := fun h0 => hin h0 hkl
        have T1 : ∀ _ : 0 < k, Z.cell? ⟨g4, (k - 1) * 3, none⟩ = some (.int .i64 (tg x.toks (k - 1)).1) := fun h0 => by
          obtain ⟨g5, hg5, hc5⟩ := HTC.out (k - 1) (by omega)
          rw [hg4] at hg5
          injection hg5 with hg5
          injection hg5 with hg5
          subst hg5
          exact hc5 Z HZ.out
        subst hg4
        obtain ⟨tk, htk⟩ : ∃ z, (tg x.toks k).1 = z := ⟨_, rfl⟩
        obtain ⟨tp, htp⟩ : ∃ z, (tg x.toks (k - 1)).1 = z := ⟨_, rfl⟩
        rw [htk] at T0 hop2 hin2
        rw [htp] at T1 hin2
        obtain ⟨op, hop'⟩ : ∃ z, m.opn = z := ⟨_, rfl⟩
        rw [hop'] at M1 hop2
        have hkw : IntKind.i64.wrap ((k : Int) + 1) = (k : Int) + 1 := IntWalk.i64_in ((k : Int) + 1) (by have := HNB.out; omega)
        have HREL : Hid (k0' ≤ k + 1 ∧ ((k + 1 : Nat) : Int) ≤ max (k0' : Int) y1 ∧ k < n) := Lib.hid ⟨by omega, by omega, hkn⟩
        clear hc4 hm hmc hop hin htk htp hop'
        by_cases ho : 0 < op
        · obtain ⟨n19, n20, n21⟩ := hop2 ho
          have b19 : (tk == 19) = false := by simpa using n19
          have b20 : (tk == 20) = false := by simpa using n20
          have b21 : (tk == 21) = false := by simpa using n21
          clear T1 hin2 hop2
          by_cases hk0 : 0 < k
          · have hkp : (0 : Int) < (k : Int) := by omega
            go_wp2_with fail
            go_roundw
            case rel => exact ⟨k + 1, by go_num, HREL.out.1, HREL.out.2.1, HZ⟩
            case measure => have := HREL.out.2.2; first | (simp [intOf]; done) | (simp [intOf]; omega)
          · have hkp : ¬ (0 : Int) < (k : Int) := by omega
            go_wp2_with fail
            go_roundw
            case rel => exact ⟨k + 1, by go_num, HREL.out.1, HREL.out.2.1, HZ⟩
            case measure => have := HREL.out.2.2; first | (simp [intOf]; done) | (simp [intOf]; omega)
        · clear hop2
          by_cases h20 : tk = 20
          · subst h20
            have t20 : ((20 : Int) == 20) = true := rfl
            by_cases hk0 : 0 < k
            · have hkp : (0 : Int) < (k : Int) := by omega
              obtain rfl := hin2 hk0 rfl
              have T1' := T1 hk0
              obtain ⟨q, rfl⟩ : ∃ q, k = q + 1 := ⟨k - 1, by omega⟩
              rw [Nat.add_sub_cancel] at T1'
              have hp1 : ((q + 1 : Nat) : Int) - 1 = (q : Int) := by omega
              have hq0 : ¬ (q : Int) < 0 := by omega
              have hqn : (q : Int) < (n : Int) := by omega
              have t19 : ((19 : Int) != 19) = false := rfl
              have hs1 : (q : Int) + 1 < y1 := by omega
              have hqb : q ≤ 9223372036854775806 := by have := HNB.out; omega
              have hs2 : (q : Int) + 1 < (n : Int) := by omega
              have hs3 : ¬ ((q : Int) + 1 < 0) := by omega
              have hs4 : (0 : Int) < (q : Int) + 1 := by omega
              have hs5 : IntKind.i64.wrap ((q : Int) + 1 + 1) = (q : Int) + 1 + 1 := IntWalk.i64_in ((q : Int) + 1 + 1) (by have := HNB.out; omega)
              clear T1 hin2
              go_wp2_with fail
              go_roundw
              case rel => exact ⟨q + 1 + 1, by go_num, HREL.out.1, HREL.out.2.1, HZ⟩
              case measure => have := HREL.out.2.2; first | (simp [intOf]; done) | (simp [intOf]; omega)
            · have hkp : ¬ (0 : Int) < (k : Int) := by omega
              clear T1 hin2
              go_wp2_with fail
              go_roundw
              case rel => exact ⟨k + 1, by go_num, HREL.out.1, HREL.out.2.1, HZ⟩
              case measure => have := HREL.out.2.2; first | (simp [intOf]; done) | (simp [intOf]; omega)
          · have t20 : (tk == 20) = false := by simpa using h20
            clear T1 hin2
            by_cases hk0 : 0 < k
            · have hkp : (0 : Int) < (k : Int) := by omega
              go_wp2_with fail
              go_roundw
              case rel => exact ⟨k + 1, by go_num, HREL.out.1, HREL.out.2.1, HZ⟩
              case measure => have := HREL.out.2.2; first | (simp [intOf]; done) | (simp [intOf]; omega)
            · have hkp : ¬ (0 : Int) < (k : Int) := by omega
              go_wp2_with fail
              go_roundw
              case rel => exact ⟨k + 1, by go_num, HREL.out.1, HREL.out.2.1, HZ⟩
              case measure => have := HREL.out.2.2; first | (simp [intOf]; done) | (simp [intOf]; omega)
      · go_wp2_with fail
        go_roundw
        case rel => exact ⟨i + 1, by go_num, by omega, HZ⟩
        case measure => first | (simp [intOf]; done) | (simp [intOf]; omega)
    · obtain rfl : i = q1.length := by omega
      have hltI : ¬ (q1.length : Int) < (q1.length : Int) := by omega
      go_wp2_with fail
      refine alive_any.mono ?_
      rintro _ w9 ⟨rfl, hb⟩
      have HB3 := Lib.hid (HZ.out.trans (hb.mono HZ.out.size))
      clear hb HZ
      go_wp2_with fail
      go_ret
      exact ⟨rfl, HBY.out.trans (HB3.out.mono HBY.out.size)⟩
end Go.Proofs.Ythbfpnbfiliknaa
