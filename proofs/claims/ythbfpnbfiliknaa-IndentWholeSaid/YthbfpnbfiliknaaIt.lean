/- Package indent. -/
import Derived.Test.YthbfpnbfiliknaaProg
import Derived.Test.YthbfpnbfiliknaaIt0
import Derived.Great.BuildSlice
import Derived.WalkKit
import Derived.Maps.OwnSet
import Derived.Maps.OwnOps
import Derived.Maps.Own
import Derived.DeepKeys5
import Derived.BigFrame
import Derived.WalkMore
import Derived.ScopeJumps
import Derived.StillTailTactics
import Derived.Stop.BytesEq
import Derived.WalkLawsBesides
import Derived.WalkSpells
import Derived.Outline
import Derived.Lib.Walk
import Derived.Lib.Hide
import Derived.Lib.Slices
import Derived.Lib.Strings
import Derived.RegionTactic
import Derived.LoopTactic
import Derived.Below
import Derived.IntWalk
import Derived.Deep.QuietTactic
import Derived.BigQuiet
import Derived.Deep.MidRow
import Derived.Maps.AppendAt
import Derived.Laws.Rows
import Derived.Laws.Tables
import Derived.Deep.WholeRow
import Derived.Deep.Cut
import Derived.Deep.CutRange
import Derived.Lib.SliceRun
import Derived.Laws.MakeOwn
import Derived.Deep.RegionLaw
import Derived.Deep.RegionLawGrows
import Derived.Deep.RegionHeld3
import Derived.RegionCalls
import Derived.Deep.RegionWith
import Derived.Deep.Light
import Derived.Laws.CopyOwn
import Derived.Laws.ResultCell
namespace Go.Proofs.Ythbfpnbfiliknaa
set_option linter.unusedSimpArgs false
set_option linter.unusedVariables false
set_option maxRecDepth 100000
open Go.RowKit
/- IndentWhole. -/
theorem zero35 : ∀ w, (zeroValue 35).run Try.prog w = .ok (.agg #[.int .i64 0, .int .i64 0, .int .i64 0]) w := (zero_of_info (show (Try.prog.info? 35).map (fun i => (i.zero, i.size)) = some (some (.agg #[.int .i64 0, .int .i64 0, .int .i64 0]), 3) by kernel_rfl)).1
set_option maxHeartbeats 32000000 in
theorem whole_any {D : Nat → Prop} {w : World} {s : ByteArray} {l : List Rw} {p : Option Addr} {c : Nat} (hl : l.length ≤ 9223372036854775806) (hss : s.size ≤ 9223372036854775806) (hD : ∀ b, D b → b < w.heap.size) (hrw : RW D w l (.slice p l.length c)) :
    Calls Try.prog 6 #[.string s, .slice p l.length c] w fun e w' => e = .returned (.bool true) ∧ Below w.heap.size w w' := by
  have HI := Lib.hid hrw
  have HD := Lib.hid hD
  have S0 := Lib.hid (Below.refl w.heap.size w)
  clear hrw hD
  by_cases hlong : 2000 < l.length
  · have hI : (2000 : Int) < (l.length : Int) := by omega
    go_enter Try.func6, Try.ntmps6
    go_wp2_with fail
    go_ret
    exact ⟨rfl, S0.out⟩
  have hI : ¬ (2000 : Int) < (l.length : Int) := by omega
  have hl2 : l.length ≤ 2000 := by omega
  have HK0 : Hid (∀ i (h : i < l.length), i < 0 → l[i].1 ≠ 20 ∧ l[i].1 ≠ 21 ∧ l[i].1 ≠ 22) := Lib.hid fun i _ h => by omega
  go_enter Try.func6, Try.ntmps6
  go_wp2_with fail
  go_loopw [5] (fun i wr => ∃ j : Nat, i = .int .i64 (j : Nat) ∧ j ≤ l.length ∧ Hid (∀ i (h : i < l.length), i < j → l[i].1 ≠ 20 ∧ l[i].1 ≠ 21 ∧ l[i].1 ≠ 22) ∧ wr = w) (fun i _ => l.length - (intOf i).toNat)
  case atStart => exact ⟨0, rfl, by omega, HK0, rfl⟩
  case round =>
  clear HK0
  obtain ⟨j, rfl, hj, HK, rfl⟩ := hrel
  by_cases hlt : j < l.length
  · have hltI : (j : Int) < (l.length : Int) := by omega
    have hjI : ¬ (j : Int) < 0 := by omega
    obtain ⟨p', c', he, -, hh⟩ := HI.out
    injection he with e1 e2 e3
    subst e1 e3
    obtain ⟨b, o, rfl, hDb, hc⟩ := hh (by intro e; rw [e] at hlt; simp at hlt)
    obtain ⟨g0, -, -⟩ := rwL_get l j hlt
    have c0 := hc _ _ g0
    obtain ⟨k, hx⟩ : ∃ z, l[j].1 = z := ⟨_, rfl⟩
    rw [hx] at c0
    have HX := Lib.hid hx
    clear hh hc g0 hx e2
    by_cases h20 : k = 20
    · subst h20
      go_wp2_with fail
      refine alive_any.mono ?_
      rintro _ w9 ⟨rfl, hb⟩
      have HB := Lib.hid hb
      clear hb
      go_wp2_with fail
      go_ret
      exact ⟨rfl, HB.out⟩
    have k20 : (k == 20) = false := by simpa using h20
    by_cases h21 : k = 21
    · subst h21
      go_wp2_with fail
      refine alive_any.mono ?_
      rintro _ w9 ⟨rfl, hb⟩
      have HB := Lib.hid hb
      clear hb
      go_wp2_with fail
      go_ret
      exact ⟨rfl, HB.out⟩
    have k21 : (k == 21) = false := by simpa using h21
    by_cases h22 : k = 22
    · subst h22
      go_wp2_with fail
      refine alive_any.mono ?_
      rintro _ w9 ⟨rfl, hb⟩
      have HB := Lib.hid hb
      clear hb
      go_wp2_with fail
      go_ret
      exact ⟨rfl, HB.out⟩
    have k22 : (k == 22) = false := by simpa using h22
    have HK2 : Hid (∀ i (h : i < l.length), i < j + 1 → l[i].1 ≠ 20 ∧ l[i].1 ≠ 21 ∧ l[i].1 ≠ 22) := Lib.hid fun i h hi => by
      by_cases e : i = j
      · subst e; rw [HX.out]; exact ⟨h20, h21, h22⟩
      · exact HK.out i h (by omega)
    go_wp2_with fail
    go_roundw
    case rel => exact ⟨j + 1, by go_num, by omega, HK2, by first | rfl | trivial⟩
    case measure => simp [intOf]; omega
  · obtain rfl : j = l.length := by omega
    obtain ⟨WR0, rfl⟩ : ∃ W : World, W = wr := ⟨_, rfl⟩
    have hltI : ¬ (l.length : Int) < (l.length : Int) := by omega
    have HKG : Hid (∀ r ∈ l, r.1 ≠ 20 ∧ r.1 ≠ 21 ∧ r.1 ≠ 22) := Lib.hid fun r hr => by
      obtain ⟨i, hi, rfl⟩ := List.mem_iff_getElem.1 hr
      exact HK.out i hi hi
    clear HK
    have HALL := Lib.hid (all_any (B := WR0.heap.size) (w0 := WR0) (w := WR0) (XX := []) (s := s) (lst := l) (by omega) hss HD.out HI.out (Sep.start WR0))
    obtain ⟨⟨⟨q1, x⟩, q5⟩, hQ⟩ : ∃ z, allQ s l = z := ⟨_, rfl⟩
    rw [hQ] at HALL
    have HQ := Lib.hid hQ
    clear hQ
    go_wp2_with fail
    refine HALL.out.mono ?_
    rintro _ w2 ⟨v1, v2, v3, v4, vs, rfl, hvs, hs2⟩
    simp only [] at hvs hs2 ⊢
    obtain ⟨p1, c1, rfl⟩ := row_form hs2.at
    obtain ⟨p2, c2, rfl⟩ := row_form hs2.tl.at
    obtain ⟨p3, c3, rfl⟩ := row_form hs2.tl.tl.at
    obtain ⟨p4, c4, rfl⟩ := row_form hs2.tl.tl.tl.at
    obtain ⟨b6, hb6⟩ : ∃ b, w2.heap.size = b := ⟨_, rfl⟩
    have S2 := Lib.hid (hs2.allocAt hb6 (.cells #[.slice p1 q1.length c1, .slice p2 x.marks.length c2, .slice p3 x.counts.length c3, .slice p4 x.toks.length c4] 46))
    have HVS := Lib.hid hvs
    clear hs2 hvs HALL
    go_upto_region 9 with fail
    refine at_world (fun y => Sep WR0.heap.size WR0 y (bxL b6 #[.slice p1 q1.length c1, .slice p2 x.marks.length c2, .slice p3 x.counts.length c3, .slice p4 x.toks.length c4] :: rR (.slice p1 q1.length c1) q1 :: rM (.slice p2 x.marks.length c2) vs x.marks :: rI (.slice p3 x.counts.length c3) x.counts :: rT (.slice p4 x.toks.length c4) x.toks :: (colsI vs x.marks ++ []))) S2.out fun y hy => ?_
    have S3 := Lib.hid hy
    clear S2 hy hb6
    by_cases hq5 : q5 = 0
    case neg =>
      have hq5I : (q5 != 0) = true := by simpa using hq5
      go_wp2_with fail
      refine alive_any.mono ?_
      rintro _ w9 ⟨rfl, hb⟩
      have HB := Lib.hid (S3.out.up hb).bel
      clear hb S3
      go_wp2_with fail
      go_ret
      exact ⟨rfl, HB.out⟩
    subst hq5
    obtain ⟨hq1, hwf, hsz⟩ := wf_all HQ.out HKG.out
    simp only [] at hq1 hwf
    subst hq1
    have HWF := Lib.hid hwf
    have HSZ := Lib.hid hsz
    clear hwf hsz HQ HKG
    obtain ⟨T, ld, hT, hT22⟩ := HWF.out.last
    have hlen : x.toks.length = T.length + 1 := by rw [hT]; simp
    obtain ⟨n, hn⟩ : ∃ n, T.length = n := ⟨_, rfl⟩
    rw [hn] at hlen
    have hlast := rwL_get x.toks n (by omega)
    have hat : x.toks[n]'(by omega) = (22, ld, 0) := by simp [hT, ← hn]
    rw [hat] at hlast
    have HT := Lib.hid (And.intro hT (And.intro hT22 hn))
    have HLN := Lib.hid hlen
    have HLM := Lib.hid (And.intro HWF.out.lm HWF.out.lc)
    have S4 : Hid (Sep WR0.heap.size WR0 y (bxL b6 #[.slice p1 q1.length c1, .slice p2 (q1.length + 1) c2, .slice p3 (q1.length + 1) c3, .slice p4 (n + 1) c4] :: rR (.slice p1 q1.length c1) q1 :: rM (.slice p2 (q1.length + 1) c2) vs x.marks :: rI (.slice p3 (q1.length + 1) c3) x.counts :: rT (.slice p4 (n + 1) c4) x.toks :: (colsI vs x.marks ++ []))) := Lib.hid (by
      have h := S3.out
      rw [HLM.out.1, HLM.out.2, hlen] at h
      exact h)
    have hrowT : y.ownsRow WR0.heap.size 35 3 (.slice p4 (n + 1) c4) x.toks.length (rwL x.toks) := S4.out.tl.tl.tl.tl.at
    have hrowI : y.ownsRow WR0.heap.size 3 1 (.slice p3 (q1.length + 1) c3) x.counts.length (zi x.counts) := S4.out.tl.tl.tl.at
    obtain ⟨g4, k4, hv4, -⟩ := row_own hrowT (by omega)
    injection hv4 with e4 e5 e6
    subst e4
    obtain ⟨g3, k3, hv3, -⟩ := row_own hrowI (by rw [HLM.out.2]; omega)
    injection hv3 with e7 e8 e9
    subst e7
    have HNB : Hid (n ≤ 9223372036854775806) := Lib.hid (by have := row_max hrowT; unfold maxLen at this; omega)
    have HTC : Hid (∀ j u, (rwL x.toks)[j]? = some u → ∀ z : World, z.heap[g4]? = y.heap[g4]? → z.cell? ⟨g4, j, none⟩ = some u) := Lib.hid fun j u hu z hz => (cell_same hz _).trans (by have := hrowT.cells (g := g4) rfl j u hu; rwa [Addr.add_mid, Nat.zero_add] at this)
    have HCC : Hid (∀ i, i < q1.length + 1 → ∀ z : World, z.heap[g3]? = y.heap[g3]? → z.cell? ⟨g3, i, none⟩ = some (.int .i64 (x.counts.getD i 0))) := Lib.hid fun i hi z hz => (cell_same hz _).trans (by
      have hi2 : i < x.counts.length := by rw [HLM.out.2]; exact hi
      have := hrowI.cells (g := g3) rfl i (.int .i64 x.counts[i]) (by simp [zi, hi2])
      rw [Addr.add_mid, Nat.zero_add] at this
      rw [this, getD_lt hi2])
    have d22 := HTC.out _ _ hlast.1 y rfl
    have dc0 := HCC.out 0 (by omega) y rfl
    rw [HWF.out.c0] at dc0
    have HRS := Lib.hid (sameraw_any (w := y) (l := q1) (fun b hb => hb.2.1) (fun b hb => Nat.lt_of_lt_of_le (HD.out b hb) S4.out.bel.size) (row_wv S4.out.tl.at) (HI.out.wv.mono (D := D) (E := D) (fun b h => h) (fun b hb _ => S4.out.bel.block b (HD.out b hb))) hl)
    clear S3 hT hT22 hn hlast hat e5 e6 e8 e9
    have k0 : y.cell? ⟨b6, 0, none⟩ = some (.slice p1 q1.length c1) := S4.out.boxAt 0
    have k1 : y.cell? ⟨b6, 1, none⟩ = some (.slice p2 (q1.length + 1) c2) := S4.out.boxAt 1
    have k2 : y.cell? ⟨b6, 2, none⟩ = some (.slice (some ⟨g3, 0, none⟩) (q1.length + 1) c3) := S4.out.boxAt 2
    have k3 : y.cell? ⟨b6, 3, none⟩ = some (.slice (some ⟨g4, 0, none⟩) (n + 1) c4) := S4.out.boxAt 3
    have hp1 : ((n + 1 : Nat) : Int) - 1 = (n : Int) := by omega
    have hn0 : ¬ (n : Int) < 0 := by omega
    have hn1 : (n : Int) < ((n + 1 : Nat) : Int) := by omega
    have hn2 : ¬ ((n + 1 : Nat) : Int) < 1 := by omega
    have h22 : ((22 : Int) != 22) = false := rfl
    have h00 : ((0 : Int) != 0) = false := rfl
    have hll : (((q1.length + 1 : Nat) : Int) != ((q1.length : Int) + 1)) = false := by simp
    have hnb : n ≤ 9223372036854775806 := HNB.out
    clear HLN HLM hrowT hrowI
    go_upto_region 12 with fail
    go_wp2_with fail
    refine HRS.out.mono ?_
    rintro _ w5 ⟨rfl, hb⟩
    have S5 := Lib.hid (S4.out.up hb)
    have HG4 : Hid (w5.heap[g4]? = y.heap[g4]?) := Lib.hid (hb.block g4 (World.ownsRow.lt S4.out.tl.tl.tl.tl.at g4 rfl).2)
    have HG3 : Hid (w5.heap[g3]? = y.heap[g3]?) := Lib.hid (hb.block g3 (World.ownsRow.lt S4.out.tl.tl.tl.at g3 rfl).2)
    have HL4 : Hid (g4 < w5.heap.size ∧ g3 < w5.heap.size) := Lib.hid ⟨(World.ownsRow.lt S5.out.tl.tl.tl.tl.at g4 rfl).2, (World.ownsRow.lt S5.out.tl.tl.tl.at g3 rfl).2⟩
    clear hb S4 HRS k0 k1 k2 k3 d22 dc0
    have dc0 := HCC.out 0 (by omega) w5 HG3.out
    rw [HWF.out.c0] at dc0
    have k0 : w5.cell? ⟨b6, 0, none⟩ = some (.slice p1 q1.length c1) := S5.out.boxAt 0
    have k1 : w5.cell? ⟨b6, 1, none⟩ = some (.slice p2 (q1.length + 1) c2) := S5.out.boxAt 1
    have k2 : w5.cell? ⟨b6, 2, none⟩ = some (.slice (some ⟨g3, 0, none⟩) (q1.length + 1) c3) := S5.out.boxAt 2
    have k3 : w5.cell? ⟨b6, 3, none⟩ = some (.slice (some ⟨g4, 0, none⟩) (n + 1) c4) := S5.out.boxAt 3
    have HS0 : Hid ((0 : Int) + sumT (x.toks.drop 0) = (s.size : Int)) := Lib.hid (by rw [List.drop_zero, HWF.out.sum]; omega)
    have HD0 : Hid (depS 0 (x.toks.drop 0) = some 0) := Lib.hid HWF.out.dep
    have HB0 := Lib.hid (Below.refl w5.heap.size w5)
    have HLE : Hid (x.toks.length = n + 1) := Lib.hid (by rw [HT.out.1]; simp [HT.out.2.2])
    go_upto_region 16 with fail
    go_loopw [9, 10, 11] (fun sm dp i z => ∃ (j : Nat) (sv dv : Int), sm = .int .i64 sv ∧ dp = .int .i64 dv ∧ i = .int .i64 (j : Nat) ∧ j ≤ n + 1 ∧ 0 ≤ sv ∧ 0 ≤ dv ∧ dv ≤ (j : Int) ∧ Hid (sv + sumT (x.toks.drop j) = (s.size : Int)) ∧ Hid (depS dv (x.toks.drop j) = some 0) ∧ Hid (Below w5.heap.size w5 z)) (fun _ _ i _ => n + 1 - (intOf i).toNat)
    case atStart => exact ⟨0, 0, 0, rfl, rfl, rfl, by omega, by omega, by omega, by omega, HS0, HD0, HB0⟩
    case round =>
    clear HS0 HD0 HB0 k0 k1 k2 k3 dc0
    obtain ⟨j, sv, dv, rfl, rfl, rfl, hj, hs0, hd0, hdj, HS, HDP, HB⟩ := hrel
    obtain ⟨z, rfl⟩ : ∃ z : World, z = wr := ⟨_, rfl⟩
    by_cases hlt : j < n + 1
    · have hltI : (j : Int) < ((n + 1 : Nat) : Int) := by omega
      have hjI : ¬ (j : Int) < 0 := by omega
      have SZ := Lib.hid (S5.out.up HB.out)
      have k3 : z.cell? ⟨b6, 3, none⟩ = some (.slice (some ⟨g4, 0, none⟩) (n + 1) c4) := SZ.out.boxAt 3
      have hgz : z.heap[g4]? = y.heap[g4]? := (HB.out.block g4 HL4.out.1).trans HG4.out
      have hjl : j < x.toks.length := by rw [HLE.out]; exact hlt
      obtain ⟨t0, t1, t2⟩ := rwL_get x.toks j hjl
      have e0 := HTC.out _ _ t0 z hgz
      have e1 := HTC.out _ _ t1 z hgz
      have e2 := HTC.out _ _ t2 z hgz
      have HDR : Hid (x.toks.drop j = x.toks[j] :: x.toks.drop (j + 1)) := Lib.hid (List.drop_eq_getElem_cons hjl)
      have H22 : Hid (x.toks[j].1 = 22 → j = n) := Lib.hid (fun e => by
        by_cases h : j < T.length
        · exfalso
          have h2 : x.toks[j] = T[j] := by simp [HT.out.1, List.getElem_append_left h]
          rw [h2] at e
          exact HT.out.2.1 _ (List.getElem_mem h) e
        · have := HT.out.2.2; omega)
      obtain ⟨⟨ta, tb, tc⟩, htk⟩ : ∃ t, x.toks[j] = t := ⟨_, rfl⟩
      rw [htk] at e0 e1 e2 HDR H22
      simp only [] at e0 e1 e2 H22
      rw [HDR.out] at HS HDP
      obtain ⟨hd1, hb0', hc0', hrest⟩ := depS_cons HDP.out
      simp only [] at hd1 hb0' hc0' hrest
      have hsr := depS_sum hrest
      have hsum := HS.out
      unfold sumT at hsum
      simp only [] at hsum
      have hszz := HSZ.out
      have HS2 : Hid (sv + tb + tc + sumT (x.toks.drop (j + 1)) = (s.size : Int)) := Lib.hid (by omega)
      have HDP2 := Lib.hid hrest
      have hw1 : IntKind.i64.wrap (sv + tb) = sv + tb := IntWalk.i64_in (sv + tb) (by omega)
      have hw2 : IntKind.i64.wrap (sv + tb + tc) = sv + tb + tc := IntWalk.i64_in (sv + tb + tc) (by omega)
      have HBN := Lib.hid (HB.out.alloc HB.out.size (.cells #[.int .i64 ta, .int .i64 tb, .int .i64 tc] 35))
      have hs2n : 0 ≤ sv + tb + tc := by omega
      have hnb' : ¬ tb < 0 := by omega
      have hnc' : ¬ tc < 0 := by omega
      have hz35 := zero35
      clear t0 t1 t2 hgz HDR HS HDP hrest hsr hsum htk hszz HB SZ hjl
      by_cases h20 : ta = 20
      · subst h20
        have e20 : depN dv 20 = dv + 1 := by simp [depN]
        rw [e20] at hd1 HDP2
        have HDP3 := HDP2
        have hw3 : IntKind.i64.wrap (dv + 1) = dv + 1 := IntWalk.i64_in (dv + 1) (by omega)
        have hdn : ¬ (dv + 1) < 0 := by omega
        go_wp2_with fail
        go_roundw
        case rel => exact ⟨j + 1, sv + tb + tc, (dv + 1), rfl, rfl, by go_num, by omega, by omega, by omega, by omega, HS2, HDP3, HBN⟩
        case measure => first | (simp [intOf]; done) | (simp [intOf]; omega)
      have n20 : (ta == 20) = false := by simpa using h20
      by_cases h21 : ta = 21
      · subst h21
        have e21 : depN dv 21 = dv - 1 := by simp [depN]
        rw [e21] at hd1 HDP2
        have HDP3 := HDP2
        have hw3 : IntKind.i64.wrap (dv - 1) = dv - 1 := IntWalk.i64_in (dv - 1) (by omega)
        have hdn : ¬ (dv - 1) < 0 := by omega
        go_wp2_with fail
        go_roundw
        case rel => exact ⟨j + 1, sv + tb + tc, (dv - 1), rfl, rfl, by go_num, by omega, by omega, by omega, by omega, HS2, HDP3, HBN⟩
        case measure => first | (simp [intOf]; done) | (simp [intOf]; omega)
      have n21 : (ta == 21) = false := by simpa using h21
      have en : depN dv ta = dv := by unfold depN; rw [if_neg h20, if_neg h21]
      rw [en] at hd1 HDP2
      have HDP3 := HDP2
      by_cases h22' : ta = 22
      · subst h22'
        obtain rfl : j = n := H22.out rfl
        have hlast : ¬ ((j : Int) + 1 < ((j + 1 : Nat) : Int)) := by omega
        clear HDP2
        have hdn : ¬ dv < 0 := by omega
        go_wp2_with fail
        go_roundw
        case rel => exact ⟨j + 1, sv + tb + tc, dv, rfl, rfl, by go_num, by omega, by omega, by omega, by omega, HS2, HDP3, HBN⟩
        case measure => first | (simp [intOf]; done) | (simp [intOf]; omega)
      have n22 : (ta == 22) = false := by simpa using h22'
      clear HDP2
      have hdn : ¬ dv < 0 := by omega
      go_wp2_with fail
      go_roundw
      case rel => exact ⟨j + 1, sv + tb + tc, dv, rfl, rfl, by go_num, by omega, by omega, by omega, by omega, HS2, HDP3, HBN⟩
      case measure => first | (simp [intOf]; done) | (simp [intOf]; omega)
    · obtain rfl : j = n + 1 := by omega
      have hltI : ¬ ((n + 1 : Nat) : Int) < ((n + 1 : Nat) : Int) := by omega
      have hdr : x.toks.drop (n + 1) = [] := List.drop_eq_nil_of_le (by rw [HLE.out]; omega)
      obtain rfl : sv = (s.size : Int) := by have := HS.out; rw [hdr] at this; simpa [sumT] using this
      obtain rfl : dv = 0 := by have := HDP.out; rw [hdr] at this; simpa [depS] using this
      clear HS HDP hdr
      have hvm : vs.length = x.marks.length := HVS.out
      have hrowM : w5.ownsRow WR0.heap.size 24 5 (.slice p2 (q1.length + 1) c2) x.marks.length (mkL vs x.marks) := S5.out.tl.tl.at
      obtain ⟨g2, k2', hv2, -⟩ := row_own hrowM (by rw [HWF.out.lm]; omega)
      injection hv2 with e10 e11 e12
      subst e10
      have HMK : Hid (∀ i (hi : i < x.marks.length), ∃ p q, w5.ownsRow WR0.heap.size 3 1 (.slice p x.marks[i].cols.length q) x.marks[i].cols.length (zi x.marks[i].cols) ∧ w5.cell? ⟨g2, i * 5, none⟩ = some (.slice p x.marks[i].cols.length q) ∧ w5.cell? ⟨g2, i * 5 + 1, none⟩ = some (.int .i64 x.marks[i].opn) ∧ w5.cell? ⟨g2, i * 5 + 2, none⟩ = some (.int .i64 x.marks[i].col) ∧ w5.cell? ⟨g2, i * 5 + 3, none⟩ = some (.bool x.marks[i].fresh) ∧ w5.cell? ⟨g2, i * 5 + 4, none⟩ = some (.int .i64 x.marks[i].lead)) := Lib.hid fun i hi => mark_at (g := g2) (n := q1.length + 1) (c := c2) S5.out hvm (by simp) (fun y hy => by simp [hy]) hi
      have HL2 : Hid (g2 < w5.heap.size) := Lib.hid (World.ownsRow.lt hrowM g2 rfl).2
      have HLM : Hid (x.marks.length = q1.length + 1) := Lib.hid HWF.out.lm
      have HBX : Hid (w5.heap[b6]? = some (.cells #[.slice p1 q1.length c1, .slice (some ⟨g2, 0, none⟩) (q1.length + 1) c2, .slice (some ⟨g3, 0, none⟩) (q1.length + 1) c3, .slice (some ⟨g4, 0, none⟩) (n + 1) c4] 46 (0, 0))) := Lib.hid S5.out.at.2
      clear hvm hrowM e11 e12
      go_upto_region 31 with fail
      clear HLE HNB
      go_loopw [13] (fun i z => ∃ (j : Nat), i = .int .i64 (j : Nat) ∧ j ≤ q1.length ∧ Hid (Below w5.heap.size w5 z)) (fun i _ => q1.length - (intOf i).toNat)
      case atStart => exact ⟨0, rfl, by omega, HB⟩
      case round =>
      clear HB
      obtain ⟨i, rfl, hi, HB⟩ := hrel
      obtain ⟨W, rfl⟩ : ∃ W : World, W = wr := ⟨_, rfl⟩
      have hbx : W.heap[b6]? = some (.cells #[.slice p1 q1.length c1, .slice (some ⟨g2, 0, none⟩) (q1.length + 1) c2, .slice (some ⟨g3, 0, none⟩) (q1.length + 1) c3, .slice (some ⟨g4, 0, none⟩) (n + 1) c4] 46 (0, 0)) := (HB.out.block b6 (Array.getElem?_eq_some_iff.1 HBX.out).1).trans HBX.out
      have HBXW := Lib.hid hbx
      have hup : ∀ b o v, w5.cell? ⟨b, o, none⟩ = some v → W.cell? ⟨b, o, none⟩ = some v := fun b o v h => (cell_same (HB.out.block b (blk_lt h)) _).trans h
      have HUP := Lib.hid hup
      by_cases hlt : i < q1.length
      · have hltI : (i : Int) < (q1.length : Int) := by omega
        have hiI : ¬ (i : Int) < 0 := by omega
        have hiI2 : (i : Int) < ((q1.length + 1 : Nat) : Int) := by omega
        have hiI3 : ¬ ((i : Int) + 1 < 0) := by omega
        have hiI4 : (i : Int) + 1 < ((q1.length + 1 : Nat) : Int) := by omega
        have hiI5 : ¬ ((q1.length : Int) + 1 ≤ (i : Int)) := by omega
        have hiI6 : ¬ ((q1.length : Int) ≤ (i : Int)) := by omega
        have hiI7 : ¬ ((q1.length : Int) + 1 ≤ (i : Int) + 1) := by omega
        have hiI8 : IntKind.i64.wrap ((i : Int) + 1) = (i : Int) + 1 := IntWalk.i64_in ((i : Int) + 1) (by omega)
        have hiI9 : 0 ≤ (i : Int) + 1 := by omega
        obtain ⟨pm, cm, hmr, m0', m1, m2, m3, m4⟩ := HMK.out i (by rw [HLM.out]; omega)
        have hmay : May (x.marks[i]'(by rw [HLM.out]; omega)) := HWF.out.mks _ (List.getElem_mem _)
        have HMC := Lib.hid (fun (v : World) (hv : Below w5.heap.size w5 v) => may28_any (w := v) (m := x.marks[i]'(by rw [HLM.out]; omega)) (p := pm) (c := cm) (D := fun b => b < w5.heap.size) (by have := hmay.len; omega) (fun b hb => Nat.lt_of_lt_of_le hb hv.size) ((own_iv hmr).mono (fun b h => h.2.1) (fun b h _ => hv.block b h.2.1)))
        rw [may_mayB hmay] at HMC
        obtain ⟨⟨cols, mo, mk', mf, ml⟩, hmm⟩ : ∃ z, x.marks[i]'(by rw [HLM.out]; omega) = z := ⟨_, rfl⟩
        rw [hmm] at HMC m0' m1 m2 m3 m4
        unfold mkA at HMC
        simp only [] at HMC m0' m1 m2 m3 m4
        have M0 := hup _ _ _ m0'
        have M1 := hup _ _ _ m1
        have M2 := hup _ _ _ m2
        have M3 := hup _ _ _ m3
        have M4 := hup _ _ _ m4
        clear hmr hmay hmm m0' m1 m2 m3 m4
        have cu := HWF.out.up i hlt
        have ct := HWF.out.top (i + 1) (by omega)
        rw [HT.out.1] at ct
        simp only [List.length_append, List.length_singleton, HT.out.2.2] at ct
        have K0 := hup _ _ _ (HCC.out i (by omega) w5 HG3.out)
        have K1 := hup _ _ _ (HCC.out (i + 1) (by omega) w5 HG3.out)
        obtain ⟨y0, hy0⟩ : ∃ z, x.counts.getD i 0 = z := ⟨_, rfl⟩
        obtain ⟨y1, hy1⟩ : ∃ z, x.counts.getD (i + 1) 0 = z := ⟨_, rfl⟩
        rw [hy0] at cu K0
        rw [hy1] at cu K1 ct
        have cuI : ¬ y1 < y0 := by omega
        have ctI : ¬ ((n + 1 : Nat) : Int) ≤ y1 := by omega
        have ctI2 : y1 < (n : Int) + 1 := by omega
        have ctI3 : ¬ ((n : Int) + 1 ≤ y1) := by omega
        clear cu ct hy0 hy1
        go_upto_region 33 with fail
        refine wp_region_held_drew (S := fun v => Below W.heap.size W v) (by kernel_rfl) ((Below.refl W.heap.size W).drew) (fun hHeld => ?_)
        refine wpAnyH_take (i := 0) (v := (.pointer (some ⟨b6, 1, none⟩))) rfl (by kernel_rfl) (by kernel_rfl) (by kernel_rfl) (fun _ _ _ h => h) (Or.inl ⟨by rfl, by (intro w hSw; (try dsimp only at hSw); go_simp)⟩) hHeld ?_
        (try simp only [Act.put, List.getElem_toArray, List.getElem_cons_zero, List.getElem_cons_succ, List.setIfInBounds_toArray, List.set_cons_zero, List.set_cons_succ])
        refine wpAnyH_take (i := 1) (v := (.slice (some ⟨g2, 0, none⟩) (q1.length + 1) c2)) rfl (by kernel_rfl) (by kernel_rfl) (by kernel_rfl) (fun _ _ _ h => h) (Or.inl ⟨by rfl, by (intro w hSw; have qb : w.heap[b6]? = some (.cells #[.slice p1 q1.length c1, .slice (some ⟨g2, 0, none⟩) (q1.length + 1) c2, .slice (some ⟨g3, 0, none⟩) (q1.length + 1) c3, .slice (some ⟨g4, 0, none⟩) (n + 1) c4] 46 (0, 0)) := (hSw.block b6 (Array.getElem?_eq_some_iff.1 HBXW.out).1).trans HBXW.out; have q1 : w.cell? ⟨b6, 1, none⟩ = some (.slice (some ⟨g2, 0, none⟩) (q1.length + 1) c2) := cell_of_row w b6 1 _ 46 (0, 0) qb; go_simp)⟩) hHeld ?_
        (try simp only [Act.put, List.getElem_toArray, List.getElem_cons_zero, List.getElem_cons_succ, List.setIfInBounds_toArray, List.set_cons_zero, List.set_cons_succ])
        refine wpAnyH_take (i := 2) (v := (.int .i64 (i : Nat))) rfl (by kernel_rfl) (by kernel_rfl) (by kernel_rfl) (fun _ _ _ h => h) (Or.inl ⟨by rfl, by (intro w hSw; (try dsimp only at hSw); go_simp)⟩) hHeld ?_
        (try simp only [Act.put, List.getElem_toArray, List.getElem_cons_zero, List.getElem_cons_succ, List.setIfInBounds_toArray, List.set_cons_zero, List.set_cons_succ])
        refine wpAnyH_take (i := 3) (v := (.pointer (some ⟨g2, i * 5, none⟩))) rfl (by kernel_rfl) (by kernel_rfl) (by kernel_rfl) (fun _ _ _ h => h) (Or.inl ⟨by rfl, by (intro w hSw; (try dsimp only at hSw); go_simp)⟩) hHeld ?_
        (try simp only [Act.put, List.getElem_toArray, List.getElem_cons_zero, List.getElem_cons_succ, List.setIfInBounds_toArray, List.set_cons_zero, List.set_cons_succ])
        refine wpAnyH_take (i := 4) (v := (.agg #[.slice pm cols.length cm, .int .i64 mo, .int .i64 mk', .bool mf, .int .i64 ml])) rfl (by kernel_rfl) (by kernel_rfl) (by kernel_rfl) (fun _ _ _ h => h) (Or.inl ⟨by rfl, by (intro w hSw; have q0 := (cell_same (hSw.block _ (blk_lt M0)) _).trans M0; have q1 := (cell_same (hSw.block _ (blk_lt M1)) _).trans M1; have q2 := (cell_same (hSw.block _ (blk_lt M2)) _).trans M2; have q3 := (cell_same (hSw.block _ (blk_lt M3)) _).trans M3; have q4 := (cell_same (hSw.block _ (blk_lt M4)) _).trans M4; go_simp)⟩) hHeld ?_
        (try simp only [Act.put, List.getElem_toArray, List.getElem_cons_zero, List.getElem_cons_succ, List.setIfInBounds_toArray, List.set_cons_zero, List.set_cons_succ])
        refine wpAnyH_ready (rs := [5]) (by kernel_rfl) (by simp) ?_
        refine AllReadyH.cons rfl (fun K hK => ?_) (AllReadyH.nil)
        rw [if_pos (by rfl)]
        go_wp2_with fail
        refine (HMC.out _ (below_drewN HB.out 1)).mono ?_
        rintro _ w7 ⟨rfl, hb7⟩
        have hb7' : Below W.heap.size W w7 := ((Below.refl W.heap.size W).drew).trans hb7
        refine hK.out _ _ (hb7') (fun hHeld2 => ?_)
        clear hHeld hK
        have hHeld := hHeld2
        clear hHeld2
        (try simp only [Act.put, List.getElem_toArray, List.getElem_cons_zero, List.getElem_cons_succ, List.setIfInBounds_toArray, List.set_cons_zero, List.set_cons_succ])
        refine wpAnyH_take (i := 6) (v := (.bool false)) rfl (by kernel_rfl) (by kernel_rfl) (by kernel_rfl) (fun _ _ _ h => h) (Or.inl ⟨by rfl, by (intro w hSw; (try dsimp only at hSw); go_simp)⟩) hHeld ?_
        (try simp only [Act.put, List.getElem_toArray, List.getElem_cons_zero, List.getElem_cons_succ, List.setIfInBounds_toArray, List.set_cons_zero, List.set_cons_succ])
        refine wpAnyH_take (i := 7) (v := (.bool false)) rfl (by kernel_rfl) (by kernel_rfl) (by kernel_rfl) (fun _ _ _ h => h) (Or.inl ⟨by rfl, by (intro w hSw; (try dsimp only at hSw); go_simp)⟩) hHeld ?_
        (try simp only [Act.put, List.getElem_toArray, List.getElem_cons_zero, List.getElem_cons_succ, List.setIfInBounds_toArray, List.set_cons_zero, List.set_cons_succ])
        refine wpAnyH_take (i := 8) (v := (.pointer (some ⟨b6, 2, none⟩))) rfl (by kernel_rfl) (by kernel_rfl) (by kernel_rfl) (fun _ _ _ h => h) (Or.inl ⟨by rfl, by (intro w hSw; (try dsimp only at hSw); go_simp)⟩) hHeld ?_
        (try simp only [Act.put, List.getElem_toArray, List.getElem_cons_zero, List.getElem_cons_succ, List.setIfInBounds_toArray, List.set_cons_zero, List.set_cons_succ])
        refine wpAnyH_take (i := 9) (v := (.slice (some ⟨g3, 0, none⟩) (q1.length + 1) c3)) rfl (by kernel_rfl) (by kernel_rfl) (by kernel_rfl) (fun _ _ _ h => h) (Or.inl ⟨by rfl, by (intro w hSw; have qb : w.heap[b6]? = some (.cells #[.slice p1 q1.length c1, .slice (some ⟨g2, 0, none⟩) (q1.length + 1) c2, .slice (some ⟨g3, 0, none⟩) (q1.length + 1) c3, .slice (some ⟨g4, 0, none⟩) (n + 1) c4] 46 (0, 0)) := (hSw.block b6 (Array.getElem?_eq_some_iff.1 HBXW.out).1).trans HBXW.out; have q2 : w.cell? ⟨b6, 2, none⟩ = some (.slice (some ⟨g3, 0, none⟩) (q1.length + 1) c3) := cell_of_row w b6 2 _ 46 (0, 0) qb; go_simp)⟩) hHeld ?_
        (try simp only [Act.put, List.getElem_toArray, List.getElem_cons_zero, List.getElem_cons_succ, List.setIfInBounds_toArray, List.set_cons_zero, List.set_cons_succ])
        refine wpAnyH_take (i := 10) (v := (.int .i64 (i : Nat))) rfl (by kernel_rfl) (by kernel_rfl) (by kernel_rfl) (fun _ _ _ h => h) (Or.inl ⟨by rfl, by (intro w hSw; (try dsimp only at hSw); go_simp)⟩) hHeld ?_
        (try simp only [Act.put, List.getElem_toArray, List.getElem_cons_zero, List.getElem_cons_succ, List.setIfInBounds_toArray, List.set_cons_zero, List.set_cons_succ])
        refine wpAnyH_take (i := 11) (v := (.int .i64 ((i : Int) + 1))) rfl (by kernel_rfl) (by kernel_rfl) (by kernel_rfl) (fun _ _ _ h => h) (Or.inl ⟨by rfl, by (intro w hSw; (try dsimp only at hSw); go_simp)⟩) hHeld ?_
        (try simp only [Act.put, List.getElem_toArray, List.getElem_cons_zero, List.getElem_cons_succ, List.setIfInBounds_toArray, List.set_cons_zero, List.set_cons_succ])
        refine wpAnyH_take (i := 12) (v := (.pointer (some ⟨g3, i + 1, none⟩))) rfl (by kernel_rfl) (by kernel_rfl) (by kernel_rfl) (fun _ _ _ h => h) (Or.inl ⟨by rfl, by (intro w hSw; (try dsimp only at hSw); go_simp)⟩) hHeld ?_
        (try simp only [Act.put, List.getElem_toArray, List.getElem_cons_zero, List.getElem_cons_succ, List.setIfInBounds_toArray, List.set_cons_zero, List.set_cons_succ])
        refine wpAnyH_take (i := 13) (v := (.int .i64 y1)) rfl (by kernel_rfl) (by kernel_rfl) (by kernel_rfl) (fun _ _ _ h => h) (Or.inl ⟨by rfl, by (intro w hSw; have q := (cell_same (hSw.block _ (blk_lt K1)) _).trans K1; go_simp)⟩) hHeld ?_
        (try simp only [Act.put, List.getElem_toArray, List.getElem_cons_zero, List.getElem_cons_succ, List.setIfInBounds_toArray, List.set_cons_zero, List.set_cons_succ])
        refine wpAnyH_take (i := 14) (v := (.pointer (some ⟨b6, 2, none⟩))) rfl (by kernel_rfl) (by kernel_rfl) (by kernel_rfl) (fun _ _ _ h => h) (Or.inl ⟨by rfl, by (intro w hSw; (try dsimp only at hSw); go_simp)⟩) hHeld ?_
        (try simp only [Act.put, List.getElem_toArray, List.getElem_cons_zero, List.getElem_cons_succ, List.setIfInBounds_toArray, List.set_cons_zero, List.set_cons_succ])
        refine wpAnyH_take (i := 15) (v := (.slice (some ⟨g3, 0, none⟩) (q1.length + 1) c3)) rfl (by kernel_rfl) (by kernel_rfl) (by kernel_rfl) (fun _ _ _ h => h) (Or.inl ⟨by rfl, by (intro w hSw; have qb : w.heap[b6]? = some (.cells #[.slice p1 q1.length c1, .slice (some ⟨g2, 0, none⟩) (q1.length + 1) c2, .slice (some ⟨g3, 0, none⟩) (q1.length + 1) c3, .slice (some ⟨g4, 0, none⟩) (n + 1) c4] 46 (0, 0)) := (hSw.block b6 (Array.getElem?_eq_some_iff.1 HBXW.out).1).trans HBXW.out; have q2 : w.cell? ⟨b6, 2, none⟩ = some (.slice (some ⟨g3, 0, none⟩) (q1.length + 1) c3) := cell_of_row w b6 2 _ 46 (0, 0) qb; go_simp)⟩) hHeld ?_
        (try simp only [Act.put, List.getElem_toArray, List.getElem_cons_zero, List.getElem_cons_succ, List.setIfInBounds_toArray, List.set_cons_zero, List.set_cons_succ])
        refine wpAnyH_take (i := 16) (v := (.int .i64 (i : Nat))) rfl (by kernel_rfl) (by kernel_rfl) (by kernel_rfl) (fun _ _ _ h => h) (Or.inl ⟨by rfl, by (intro w hSw; (try dsimp only at hSw); go_simp)⟩) hHeld ?_
        (try simp only [Act.put, List.getElem_toArray, List.getElem_cons_zero, List.getElem_cons_succ, List.setIfInBounds_toArray, List.set_cons_zero, List.set_cons_succ])
        refine wpAnyH_take (i := 17) (v := (.pointer (some ⟨g3, i, none⟩))) rfl (by kernel_rfl) (by kernel_rfl) (by kernel_rfl) (fun _ _ _ h => h) (Or.inl ⟨by rfl, by (intro w hSw; (try dsimp only at hSw); go_simp)⟩) hHeld ?_
        (try simp only [Act.put, List.getElem_toArray, List.getElem_cons_zero, List.getElem_cons_succ, List.setIfInBounds_toArray, List.set_cons_zero, List.set_cons_succ])
        refine wpAnyH_take (i := 18) (v := (.int .i64 y0)) rfl (by kernel_rfl) (by kernel_rfl) (by kernel_rfl) (fun _ _ _ h => h) (Or.inl ⟨by rfl, by (intro w hSw; have q := (cell_same (hSw.block _ (blk_lt K0)) _).trans K0; go_simp)⟩) hHeld ?_
        (try simp only [Act.put, List.getElem_toArray, List.getElem_cons_zero, List.getElem_cons_succ, List.setIfInBounds_toArray, List.set_cons_zero, List.set_cons_succ])
        refine wpAnyH_take (i := 19) (v := (.bool false)) rfl (by kernel_rfl) (by kernel_rfl) (by kernel_rfl) (fun _ _ _ h => h) (Or.inl ⟨by rfl, by (intro w hSw; (try dsimp only at hSw); go_simp)⟩) hHeld ?_
        (try simp only [Act.put, List.getElem_toArray, List.getElem_cons_zero, List.getElem_cons_succ, List.setIfInBounds_toArray, List.set_cons_zero, List.set_cons_succ])
        refine wpAnyH_take (i := 20) (v := (.bool false)) rfl (by kernel_rfl) (by kernel_rfl) (by kernel_rfl) (fun _ _ _ h => h) (Or.inl ⟨by rfl, by (intro w hSw; (try dsimp only at hSw); go_simp)⟩) hHeld ?_
        (try simp only [Act.put, List.getElem_toArray, List.getElem_cons_zero, List.getElem_cons_succ, List.setIfInBounds_toArray, List.set_cons_zero, List.set_cons_succ])
        refine wpAnyH_take (i := 21) (v := (.bool false)) rfl (by kernel_rfl) (by kernel_rfl) (by kernel_rfl) (fun _ _ _ h => h) (Or.inl ⟨by rfl, by (intro w hSw; (try dsimp only at hSw); go_simp)⟩) hHeld ?_
        (try simp only [Act.put, List.getElem_toArray, List.getElem_cons_zero, List.getElem_cons_succ, List.setIfInBounds_toArray, List.set_cons_zero, List.set_cons_succ])
        refine wpAnyH_take (i := 22) (v := (.pointer (some ⟨b6, 2, none⟩))) rfl (by kernel_rfl) (by kernel_rfl) (by kernel_rfl) (fun _ _ _ h => h) (Or.inl ⟨by rfl, by (intro w hSw; (try dsimp only at hSw); go_simp)⟩) hHeld ?_
        (try simp only [Act.put, List.getElem_toArray, List.getElem_cons_zero, List.getElem_cons_succ, List.setIfInBounds_toArray, List.set_cons_zero, List.set_cons_succ])
        refine wpAnyH_take (i := 23) (v := (.slice (some ⟨g3, 0, none⟩) (q1.length + 1) c3)) rfl (by kernel_rfl) (by kernel_rfl) (by kernel_rfl) (fun _ _ _ h => h) (Or.inl ⟨by rfl, by (intro w hSw; have qb : w.heap[b6]? = some (.cells #[.slice p1 q1.length c1, .slice (some ⟨g2, 0, none⟩) (q1.length + 1) c2, .slice (some ⟨g3, 0, none⟩) (q1.length + 1) c3, .slice (some ⟨g4, 0, none⟩) (n + 1) c4] 46 (0, 0)) := (hSw.block b6 (Array.getElem?_eq_some_iff.1 HBXW.out).1).trans HBXW.out; have q2 : w.cell? ⟨b6, 2, none⟩ = some (.slice (some ⟨g3, 0, none⟩) (q1.length + 1) c3) := cell_of_row w b6 2 _ 46 (0, 0) qb; go_simp)⟩) hHeld ?_
        (try simp only [Act.put, List.getElem_toArray, List.getElem_cons_zero, List.getElem_cons_succ, List.setIfInBounds_toArray, List.set_cons_zero, List.set_cons_succ])
        refine wpAnyH_take (i := 24) (v := (.int .i64 (i : Nat))) rfl (by kernel_rfl) (by kernel_rfl) (by kernel_rfl) (fun _ _ _ h => h) (Or.inl ⟨by rfl, by (intro w hSw; (try dsimp only at hSw); go_simp)⟩) hHeld ?_
        (try simp only [Act.put, List.getElem_toArray, List.getElem_cons_zero, List.getElem_cons_succ, List.setIfInBounds_toArray, List.set_cons_zero, List.set_cons_succ])
        refine wpAnyH_take (i := 25) (v := (.int .i64 ((i : Int) + 1))) rfl (by kernel_rfl) (by kernel_rfl) (by kernel_rfl) (fun _ _ _ h => h) (Or.inl ⟨by rfl, by (intro w hSw; (try dsimp only at hSw); go_simp)⟩) hHeld ?_
        (try simp only [Act.put, List.getElem_toArray, List.getElem_cons_zero, List.getElem_cons_succ, List.setIfInBounds_toArray, List.set_cons_zero, List.set_cons_succ])
        refine wpAnyH_take (i := 26) (v := (.pointer (some ⟨g3, i + 1, none⟩))) rfl (by kernel_rfl) (by kernel_rfl) (by kernel_rfl) (fun _ _ _ h => h) (Or.inl ⟨by rfl, by (intro w hSw; (try dsimp only at hSw); go_simp)⟩) hHeld ?_
        (try simp only [Act.put, List.getElem_toArray, List.getElem_cons_zero, List.getElem_cons_succ, List.setIfInBounds_toArray, List.set_cons_zero, List.set_cons_succ])
        refine wpAnyH_take (i := 27) (v := (.int .i64 y1)) rfl (by kernel_rfl) (by kernel_rfl) (by kernel_rfl) (fun _ _ _ h => h) (Or.inl ⟨by rfl, by (intro w hSw; have q := (cell_same (hSw.block _ (blk_lt K1)) _).trans K1; go_simp)⟩) hHeld ?_
        (try simp only [Act.put, List.getElem_toArray, List.getElem_cons_zero, List.getElem_cons_succ, List.setIfInBounds_toArray, List.set_cons_zero, List.set_cons_succ])
        refine wpAnyH_take (i := 28) (v := (.int .i64 ((n + 1 : Nat) : Int))) rfl (by kernel_rfl) (by kernel_rfl) (by kernel_rfl) (fun _ _ _ h => h) (Or.inl ⟨by rfl, by (intro w hSw; (try dsimp only at hSw); go_simp)⟩) hHeld ?_
        (try simp only [Act.put, List.getElem_toArray, List.getElem_cons_zero, List.getElem_cons_succ, List.setIfInBounds_toArray, List.set_cons_zero, List.set_cons_succ])
        refine wpAnyH_take (i := 29) (v := (.bool false)) rfl (by kernel_rfl) (by kernel_rfl) (by kernel_rfl) (fun _ _ _ h => h) (Or.inl ⟨by rfl, by (intro w hSw; (try dsimp only at hSw); go_simp)⟩) hHeld ?_
        (try simp only [Act.put, List.getElem_toArray, List.getElem_cons_zero, List.getElem_cons_succ, List.setIfInBounds_toArray, List.set_cons_zero, List.set_cons_succ])
        refine wpAnyH_take (i := 30) (v := (.bool false)) rfl (by kernel_rfl) (by kernel_rfl) (by kernel_rfl) (fun _ _ _ h => h) (Or.inl ⟨by rfl, by (intro w hSw; (try dsimp only at hSw); go_simp)⟩) hHeld ?_
        (try simp only [Act.put, List.getElem_toArray, List.getElem_cons_zero, List.getElem_cons_succ, List.setIfInBounds_toArray, List.set_cons_zero, List.set_cons_succ])
        refine wpAnyH_done (by kernel_rfl) ?_ _
        have HB2 : Hid (Below w5.heap.size w5 w7) := Lib.hid (HB.out.trans (hb7'.mono HB.out.size))
        clear hb7 hb7' HMC M0 M1 M2 M3 M4 K0 K1 HB HUP HBXW
        go_wp2_with fail
        go_roundw
        case rel => exact ⟨i + 1, by go_num, by omega, HB2⟩
        case measure => first | (simp [intOf]; done) | (simp [intOf]; omega)
      · obtain rfl : i = q1.length := by omega
        have hltI : ¬ (q1.length : Int) < (q1.length : Int) := by omega
        have hq1 : ¬ (q1.length : Int) < 0 := by omega
        have hq2 : (q1.length : Int) < ((q1.length + 1 : Nat) : Int) := by omega
        obtain ⟨pm, cm, hmr, m0', m1, m2, m3, m4⟩ := HMK.out q1.length (by rw [HLM.out]; omega)
        have hmay : May (x.marks[q1.length]'(by rw [HLM.out]; omega)) := HWF.out.mks _ (List.getElem_mem _)
        have HMC := Lib.hid (fun (v : World) (hv : Below w5.heap.size w5 v) => may28_any (w := v) (m := x.marks[q1.length]'(by rw [HLM.out]; omega)) (p := pm) (c := cm) (D := fun b => b < w5.heap.size) (by have := hmay.len; omega) (fun b hb => Nat.lt_of_lt_of_le hb hv.size) ((own_iv hmr).mono (fun b h => h.2.1) (fun b h _ => hv.block b h.2.1)))
        rw [may_mayB hmay] at HMC
        obtain ⟨⟨cols, mo, mk', mf, ml⟩, hmm⟩ : ∃ z, x.marks[q1.length]'(by rw [HLM.out]; omega) = z := ⟨_, rfl⟩
        rw [hmm] at HMC m0' m1 m2 m3 m4
        unfold mkA at HMC
        simp only [] at HMC m0' m1 m2 m3 m4
        have M0 := hup _ _ _ m0'
        have M1 := hup _ _ _ m1
        have M2 := hup _ _ _ m2
        have M3 := hup _ _ _ m3
        have M4 := hup _ _ _ m4
        clear hmr hmay hmm m0' m1 m2 m3 m4
        have k1 : W.cell? ⟨b6, 1, none⟩ = some (.slice (some ⟨g2, 0, none⟩) (q1.length + 1) c2) := cell_of_row W b6 1 _ 46 (0, 0) hbx
        have hss2 : (((s.size : Nat) : Int) == (s.size : Int)) = true := by simp
        have h0b : ((0 : Int) == 0) = true := rfl
        clear hbx hup
        go_wp2_with fail
        refine (HMC.out _ HB.out).mono ?_
        rintro _ w7 ⟨rfl, hb⟩
        have HB2 := Lib.hid (HB.out.trans (hb.mono HB.out.size))
        clear hb HMC HB M0 M1 M2 M3 M4 k1
        go_wp2_with fail
        refine alive_any.mono ?_
        rintro _ w9 ⟨rfl, hb⟩
        have HB3 := Lib.hid (HB2.out.trans (hb.mono HB2.out.size))
        clear hb HB2
        go_wp2_with fail
        go_ret
        exact ⟨rfl, S5.out.bel.trans (HB3.out.mono S5.out.bel.size)⟩
end Go.Proofs.Ythbfpnbfiliknaa
