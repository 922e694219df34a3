/- Texts of package regs, one behind the other. -/
import Derived.Test.YtemkppjdfjoipaaProg
import Derived.Test.YtemkppjdfjoipaaIp
import Derived.Test.YtemkppjdfjoipaaU43
import Derived.Test.YtemkppjdfjoipaaU38
import Derived.Test.YtemkppjdfjoipaaU45
import Derived.Deep.SlicePairs
import Derived.Deep.Slices
import Derived.Laws.IdiomArrays
import Derived.OpenShut
import Derived.WideBlind
import Derived.Great.BuildSlice
import Derived.WalkKit
import Derived.Maps.OwnSet
import Derived.Maps.OwnOps
import Derived.Maps.Own
import Derived.DeepKeys5
import Derived.BigFrame
import Derived.WalkMore
import Derived.ScopeJumps
import Derived.StillTailTactics
import Derived.Stop.BytesEq
import Derived.WalkLawsBesides
import Derived.WalkSpells
import Derived.Outline
import Derived.Lib.Walk
import Derived.Lib.Hide
import Derived.Lib.Slices
import Derived.Lib.Strings
import Derived.RegionTactic
import Derived.LoopTactic
import Derived.Below
import Derived.IntWalk
import Derived.Deep.QuietTactic
import Derived.BigQuiet
import Derived.Deep.MidRow
import Derived.Maps.AppendAt
import Derived.Laws.Rows
import Derived.Laws.Tables
import Derived.Deep.WholeRow
import Derived.Deep.Cut
import Derived.Deep.CutRange
import Derived.Lib.SliceRun
import Derived.Laws.MakeOwn
import Derived.Deep.RegionLaw
import Derived.Deep.RegionLawGrows
import Derived.Deep.RegionHeld3
import Derived.RegionCalls
import Derived.Deep.RegionWith
import Derived.Deep.Light
import Derived.Laws.CopyOwn
import Derived.Laws.ResultCell
section
/- SameMarks, SameLexed -/
namespace Go.Proofs.Ytemkppjdfjoipaa.I1.X
set_option linter.unusedSimpArgs false
set_option linter.unusedVariables false
set_option maxRecDepth 100000
open Go.RowKit
/- SameMarks, SameLexed: of lists that say the same. -/
set_option maxHeartbeats 8000000 in
theorem samemarks_any {M N : Nat} {w : World} {ms : List Mk} {p p' : Option Addr} {c c' : Nat} (hM : M ≤ w.heap.size) (hN : N ≤ w.heap.size) (h : MV (Lt M) w ms (.slice p ms.length c)) (h' : MV (Lt N) w ms (.slice p' ms.length c')) (hl : ms.length ≤ 9223372036854775806) (hcl : ∀ m ∈ ms, m.cols.length ≤ 9223372036854775806) :
    Calls Try.prog 34 #[.slice p ms.length c, .slice p' ms.length c'] w fun e w' => e = .returned (.bool true) ∧ Below w.heap.size w w' := by
  have H := Lib.hid h
  have H' := Lib.hid h'
  have HCL := Lib.hid hcl
  have S0 := Lib.hid (Below.refl w.heap.size w)
  have hnI : ((ms.length : Int) != (ms.length : Int)) = false := by simp
  clear h h' hcl
  obtain ⟨n, hn1⟩ : ∃ n, ms.length = n := ⟨_, rfl⟩
  have HN1 := Lib.hid hn1
  rw [hn1] at H H' hl hnI ⊢
  clear hn1
  go_enter Try.func34, Try.ntmps34
  go_wp2_with fail
  go_loopw [5] (fun i wr => ∃ j : Nat, i = .int .i64 (j : Nat) ∧ j ≤ n ∧ Hid (Below w.heap.size w wr)) (fun i _ => n - (intOf i).toNat)
  case atStart => exact ⟨0, rfl, by omega, S0⟩
  case round =>
    clear S0
    obtain ⟨j, rfl, hj, HS⟩ := hrel
    obtain ⟨wo, rfl⟩ : ∃ wo : World, wo = wr := ⟨_, rfl⟩
    by_cases hlt : j < n
    · have hj1 : j < ms.length := by rw [HN1.out]; exact hlt
      have hH := H.out
      have hH' := H'.out
      obtain ⟨-, b1, o1, q1, f1, rfl, hb1, iv1, m0_, m1_, m2_, m3_, m4_⟩ := mv_get hH hj1
      obtain ⟨-, b2, o2, q2, f2, rfl, hb2, iv2, n0_, n1_, n2_, n3_, n4_⟩ := mv_get hH' hj1
      have hk : ∀ (z : World), Below w.heap.size w z → ∀ (b o : Nat) (v : Value), b < w.heap.size → w.cell? ⟨b, o, none⟩ = some v → z.cell? ⟨b, o, none⟩ = some v := fun z hz b o v hb h => (cell_same (hz.block b hb) _).trans h
      have hb1' : b1 < w.heap.size := Nat.lt_of_lt_of_le hb1 hM
      have hb2' : b2 < w.heap.size := Nat.lt_of_lt_of_le hb2 hN
      have hcl := HCL.out ms[j] (List.getElem_mem _)
      obtain ⟨m, hm⟩ : ∃ m, ms[j] = m := ⟨_, rfl⟩
      rw [hm] at iv1 iv2 m0_ m1_ m2_ m3_ m4_ n0_ n1_ n2_ n3_ n4_ hcl
      have HK := Lib.hid hk
      have HSK : Hid (∀ z, Below w.heap.size w z → Calls Try.prog 36 #[.agg #[.slice q1 m.cols.length f1, .int .i64 m.opn, .int .i64 m.col, .bool m.fresh, .int .i64 m.lead], .agg #[.slice q2 m.cols.length f2, .int .i64 m.opn, .int .i64 m.col, .bool m.fresh, .int .i64 m.lead]] z fun e w' => e = .returned (.bool true) ∧ Below z.heap.size z w') := Lib.hid fun z hz =>
        samemark_any (D := Lt M) (E := Lt N) (w := z) (m := m) hcl (fun b (hb : b < M) => Nat.lt_of_lt_of_le (Nat.lt_of_lt_of_le hb hM) hz.size) (fun b (hb : b < N) => Nat.lt_of_lt_of_le (Nat.lt_of_lt_of_le hb hN) hz.size) (iv1.mono (fun b h => h) (fun b (hb : b < M) _ => hz.block b (Nat.lt_of_lt_of_le hb hM))) (iv2.mono (fun b h => h) (fun b (hb : b < N) _ => hz.block b (Nat.lt_of_lt_of_le hb hN)))
      have HC1 := Lib.hid (And.intro m0_ (And.intro m1_ (And.intro m2_ (And.intro m3_ m4_))))
      have HC2 := Lib.hid (And.intro n0_ (And.intro n1_ (And.intro n2_ (And.intro n3_ n4_))))
      obtain ⟨lm, hlm⟩ : ∃ l, m.cols.length = l := ⟨_, rfl⟩
      rw [hlm] at HSK HC1 HC2
      have hjI : (j : Int) < (n : Int) := by omega
      have hj0 : ¬ (j : Int) < 0 := by omega
      clear m0_ m1_ m2_ m3_ m4_ n0_ n1_ n2_ n3_ n4_ iv1 iv2 hm hcl hj1 hlm hH hH' hk H H'
      go_upto_region 6 with fail
      have HS7 : Hid ((fun z => Below w.heap.size w z) wo.drew) := Lib.hid (below_drewN HS.out 1)
      refine wp_region_held_drew (S := fun z => Below w.heap.size w z) (by kernel_rfl) HS7.out (fun hHeld => ?_)
      refine wpAnyH_take (i := 0) (v := .slice (some ⟨b1, o1, none⟩) n c) rfl (by kernel_rfl) (by kernel_rfl) (by kernel_rfl) (fun _ _ _ h => h) (Or.inl ⟨by rfl, by (intro w hSw; (try dsimp only at hSw); go_simp)⟩) hHeld ?_
      (try simp only [Act.put, List.getElem_toArray, List.getElem_cons_zero, List.getElem_cons_succ, List.setIfInBounds_toArray, List.set_cons_zero, List.set_cons_succ])
      refine wpAnyH_take (i := 1) (v := .int .i64 (j : Nat)) rfl (by kernel_rfl) (by kernel_rfl) (by kernel_rfl) (fun _ _ _ h => h) (Or.inl ⟨by rfl, by (intro w hSw; (try dsimp only at hSw); go_simp)⟩) hHeld ?_
      (try simp only [Act.put, List.getElem_toArray, List.getElem_cons_zero, List.getElem_cons_succ, List.setIfInBounds_toArray, List.set_cons_zero, List.set_cons_succ])
      refine wpAnyH_take (i := 2) (v := .pointer (some ⟨b1, o1 + j * 5, none⟩)) rfl (by kernel_rfl) (by kernel_rfl) (by kernel_rfl) (fun _ _ _ h => h) (Or.inl ⟨by rfl, by (intro w hSw; (try dsimp only at hSw); go_simp)⟩) hHeld ?_
      (try simp only [Act.put, List.getElem_toArray, List.getElem_cons_zero, List.getElem_cons_succ, List.setIfInBounds_toArray, List.set_cons_zero, List.set_cons_succ])
      refine wpAnyH_take (i := 3) (v := .agg #[.slice q1 lm f1, .int .i64 m.opn, .int .i64 m.col, .bool m.fresh, .int .i64 m.lead]) rfl (by kernel_rfl) (by kernel_rfl) (by kernel_rfl) (fun _ _ _ h => h) (Or.inl ⟨by rfl, (by intro w9 hSw; (try dsimp only at hSw); have c0 := HK.out w9 hSw b1 _ _ hb1' HC1.out.1; have c1 := HK.out w9 hSw b1 _ _ hb1' HC1.out.2.1; have c2 := HK.out w9 hSw b1 _ _ hb1' HC1.out.2.2.1; have c3 := HK.out w9 hSw b1 _ _ hb1' HC1.out.2.2.2.1; have c4 := HK.out w9 hSw b1 _ _ hb1' HC1.out.2.2.2.2; go_simp)⟩) hHeld ?_
      (try simp only [Act.put, List.getElem_toArray, List.getElem_cons_zero, List.getElem_cons_succ, List.setIfInBounds_toArray, List.set_cons_zero, List.set_cons_succ])
      refine wpAnyH_take (i := 4) (v := .slice (some ⟨b2, o2, none⟩) n c') rfl (by kernel_rfl) (by kernel_rfl) (by kernel_rfl) (fun _ _ _ h => h) (Or.inl ⟨by rfl, by (intro w hSw; (try dsimp only at hSw); go_simp)⟩) hHeld ?_
      (try simp only [Act.put, List.getElem_toArray, List.getElem_cons_zero, List.getElem_cons_succ, List.setIfInBounds_toArray, List.set_cons_zero, List.set_cons_succ])
      refine wpAnyH_take (i := 5) (v := .int .i64 (j : Nat)) rfl (by kernel_rfl) (by kernel_rfl) (by kernel_rfl) (fun _ _ _ h => h) (Or.inl ⟨by rfl, by (intro w hSw; (try dsimp only at hSw); go_simp)⟩) hHeld ?_
      (try simp only [Act.put, List.getElem_toArray, List.getElem_cons_zero, List.getElem_cons_succ, List.setIfInBounds_toArray, List.set_cons_zero, List.set_cons_succ])
      refine wpAnyH_take (i := 6) (v := .pointer (some ⟨b2, o2 + j * 5, none⟩)) rfl (by kernel_rfl) (by kernel_rfl) (by kernel_rfl) (fun _ _ _ h => h) (Or.inl ⟨by rfl, by (intro w hSw; (try dsimp only at hSw); go_simp)⟩) hHeld ?_
      (try simp only [Act.put, List.getElem_toArray, List.getElem_cons_zero, List.getElem_cons_succ, List.setIfInBounds_toArray, List.set_cons_zero, List.set_cons_succ])
      refine wpAnyH_take (i := 7) (v := .agg #[.slice q2 lm f2, .int .i64 m.opn, .int .i64 m.col, .bool m.fresh, .int .i64 m.lead]) rfl (by kernel_rfl) (by kernel_rfl) (by kernel_rfl) (fun _ _ _ h => h) (Or.inl ⟨by rfl, (by intro w9 hSw; (try dsimp only at hSw); have c0 := HK.out w9 hSw b2 _ _ hb2' HC2.out.1; have c1 := HK.out w9 hSw b2 _ _ hb2' HC2.out.2.1; have c2 := HK.out w9 hSw b2 _ _ hb2' HC2.out.2.2.1; have c3 := HK.out w9 hSw b2 _ _ hb2' HC2.out.2.2.2.1; have c4 := HK.out w9 hSw b2 _ _ hb2' HC2.out.2.2.2.2; go_simp)⟩) hHeld ?_
      (try simp only [Act.put, List.getElem_toArray, List.getElem_cons_zero, List.getElem_cons_succ, List.setIfInBounds_toArray, List.set_cons_zero, List.set_cons_succ])
      refine wpAnyH_ready (rs := [8]) (by kernel_rfl) (by simp) ?_
      refine AllReadyH.cons rfl (fun K hK => ?_) (AllReadyH.nil)
      rw [if_pos (by rfl)]
      go_wp2_with fail
      refine (HSK.out _ HS7.out).mono ?_
      rintro _ y5 ⟨rfl, hb⟩
      have S6 : Hid (Below w.heap.size w y5) := Lib.hid (HS7.out.trans (hb.mono HS7.out.size))
      refine hK.out _ _ S6.out (fun hHeld2 => ?_)
      clear hHeld hK
      have hHeld := hHeld2
      clear hHeld2
      (try simp only [Act.put, List.getElem_toArray, List.getElem_cons_zero, List.getElem_cons_succ, List.setIfInBounds_toArray, List.set_cons_zero, List.set_cons_succ])
      refine wpAnyH_take (i := 9) (v := .bool false) rfl (by kernel_rfl) (by kernel_rfl) (by kernel_rfl) (fun _ _ _ h => h) (Or.inl ⟨by rfl, by (intro w hSw; (try dsimp only at hSw); go_simp)⟩) hHeld ?_
      (try simp only [Act.put, List.getElem_toArray, List.getElem_cons_zero, List.getElem_cons_succ, List.setIfInBounds_toArray, List.set_cons_zero, List.set_cons_succ])
      refine wpAnyH_done (by kernel_rfl) ?_ _
      clear hHeld hb HS7
      go_wp2_with fail
      go_roundw
      case rel => exact ⟨j + 1, by go_num, by omega, S6⟩
      case measure => simp [intOf]; omega
    · obtain rfl : j = n := by omega
      have hjI : ¬ (j : Int) < (j : Int) := by omega
      go_wp2_with fail
      go_ret
      exact ⟨rfl, HS.out⟩
end Go.Proofs.Ytemkppjdfjoipaa.I1.X
end
section
/- Package relex. -/
namespace Go.Proofs.Ytemkppjdfjoipaa.I1.X
set_option linter.unusedSimpArgs false
set_option linter.unusedVariables false
set_option maxRecDepth 100000
open Go.RowKit
/- Marks' cells in a row; strings.Clone; a scan built. -/
theorem colsI_mk {vs : List Value} {ms : List Mk} (h : vs.length = ms.length) {B : Nat} {w0 : World} {L : List It} : MkS B w0 (colsI vs ms ++ L) vs ms := by
  refine ⟨h, fun i h1 h2 => .inr (List.mem_append_left _ ?_)⟩
  have hl : i < (colsI vs ms).length := by unfold colsI; rw [List.length_zipWith]; omega
  have : (colsI vs ms)[i] = rI vs[i] ms[i].cols := by simp [colsI]
  rw [← this]; exact List.getElem_mem hl
end Go.Proofs.Ytemkppjdfjoipaa.I1.X
end
