/- Texts of package regs, one behind the other. -/
import Derived.Test.YtemkppjdfjoipaaProg
import Derived.Test.YtemkppjdfjoipaaIp
import Derived.Great.BuildSlice
import Derived.WalkKit
import Derived.Maps.OwnSet
import Derived.Maps.OwnOps
import Derived.Maps.Own
import Derived.DeepKeys5
import Derived.BigFrame
import Derived.WalkMore
import Derived.ScopeJumps
import Derived.StillTailTactics
import Derived.Stop.BytesEq
import Derived.WalkLawsBesides
import Derived.WalkSpells
import Derived.Outline
import Derived.Lib.Walk
import Derived.Lib.Hide
import Derived.Lib.Slices
import Derived.Lib.Strings
import Derived.RegionTactic
import Derived.LoopTactic
import Derived.Below
import Derived.IntWalk
import Derived.Deep.QuietTactic
import Derived.BigQuiet
import Derived.Deep.MidRow
import Derived.Maps.AppendAt
import Derived.Laws.Rows
import Derived.Laws.Tables
import Derived.Deep.WholeRow
import Derived.Deep.Cut
import Derived.Deep.CutRange
import Derived.Lib.SliceRun
import Derived.Laws.MakeOwn
import Derived.Deep.RegionLaw
import Derived.Deep.RegionLawGrows
import Derived.Deep.RegionHeld3
import Derived.RegionCalls
import Derived.Deep.RegionWith
import Derived.Deep.Light
import Derived.Laws.CopyOwn
import Derived.Laws.ResultCell
import Derived.Test.YtemkppjdfjoipaaW34
import Derived.Test.YtemkppjdfjoipaaW26
import Derived.Test.YtemkppjdfjoipaaW39
import Derived.Deep.SlicePairs
import Derived.Deep.Slices
import Derived.Laws.IdiomArrays
import Derived.OpenShut
import Derived.WideBlind
section
/- Package indent. -/
namespace Go.Proofs.Ytemkppjdfjoipaa.I1
set_option linter.unusedSimpArgs false
set_option linter.unusedVariables false
set_option maxRecDepth 100000
open Go.RowKit
/- alive. -/
theorem rw_block {w : World} {b : Nat} {cs : Array Value} {e : TypeId} {l : List Rw} (h : w.heap[b]? = some (.cells cs e (0, 0))) (hc : cs.toList = rwL l) {n : Nat} (hn : l.length = n) : RW (fun x => x = b) w l (.slice (some ⟨b, 0, none⟩) n n) := by
  subst hn
  refine ⟨_, _, rfl, (fun h => by cases h), fun _ => ⟨b, 0, rfl, rfl, fun j u hu => ?_⟩⟩
  rw [Nat.zero_add, cell_of_row w b j cs e (0, 0) h, ← hu, ← hc]; simp
end Go.Proofs.Ytemkppjdfjoipaa.I1
end
section
/- Package indent. -/
namespace Go.Proofs.Ytemkppjdfjoipaa.I1
set_option linter.unusedSimpArgs false
set_option linter.unusedVariables false
set_option maxRecDepth 100000
open Go.RowKit
/- may, May. -/
end Go.Proofs.Ytemkppjdfjoipaa.I1
end
section
/- Package indent. -/
namespace Go.Proofs.Ytemkppjdfjoipaa.I1
set_option linter.unusedSimpArgs false
set_option linter.unusedVariables false
set_option maxRecDepth 100000
open Go.RowKit
/- The document's First and End; twins of marks. -/
end Go.Proofs.Ytemkppjdfjoipaa.I1
end
section
/- Package indent. -/
namespace Go.Proofs.Ytemkppjdfjoipaa.I1
set_option linter.unusedSimpArgs false
set_option linter.unusedVariables false
set_option maxRecDepth 100000
open Go.RowKit
/- The document's Copy and Lead. -/
def CpP (B : Nat) (w0 : World) (X : List It) (m : Mk) (e : Ending) (w' : World) : Prop := ∃ v, e = .returned (.agg (mkA v m)) ∧ Sep B w0 w' (rI v m.cols :: X)
end Go.Proofs.Ytemkppjdfjoipaa.I1
end
section
/- Package indent. -/
namespace Go.Proofs.Ytemkppjdfjoipaa.I1
set_option linter.unusedSimpArgs false
set_option linter.unusedVariables false
set_option maxRecDepth 100000
open Go.RowKit
/- The document's block. -/
theorem Sep.dn {B : Nat} {w0 w : World} {L : List It} (h : Sep B w0 w L) (n : Nat) : Sep B w0 (w.drewN n) L := h.up (below_drewN (Below.refl _ _) n)
end Go.Proofs.Ytemkppjdfjoipaa.I1
end
section
/- Package indent. -/
namespace Go.Proofs.Ytemkppjdfjoipaa.I1
set_option linter.unusedSimpArgs false
set_option linter.unusedVariables false
set_option maxRecDepth 100000
open Go.RowKit
/- The document's Step. -/
theorem It.base {B C : Nat} {w : World} {x : It} (h : x.lies B w) (hc : C ≤ B) : x.lies C w := by
  cases x with
  | box b o => exact ⟨Nat.le_trans hc h.1, h.2⟩
  | row v e size n xs => exact row_base h hc
theorem Sep.join {B : Nat} {w0 w w' : World} {L M : List It} (h : Sep B w0 w L) (h2 : Sep w.heap.size w w' M) : Sep B w0 w' (M ++ L) := by
  refine ⟨h.bel.trans (h2.bel.mono h.sz), Nat.le_trans h.sz h2.bel.size, fun x hx => ?_, List.pairwise_append.2 ⟨h2.ap, h.ap, fun x hx y hy b hb hyb => ?_⟩⟩
  · rcases List.mem_append.1 hx with hx | hx
    · exact It.base (h2.li x hx) h.sz
    · exact (h.up h2.bel).li x hx
  · have h3 := (It.lt (h2.li x hx) hb).1
    have h4 := (It.lt (h.li y hy) hyb).2
    omega
end Go.Proofs.Ytemkppjdfjoipaa.I1
end
section
/- SameMarks, SameLexed -/
namespace Go.Proofs.Ytemkppjdfjoipaa.I1.X
set_option linter.unusedSimpArgs false
set_option linter.unusedVariables false
set_option maxRecDepth 100000
open Go.RowKit
/- SameMarks, SameLexed: of lists that say the same. -/
set_option maxHeartbeats 8000000 in
theorem samemarks_any {M N : Nat} {w : World} {ms : List Mk} {p p' : Option Addr} {c c' : Nat} (hM : M ≤ w.heap.size) (hN : N ≤ w.heap.size) (h : MV (Lt M) w ms (.slice p ms.length c)) (h' : MV (Lt N) w ms (.slice p' ms.length c')) (hl : ms.length ≤ 9223372036854775806) (hcl : ∀ m ∈ ms, m.cols.length ≤ 9223372036854775806) :
    Calls Try.prog 34 #[.slice p ms.length c, .slice p' ms.length c'] w fun e w' => e = .returned (.bool true) ∧ Below w.heap.size w w' := by
  have H := Lib.hid h
  have H' := Lib.hid h'
  have HCL := Lib.hid hcl
  have S0 := Lib.hid (Below.refl w.heap.size w)
  have hnI : ((ms.length : Int) != (ms.length : Int)) = false := by simp
  clear h h' hcl
  obtain ⟨n, hn1⟩ : ∃ n, ms.length = n := ⟨_, rfl⟩
  have HN1 := Lib.hid hn1
  rw [hn1] at H H' hl hnI ⊢
  clear hn1
  go_enter Try.func34, Try.ntmps34
  go_wp2_with fail
  go_loopw [5] (fun i wr => ∃ j : Nat, i = .int .i64 (j : Nat) ∧ j ≤ n ∧ Hid (Below w.heap.size w wr)) (fun i _ => n - (intOf i).toNat)
  case atStart => exact ⟨0, rfl, by omega, S0⟩
  case round =>
    clear S0
    obtain ⟨j, rfl, hj, HS⟩ := hrel
    obtain ⟨wo, rfl⟩ : ∃ wo : World, wo = wr := ⟨_, rfl⟩
    by_cases hlt : j < n
    · have hj1 : j < ms.length := by rw [HN1.out]; exact hlt
      have hH := H.out
      have hH' := H'.out
      obtain ⟨-, b1, o1, q1, f1, rfl, hb1, iv1, m0_, m1_, m2_, m3_, m4_⟩ := mv_get hH hj1
      obtain ⟨-, b2, o2, q2, f2, rfl, hb2, iv2, n0_, n1_, n2_, n3_, n4_⟩ := mv_get hH' hj1
      have hk : ∀ (z : World), Below w.heap.size w z → ∀ (b o : Nat) (v : Value), b < w.heap.size → w.cell? ⟨b, o, none⟩ = some v → z.cell? ⟨b, o, none⟩ = some v := fun z hz b o v hb h => (cell_same (hz.block b hb) _).trans h
      have hb1' : b1 < w.heap.size := Nat.lt_of_lt_of_le hb1 hM
      have hb2' : b2 < w.heap.size := Nat.lt_of_lt_of_le hb2 hN
      have hcl := HCL.out ms[j] (List.getElem_mem _)
      obtain ⟨m, hm⟩ : ∃ m, ms[j] = m := ⟨_, rfl⟩
      rw [hm] at iv1 iv2 m0_ m1_ m2_ m3_ m4_ n0_ n1_ n2_ n3_ n4_ hcl
      have HK := Lib.hid hk
      have HSK : Hid (∀ z, Below w.heap.size w z → Calls Try.prog 36 #[.agg #[.slice q1 m.cols.length f1, .int .i64 m.opn, .int .i64 m.col, .bool m.fresh, .int .i64 m.lead], .agg #[.slice q2 m.cols.length f2, .int .i64 m.opn, .int .i64 m.col, .bool m.fresh, .int .i64 m.lead]] z fun e w' => e = .returned (.bool true) ∧ Below z.heap.size z w') := Lib.hid fun z hz =>
        samemark_any (D := Lt M) (E := Lt N) (w := z) (m := m) hcl (fun b (hb : b < M) => Nat.lt_of_lt_of_le (Nat.lt_of_lt_of_le hb hM) hz.size) (fun b (hb : b < N) => Nat.lt_of_lt_of_le (Nat.lt_of_lt_of_le hb hN) hz.size) (iv1.mono (fun b h => h) (fun b (hb : b < M) _ => hz.block b (Nat.lt_of_lt_of_le hb hM))) (iv2.mono (fun b h => h) (fun b (hb : b < N) _ => hz.block b (Nat.lt_of_lt_of_le hb hN)))
      have HC1 := Lib.hid (And.intro m0_ (And.intro m1_ (And.intro m2_ (And.intro m3_ m4_))))
      have HC2 := Lib.hid (And.intro n0_ (And.intro n1_ (And.intro n2_ (And.intro n3_ n4_))))
      obtain ⟨lm, hlm⟩ : ∃ l, m.cols.length = l := ⟨_, rfl⟩
      rw [hlm] at HSK HC1 HC2
      have hjI : (j : Int) < (n : Int) := by omega
      have hj0 : ¬ (j : Int) < 0 := by omega
      clear m0_ m1_ m2_ m3_ m4_ n0_ n1_ n2_ n3_ n4_ iv1 iv2 hm hcl hj1 hlm hH hH' hk H H'
      go_upto_region 6 with fail
      have HS7 : Hid ((fun z => Below w.heap.size w z) wo.drew) := Lib.hid (below_drewN HS.out 1)
      refine wp_region_held_drew (S := fun z => Below w.heap.size w z) (by kernel_rfl) HS7.out (fun hHeld => ?_)
      refine wpAnyH_take (i := 0) (v := .slice (some ⟨b1, o1, none⟩) n c) rfl (by kernel_rfl) (by kernel_rfl) (by kernel_rfl) (fun _ _ _ h => h) (Or.inl ⟨by rfl, by (intro w hSw; (try dsimp only at hSw); go_simp)⟩) hHeld ?_
      (try simp only [Act.put, List.getElem_toArray, List.getElem_cons_zero, List.getElem_cons_succ, List.setIfInBounds_toArray, List.set_cons_zero, List.set_cons_succ])
      refine wpAnyH_take (i := 1) (v := .int .i64 (j : Nat)) rfl (by kernel_rfl) (by kernel_rfl) (by kernel_rfl) (fun _ _ _ h => h) (Or.inl ⟨by rfl, by (intro w hSw; (try dsimp only at hSw); go_simp)⟩) hHeld ?_
      (try simp only [Act.put, List.getElem_toArray, List.getElem_cons_zero, List.getElem_cons_succ, List.setIfInBounds_toArray, List.set_cons_zero, List.set_cons_succ])
      refine wpAnyH_take (i := 2) (v := .pointer (some ⟨b1, o1 + j * 5, none⟩)) rfl (by kernel_rfl) (by kernel_rfl) (by kernel_rfl) (fun _ _ _ h => h) (Or.inl ⟨by rfl, by (intro w hSw; (try dsimp only at hSw); go_simp)⟩) hHeld ?_
      (try simp only [Act.put, List.getElem_toArray, List.getElem_cons_zero, List.getElem_cons_succ, List.setIfInBounds_toArray, List.set_cons_zero, List.set_cons_succ])
      refine wpAnyH_take (i := 3) (v := .agg #[.slice q1 lm f1, .int .i64 m.opn, .int .i64 m.col, .bool m.fresh, .int .i64 m.lead]) rfl (by kernel_rfl) (by kernel_rfl) (by kernel_rfl) (fun _ _ _ h => h) (Or.inl ⟨by rfl, (by intro w9 hSw; (try dsimp only at hSw); have c0 := HK.out w9 hSw b1 _ _ hb1' HC1.out.1; have c1 := HK.out w9 hSw b1 _ _ hb1' HC1.out.2.1; have c2 := HK.out w9 hSw b1 _ _ hb1' HC1.out.2.2.1; have c3 := HK.out w9 hSw b1 _ _ hb1' HC1.out.2.2.2.1; have c4 := HK.out w9 hSw b1 _ _ hb1' HC1.out.2.2.2.2; go_simp)⟩) hHeld ?_
      (try simp only [Act.put, List.getElem_toArray, List.getElem_cons_zero, List.getElem_cons_succ, List.setIfInBounds_toArray, List.set_cons_zero, List.set_cons_succ])
      refine wpAnyH_take (i := 4) (v := .slice (some ⟨b2, o2, none⟩) n c') rfl (by kernel_rfl) (by kernel_rfl) (by kernel_rfl) (fun _ _ _ h => h) (Or.inl ⟨by rfl, by (intro w hSw; (try dsimp only at hSw); go_simp)⟩) hHeld ?_
      (try simp only [Act.put, List.getElem_toArray, List.getElem_cons_zero, List.getElem_cons_succ, List.setIfInBounds_toArray, List.set_cons_zero, List.set_cons_succ])
      refine wpAnyH_take (i := 5) (v := .int .i64 (j : Nat)) rfl (by kernel_rfl) (by kernel_rfl) (by kernel_rfl) (fun _ _ _ h => h) (Or.inl ⟨by rfl, by (intro w hSw; (try dsimp only at hSw); go_simp)⟩) hHeld ?_
      (try simp only [Act.put, List.getElem_toArray, List.getElem_cons_zero, List.getElem_cons_succ, List.setIfInBounds_toArray, List.set_cons_zero, List.set_cons_succ])
      refine wpAnyH_take (i := 6) (v := .pointer (some ⟨b2, o2 + j * 5, none⟩)) rfl (by kernel_rfl) (by kernel_rfl) (by kernel_rfl) (fun _ _ _ h => h) (Or.inl ⟨by rfl, by (intro w hSw; (try dsimp only at hSw); go_simp)⟩) hHeld ?_
      (try simp only [Act.put, List.getElem_toArray, List.getElem_cons_zero, List.getElem_cons_succ, List.setIfInBounds_toArray, List.set_cons_zero, List.set_cons_succ])
      refine wpAnyH_take (i := 7) (v := .agg #[.slice q2 lm f2, .int .i64 m.opn, .int .i64 m.col, .bool m.fresh, .int .i64 m.lead]) rfl (by kernel_rfl) (by kernel_rfl) (by kernel_rfl) (fun _ _ _ h => h) (Or.inl ⟨by rfl, (by intro w9 hSw; (try dsimp only at hSw); have c0 := HK.out w9 hSw b2 _ _ hb2' HC2.out.1; have c1 := HK.out w9 hSw b2 _ _ hb2' HC2.out.2.1; have c2 := HK.out w9 hSw b2 _ _ hb2' HC2.out.2.2.1; have c3 := HK.out w9 hSw b2 _ _ hb2' HC2.out.2.2.2.1; have c4 := HK.out w9 hSw b2 _ _ hb2' HC2.out.2.2.2.2; go_simp)⟩) hHeld ?_
      (try simp only [Act.put, List.getElem_toArray, List.getElem_cons_zero, List.getElem_cons_succ, List.setIfInBounds_toArray, List.set_cons_zero, List.set_cons_succ])
      refine wpAnyH_ready (rs := [8]) (by kernel_rfl) (by simp) ?_
      refine AllReadyH.cons rfl (fun K hK => ?_) (AllReadyH.nil)
      rw [if_pos (by rfl)]
      go_wp2_with fail
      refine (HSK.out _ HS7.out).mono ?_
      rintro _ y5 ⟨rfl, hb⟩
      have S6 : Hid (Below w.heap.size w y5) := Lib.hid (HS7.out.trans (hb.mono HS7.out.size))
      refine hK.out _ _ S6.out (fun hHeld2 => ?_)
      clear hHeld hK
      have hHeld := hHeld2
      clear hHeld2
      (try simp only [Act.put, List.getElem_toArray, List.getElem_cons_zero, List.getElem_cons_succ, List.setIfInBounds_toArray, List.set_cons_zero, List.set_cons_succ])
      refine wpAnyH_take (i := 9) (v := .bool false) rfl (by kernel_rfl) (by kernel_rfl) (by kernel_rfl) (fun _ _ _ h => h) (Or.inl ⟨by rfl, by (intro w hSw; (try dsimp only at hSw); go_simp)⟩) hHeld ?_
      (try simp only [Act.put, List.getElem_toArray, List.getElem_cons_zero, List.getElem_cons_succ, List.setIfInBounds_toArray, List.set_cons_zero, List.set_cons_succ])
      refine wpAnyH_done (by kernel_rfl) ?_ _
      clear hHeld hb HS7
      go_wp2_with fail
      go_roundw
      case rel => exact ⟨j + 1, by go_num, by omega, S6⟩
      case measure => simp [intOf]; omega
    · obtain rfl : j = n := by omega
      have hjI : ¬ (j : Int) < (j : Int) := by omega
      go_wp2_with fail
      go_ret
      exact ⟨rfl, HS.out⟩
set_option maxHeartbeats 8000000 in
theorem samelx_any {M N : Nat} {w : World} {L : List P3} {x : Lx} {p1 p2 p3 p4 q1 q2 q3 q4 : Option Addr} {c1 c2 c3 c4 f1 f2 f3 f4 : Nat} (hM : M ≤ w.heap.size) (hN : N ≤ w.heap.size) (h : LV M w L x p1 p2 p3 p4 c1 c2 c3 c4) (h' : LV N w L x q1 q2 q3 q4 f1 f2 f3 f4) (h1 : L.length ≤ 1000000) (h2 : x.marks.length ≤ 1000000) (h3 : x.counts.length ≤ 1000000) (h4 : x.toks.length ≤ 1000000000) (hcl : ∀ m ∈ x.marks, m.cols.length ≤ 9223372036854775806) :
    Calls Try.prog 11 #[.agg #[.slice p1 L.length c1, .slice p2 x.marks.length c2, .slice p3 x.counts.length c3, .slice p4 x.toks.length c4], .agg #[.slice q1 L.length f1, .slice q2 x.marks.length f2, .slice q3 x.counts.length f3, .slice q4 x.toks.length f4]] w fun e w' => e = .returned (.bool true) ∧ Below w.heap.size w w' := by
  obtain ⟨b2, hb2⟩ : ∃ b, w.heap.size = b := ⟨_, rfl⟩
  have HBD : Hid (∀ z, Below w.heap.size w z → LV M z L x p1 p2 p3 p4 c1 c2 c3 c4 ∧ LV N z L x q1 q2 q3 q4 f1 f2 f3 f4 ∧ M ≤ z.heap.size ∧ N ≤ z.heap.size) := Lib.hid fun z hz => ⟨h.up (Nat.le_refl _) (hz.mono hM), h'.up (Nat.le_refl _) (hz.mono hN), Nat.le_trans hM hz.size, Nat.le_trans hN hz.size⟩
  have HR : Hid (∀ z, Below w.heap.size w z → Calls Try.prog 24 #[.slice p1 L.length c1, .slice q1 L.length f1] z fun e w' => e = .returned (.bool true) ∧ Below z.heap.size z w') := Lib.hid fun z hz => by
    obtain ⟨a1, a2, a3, a4⟩ := HBD.out z hz
    have e := sameraw_any (D := Lt M) (E := Lt N) (w := z) (l := L.map tR) (p := p1) (p' := q1) (c := c1) (c' := f1) (fun b (hb : b < M) => Nat.lt_of_lt_of_le hb a3) (fun b (hb : b < N) => Nat.lt_of_lt_of_le hb a4) (by rw [List.length_map]; exact RW.wv a1.r) (by rw [List.length_map]; exact RW.wv a2.r) (by rw [List.length_map]; omega)
    rw [List.length_map] at e
    exact e
  have HM' : Hid (∀ z, Below w.heap.size w z → Calls Try.prog 34 #[.slice p2 x.marks.length c2, .slice q2 x.marks.length f2] z fun e w' => e = .returned (.bool true) ∧ Below z.heap.size z w') := Lib.hid fun z hz => by
    obtain ⟨a1, a2, a3, a4⟩ := HBD.out z hz
    exact samemarks_any a3 a4 a1.m a2.m (by omega) hcl
  have HI : Hid (∀ z, Below w.heap.size w z → Calls Try.prog 35 #[.slice p3 x.counts.length c3, .slice q3 x.counts.length f3] z fun e w' => e = .returned (.bool true) ∧ Below z.heap.size z w') := Lib.hid fun z hz => by
    obtain ⟨a1, a2, a3, a4⟩ := HBD.out z hz
    have e := same_any (D := Lt M) (E := Lt N) (w := z) (by omega) (fun b (hb : b < M) => Nat.lt_of_lt_of_le hb a3) (fun b (hb : b < N) => Nat.lt_of_lt_of_le hb a4) a1.k a2.k
    simpa using e
  have HT : Hid (∀ z, Below w.heap.size w z → Calls Try.prog 23 #[.slice p4 x.toks.length c4, .slice q4 x.toks.length f4] z fun e w' => e = .returned (.bool true) ∧ Below z.heap.size z w') := Lib.hid fun z hz => by
    obtain ⟨a1, a2, a3, a4⟩ := HBD.out z hz
    exact sametok_any (D := Lt M) (E := Lt N) (w := z) (fun b (hb : b < M) => Nat.lt_of_lt_of_le hb a3) (fun b (hb : b < N) => Nat.lt_of_lt_of_le hb a4) a1.t a2.t (by omega)
  clear h h' HBD hcl
  obtain ⟨n1, hn1⟩ : ∃ n, L.length = n := ⟨_, rfl⟩
  obtain ⟨n2, hn2⟩ : ∃ n, x.marks.length = n := ⟨_, rfl⟩
  obtain ⟨n3, hn3⟩ : ∃ n, x.counts.length = n := ⟨_, rfl⟩
  obtain ⟨n4, hn4⟩ : ∃ n, x.toks.length = n := ⟨_, rfl⟩
  rw [hn1] at HR ⊢
  rw [hn2] at HM' ⊢
  rw [hn3] at HI ⊢
  rw [hn4] at HT ⊢
  have S0 := (Sep.start w).allocAt hb2 (.cells #[.slice p1 n1 c1, .slice p2 n2 c2, .slice p3 n3 c3, .slice p4 n4 c4] 28)
  have S0 := S0.allocAt (b := b2 + 1) (by simp [hb2]) (.cells #[.slice q1 n1 f1, .slice q2 n2 f2, .slice q3 n3 f3, .slice q4 n4 f4] 28)
  obtain ⟨b3, hb3⟩ : ∃ b, b2 + 1 = b := ⟨_, rfl⟩
  rw [hb3] at S0
  have S0 := Lib.hid S0
  clear hn1 hn2 hn3 hn4 h1 h2 h3 h4
  go_enter Try.func11, Try.ntmps11
  go_upto_region 1 with fail
  refine at_world (fun y => Sep w.heap.size w y [bxL b3 #[.slice q1 n1 f1, .slice q2 n2 f2, .slice q3 n3 f3, .slice q4 n4 f4], bxL b2 #[.slice p1 n1 c1, .slice p2 n2 c2, .slice p3 n3 c3, .slice p4 n4 c4]]) S0.out fun y hy => ?_
  have S1 := Lib.hid hy
  clear hy S0 hb2 hb3
  have T0 := S1
  have x0 : y.cell? ⟨b2, 0, none⟩ = some (.slice p1 n1 c1) := T0.out.tl.boxAt 0
  have y0 : y.cell? ⟨b3, 0, none⟩ = some (.slice q1 n1 f1) := T0.out.boxAt 0
  go_wp2_with fail
  refine (HR.out _ T0.out.bel).mono ?_
  rintro _ z1 ⟨rfl, hb⟩
  have T1 := Lib.hid (T0.out.up hb)
  clear hb
  have x1 : z1.cell? ⟨b2, 1, none⟩ = some (.slice p2 n2 c2) := T1.out.tl.boxAt 1
  have y1 : z1.cell? ⟨b3, 1, none⟩ = some (.slice q2 n2 f2) := T1.out.boxAt 1
  go_wp2_with fail
  refine (HM'.out _ T1.out.bel).mono ?_
  rintro _ z2 ⟨rfl, hb⟩
  have T2 := Lib.hid (T1.out.up hb)
  clear hb
  have x2 : z2.cell? ⟨b2, 2, none⟩ = some (.slice p3 n3 c3) := T2.out.tl.boxAt 2
  have y2 : z2.cell? ⟨b3, 2, none⟩ = some (.slice q3 n3 f3) := T2.out.boxAt 2
  go_wp2_with fail
  refine (HI.out _ T2.out.bel).mono ?_
  rintro _ z3 ⟨rfl, hb⟩
  have T3 := Lib.hid (T2.out.up hb)
  clear hb
  have x3 : z3.cell? ⟨b2, 3, none⟩ = some (.slice p4 n4 c4) := T3.out.tl.boxAt 3
  have y3 : z3.cell? ⟨b3, 3, none⟩ = some (.slice q4 n4 f4) := T3.out.boxAt 3
  go_wp2_with fail
  refine (HT.out _ T3.out.bel).mono ?_
  rintro _ z4 ⟨rfl, hb⟩
  have T4 := Lib.hid (T3.out.up hb)
  clear hb
  go_wp2_with fail
  go_ret
  exact ⟨rfl, T4.out.bel⟩
end Go.Proofs.Ytemkppjdfjoipaa.I1.X
end
