/- Texts of package regs, one behind the other. -/
import Derived.Test.YtemkppjdfjoipaaProg
import Derived.Test.YtemkppjdfjoipaaW45
import Derived.Test.YtemkppjdfjoipaaYl
import Derived.Test.YtemkppjdfjoipaaXz
import Derived.Deep.SlicePairs
import Derived.Deep.Slices
import Derived.Laws.IdiomArrays
import Derived.OpenShut
import Derived.WideBlind
import Derived.Great.BuildSlice
import Derived.WalkKit
import Derived.Maps.OwnSet
import Derived.Maps.OwnOps
import Derived.Maps.Own
import Derived.DeepKeys5
import Derived.BigFrame
import Derived.WalkMore
import Derived.ScopeJumps
import Derived.StillTailTactics
import Derived.Stop.BytesEq
import Derived.WalkLawsBesides
import Derived.WalkSpells
import Derived.Outline
import Derived.Lib.Walk
import Derived.Lib.Hide
import Derived.Lib.Slices
import Derived.Lib.Strings
import Derived.RegionTactic
import Derived.LoopTactic
import Derived.Below
import Derived.IntWalk
import Derived.Deep.QuietTactic
import Derived.BigQuiet
import Derived.Deep.MidRow
import Derived.Maps.AppendAt
import Derived.Laws.Rows
import Derived.Laws.Tables
import Derived.Deep.WholeRow
import Derived.Deep.Cut
import Derived.Deep.CutRange
import Derived.Lib.SliceRun
import Derived.Laws.MakeOwn
import Derived.Deep.RegionLaw
import Derived.Deep.RegionLawGrows
import Derived.Deep.RegionHeld3
import Derived.RegionCalls
import Derived.Deep.RegionWith
import Derived.Deep.Light
import Derived.Laws.CopyOwn
import Derived.Laws.ResultCell
import Derived.Test.YtemkppjdfjoipaaIp
import Derived.Test.YtemkppjdfjoipaaW40
section
/- alive, plain -/
namespace Go.Proofs.Ytemkppjdfjoipaa.I1.X
set_option linter.unusedSimpArgs false
set_option linter.unusedVariables false
set_option maxRecDepth 100000
open Go.RowKit
/- alive, plain; Edit of a scan that is not there. -/
abbrev tA : ByteArray := ⟨#[97, 32, 98, 32, 97]⟩
abbrev tB : ByteArray := ⟨#[97, 98, 32, 97]⟩
theorem aE : newE AB.aD AB.aK tA = 0 := by kernel_rfl
theorem aE2 : newE AB.aD AB.aK tB = 0 := by kernel_rfl
theorem aLA : scL AB.aD AB.aK tA = [(0, 1, 2), (25, 1, 2), (14, 1, 1), (25, 1, 2), (0, 1, 2)] := by kernel_rfl
theorem aLB : scL AB.aD AB.aK tB = [(0, 1, 2), (14, 1, 1), (25, 1, 2), (0, 1, 2)] := by kernel_rfl
def aW : List Tk := [(0, 0, 1), (14, 0, 1), (0, 1, 1), (19, 0, 0), (22, 0, 0)]
theorem aTB : (scX AB.aD AB.aK tB).toks = aW := by
  rw [show scX AB.aD AB.aK tB = lxM (scL AB.aD AB.aK tB) (bl tB) from rfl, aLB]; kernel_rfl
theorem aTA : (scX AB.aD AB.aK tA).toks = [(0, 0, 1), (14, 1, 1), (0, 1, 1), (19, 0, 0), (22, 0, 0)] := by
  rw [show scX AB.aD AB.aK tA = lxM (scL AB.aD AB.aK tA) (bl tA) from rfl, aLA]; kernel_rfl
theorem aPre : cpre (scX AB.aD AB.aK tA).toks (scX AB.aD AB.aK tB).toks = 1 := by rw [aTA, aTB]; rfl
theorem aSuf : csuf (scX AB.aD AB.aK tA).toks (scX AB.aD AB.aK tB).toks = 3 := by rw [aTA, aTB]; rfl
theorem aChk : Ed.checkZ tA.size 1 2 .empty = 0 := by rfl
theorem aAp : Ed.apS tA 1 2 .empty = tB := by rfl
theorem aCnt {c : Int} (h : Cnt (scL AB.aD AB.aK tA) (scL AB.aD AB.aK tB) (bl tA) (bl tB) 1 2 1 c) : c = 2 := by
  rw [aLA, aLB] at h
  obtain ⟨k, n, hk, hkn, rfl, hnb, hor⟩ := h.ex
  have hk0 : Kept [(0, 1, 2), (25, 1, 2), (14, 1, 1), (25, 1, 2), ((0 : Int), 1, 2)] 1 0 := ⟨by simp, fun j hj => by omega, fun _ => by simp [off, lens]⟩
  have e0 := kept_uniq hk hk0
  subst e0
  have hb2 : Back [(0, 1, 2), (25, 1, 2), (14, 1, 1), (25, 1, 2), ((0 : Int), 1, 2)] [(0, 1, 2), (14, 1, 1), (25, 1, 2), (0, 1, 2)] (bl tA) (bl tB) 2 1 2 3 := ⟨by simp, by simp, by simp [off, lens], by simp [off, lens], by kernel_rfl⟩
  have hn2 : n = 2 := by
    rcases Nat.lt_trichotomy n 2 with h | h | h
    · rcases hor with e | ⟨j, hb⟩
      · simp at e; omega
      · rcases (by omega : n = 0 ∨ n = 1) with rfl | rfl
        · have := hb.le; simp [off, lens] at this
        · have h1 := hb.at_
          have h2 := hb.hk
          have h3 := hb.mks
          simp at h2
          rcases (by omega : j = 0 ∨ j = 1 ∨ j = 2 ∨ j = 3 ∨ j = 4) with rfl | rfl | rfl | rfl | rfl
          · simp [off, lens] at h1
          · simp [off, lens] at h1
          · have h4 := congrArg Mk.lead h3
            have e1 : (runM m0 (bl tB) (List.take 1 [(0, 1, 2), (14, 1, 1), (25, 1, 2), (0, 1, 2)])).m.lead = 0 := by kernel_rfl
            have e2 : (runM m0 (bl tA) (List.take 2 [(0, 1, 2), (25, 1, 2), (14, 1, 1), (25, 1, 2), (0, 1, 2)])).m.lead = 1 := by kernel_rfl
            rw [e1, e2] at h4
            omega
          · simp [off, lens] at h1
          · simp [off, lens] at h1
    · exact h
    · exact absurd hb2 (hnb 2 (by omega) h 3)
  subst hn2; rfl
end Go.Proofs.Ytemkppjdfjoipaa.I1.X
end
section
/- alive -/
namespace Go.Proofs.Ytemkppjdfjoipaa.I1.X
set_option linter.unusedSimpArgs false
set_option linter.unusedVariables false
set_option maxRecDepth 100000
open Go.RowKit
/- alive. -/
set_option maxHeartbeats 16000000 in
theorem alive12_any (w : World) : Calls Try.prog 19 #[] w fun e w' => e = .returned (.bool true) ∧ Below w.heap.size w w' := by
  have hz61 := (zero_of_info Go.Proofs.Ytemkppjdfjoipaa.info26r).1
  have hz51 := zero51
  have S0 := Lib.hid (Sep.start w)
  go_enter Try.func19, Try.ntmps19
  go_wp2_with fail
  refine (AB.ab_any w).mono ?_
  rintro _ w1 ⟨ds, p, q, g, rfl, hd, hm, hk, hb⟩
  have S1 := Lib.hid (S0.out.up hb)
  have HD := Lib.hid hd
  have HM := Lib.hid hm
  have HK := Lib.hid hk
  have HSZ := Lib.hid hd.sz
  have HS2 := Lib.hid (S1.out.alloc (.cells Go.Proofs.Ytemkppjdfjoipaa.zero26 61))
  have HHE : Hid ((w1.alloc (.cells Go.Proofs.Ytemkppjdfjoipaa.zero26 61)).heap[w1.heap.size]? = some (.cells Go.Proofs.Ytemkppjdfjoipaa.zero26 61 (0, 0))) := Lib.hid HS2.out.at.2
  have HUP : Hid (Below w1.heap.size w1 ((w1.alloc (.cells Go.Proofs.Ytemkppjdfjoipaa.zero26 61)).setRow w1.heap.size ds)) := Lib.hid (below_row ((Below.refl _ _).alloc (Nat.le_refl _) _) (Nat.le_refl _) ds)
  have HS3 : Hid (Sep w.heap.size w ((w1.alloc (.cells Go.Proofs.Ytemkppjdfjoipaa.zero26 61)).setRow w1.heap.size ds) [.box w1.heap.size (.cells ds 61 (0, 0))]) := Lib.hid (HS2.out.put (o' := .cells ds 61 (0, 0)) (row_grown _ _ _) (setRow_heap _ w1.heap.size _ _ 61 (0, 0) HHE.out))
  clear hd hm hk hb S0 HS2
  go_upto_region 2 with (refine wpList_store_row rfl 61 (.tmp 2) (.tmp 12) rfl w1.heap.size ds rfl rfl 61 Go.Proofs.Ytemkppjdfjoipaa.zero26 HHE.out (by rw [show (Try.prog.info? 61).map (·.size) = some 259 from by kernel_rfl, HSZ.out]) (by rw [Go.Proofs.Ytemkppjdfjoipaa.zero26_size, HSZ.out]) (Array.all_eq_true_iff_forall_mem.2 HD.out.one) ?_)
  obtain ⟨b2, hb2⟩ : ∃ b, w1.heap.size = b := ⟨_, rfl⟩
  rw [hb2] at HS3 HUP ⊢
  have HM1 : Hid (∀ y, Below b2 w1 y → DM (Lt b2) y AB.aD p q 4 4 ∧ KR (Lt b2) y AB.aK (some ⟨g, 0, none⟩) ∧ b2 ≤ y.heap.size) := Lib.hid fun y hy => by
    subst hb2
    exact ⟨HM.out.up hy, HK.out.mono (fun b h => h) (fun b (hb : b < w1.heap.size) _ => hy.block b hb), hy.size⟩
  refine at_world (fun z => Sep w.heap.size w z [.box b2 (.cells ds 61 (0, 0))] ∧ Below b2 w1 z) ⟨HS3.out, HUP.out⟩ fun z hz => ?_
  have S2 := Lib.hid hz.1
  have HB2 := Lib.hid hz.2
  have HBX : Hid (BX z b2 ds) := Lib.hid hz.1.at.2
  have HC := Lib.hid (new_any (N := b2) (fr := 3) tA (HM1.out z hz.2).2.2 HD.out (HM1.out z hz.2).1 (HM1.out z hz.2).2.1 (by decide) (by decide) (by decide) (by decide) (by decide))
  rw [aE] at HC
  have HFA : Hid (Fine AB.aD AB.aK tA) := Lib.hid (newE_ok (by decide) aE).2
  have HFB : Hid (Fine AB.aD AB.aK tB) := Lib.hid (newE_ok (by decide) aE2).2
  clear hz S1 HS3 HHE HUP hb2
  go_wp2_with (refine wpList_load_Dg _ rfl b2 ds rfl HBX.out HSZ.out rfl ?_)
  refine HC.out.mono ?_
  rintro _ w3 ⟨hb3, hor⟩
  rcases hor with ⟨h, _⟩ | ⟨_, bS, rfl, hsc⟩
  · exact absurd rfl h
  have S3 := Lib.hid (S2.out.up hb3)
  have HSC := Lib.hid hsc
  clear hb3 HC HBX hsc HB2 S2
  have HED : Hid (Calls Try.prog 16 #[.pointer (some ⟨bS, 0, none⟩), .agg #[.int .i64 1, .int .i64 2, .string .empty]] w3 (EdQ w3 AB.aD AB.aK tA tB 1 2 1)) := Lib.hid (by
    obtain ⟨a, b, h1, h2, h3, h4, h5⟩ := ed_of (s := tA) (st := 1) (en := 2) (x := .empty) (by decide) aChk
    have ha : a = 1 := by omega
    have hb : b = 2 := by omega
    subst ha hb
    have e6 : Ed.splice tA 1 2 .empty = tB := h3.symm.trans aAp
    rw [e6] at h4
    exact edit_ok (st := 1) (en := 2) HSC.out HFA.out HFB.out aChk aAp h4)
  go_wp2_with fail
  refine HED.out.mono ?_
  rintro _ w4 ⟨bq, q1, q3, q4, e1, e3, e4, bT, bR, cnt, rfl, hR⟩
  have hcnt := aCnt hR.ct
  subst hcnt
  unfold rlV
  rw [aPre, aSuf, aTB, aLB]
  have HSCB := Lib.hid hR.sc
  have hbel := hR.sp.bel
  have HSCA : Hid (ScV w4.heap.size w4 bS AB.aD AB.aK tA) := Lib.hid (HSC.out.up hbel.size (Nat.le_refl _) hbel)
  have S4 := Lib.hid (S3.out.up hbel)
  have HWV : Hid (WV (Lt w4.heap.size) w4 aW (.slice q4 5 e4)) := Lib.hid (by
    have h := hR.sp.at
    rw [aTB] at h
    exact (I1.row_wv h).mono (fun b hb => hb.2.1) (fun _ _ _ => rfl))
  clear hR hbel S3 HED
  obtain ⟨m2, hm2⟩ : ∃ n, (scX AB.aD AB.aK tB).marks.length = n := ⟨_, rfl⟩
  obtain ⟨m3, hm3⟩ : ∃ n, (scX AB.aD AB.aK tB).counts.length = n := ⟨_, rfl⟩
  rw [hm2, hm3, show aW.length = 5 from rfl, show ([(0, 1, 2), (14, 1, 1), (25, 1, 2), (0, 1, 2)] : List P3).length = 4 from rfl, show ((1 : Nat) : Int) = 1 from rfl, show ((3 : Nat) : Int) = 3 from rfl]
  clear hm2 hm3
  obtain ⟨b6, hb6⟩ : ∃ b, w4.heap.size = b := ⟨_, rfl⟩
  have hb4 : Below w4.heap.size w4 ((w4.alloc (.cells #[.slice q1 4 e1, .slice (some ⟨bT, 0, none⟩) m2 m2, .slice q3 m3 e3, .slice q4 5 e4, .int .i64 1, .int .i64 3, .int .i64 2] 51)).alloc (.cells #[.int .i64 0, .int .i64 0, .int .i64 1, .int .i64 14, .int .i64 0, .int .i64 1, .int .i64 0, .int .i64 1, .int .i64 1, .int .i64 19, .int .i64 0, .int .i64 0, .int .i64 22, .int .i64 0, .int .i64 0] 40)) := ((Below.refl _ _).alloc (Nat.le_refl _) _).alloc (by simp) _
  have S5 := (S4.out.allocAt hb6 (.cells #[.slice q1 4 e1, .slice (some ⟨bT, 0, none⟩) m2 m2, .slice q3 m3 e3, .slice q4 5 e4, .int .i64 1, .int .i64 3, .int .i64 2] 51)).allocAt (b := b6 + 1) (by simp [hb6]) (.cells #[.int .i64 0, .int .i64 0, .int .i64 1, .int .i64 14, .int .i64 0, .int .i64 1, .int .i64 0, .int .i64 1, .int .i64 1, .int .i64 19, .int .i64 0, .int .i64 0, .int .i64 22, .int .i64 0, .int .i64 0] 40)
  obtain ⟨b8, hb8⟩ : ∃ b, b6 + 1 = b := ⟨_, rfl⟩
  rw [hb8] at S5
  have S6 := Lib.hid (And.intro S5 hb4)
  clear S5 hb4 S4
  go_upto_region 7 with fail
  refine at_world (fun y => Sep w.heap.size w y [.box b8 (.cells #[.int .i64 0, .int .i64 0, .int .i64 1, .int .i64 14, .int .i64 0, .int .i64 1, .int .i64 0, .int .i64 1, .int .i64 1, .int .i64 19, .int .i64 0, .int .i64 0, .int .i64 22, .int .i64 0, .int .i64 0] 40 (0, 0)), .box b6 (.cells #[.slice q1 4 e1, .slice (some ⟨bT, 0, none⟩) m2 m2, .slice q3 m3 e3, .slice q4 5 e4, .int .i64 1, .int .i64 3, .int .i64 2] 51 (0, 0)), .box b2 (.cells ds 61 (0, 0))] ∧ Below w4.heap.size w4 y) S6.out fun y hy => ?_
  have S7 := Lib.hid hy.1
  have HTB := Lib.hid (text_any (HSCB.out.up hy.2.size (Nat.le_refl _) hy.2))
  have HTA := Lib.hid (text_any (HSCA.out.up hy.2.size (Nat.le_refl _) hy.2))
  have HST := Lib.hid (I1.sametok_any (w := y) (l := aW) (D := Lt w4.heap.size) (fun b (hb : b < w4.heap.size) => Nat.lt_of_lt_of_le hb hy.2.size) (fun b hb => by rw [hb]; exact (It.lt hy.1.at rfl).2) (HWV.out.mono (fun b h => h) (fun b (hb : b < w4.heap.size) _ => hy.2.block b hb)) (I1.rw_block (l := aW) hy.1.at.2 rfl (n := 5) rfl).wv (by decide))
  rw [show aW.length = 5 from rfl] at HST
  have z3 : y.cell? ⟨b6, 3, none⟩ = some (.slice q4 5 e4) := hy.1.tl.boxAt 3
  have z4 : y.cell? ⟨b6, 4, none⟩ = some (.int .i64 1) := hy.1.tl.boxAt 4
  have z5 : y.cell? ⟨b6, 5, none⟩ = some (.int .i64 3) := hy.1.tl.boxAt 5
  have z6 : y.cell? ⟨b6, 6, none⟩ = some (.int .i64 2) := hy.1.tl.boxAt 6
  clear hy S6 hb6 hb8 HSCA HSCB HWV
  go_wp2_with fail
  refine HTB.out.mono ?_
  rintro _ y1 ⟨rfl, rfl⟩
  go_wp2_with fail
  refine HTA.out.mono ?_
  rintro _ y2 ⟨rfl, rfl⟩
  go_wp2_with fail
  refine HST.out.mono ?_
  rintro _ y3 ⟨rfl, hb⟩
  have S8 := Lib.hid (S7.out.up hb)
  have z4' : y3.cell? ⟨b6, 4, none⟩ = some (.int .i64 1) := S8.out.tl.boxAt 4
  have z5' : y3.cell? ⟨b6, 5, none⟩ = some (.int .i64 3) := S8.out.tl.boxAt 5
  have z6' : y3.cell? ⟨b6, 6, none⟩ = some (.int .i64 2) := S8.out.tl.boxAt 6
  clear hb
  go_wp2_with fail
  go_ret
  exact ⟨rfl, S8.out.bel⟩
end Go.Proofs.Ytemkppjdfjoipaa.I1.X
end
