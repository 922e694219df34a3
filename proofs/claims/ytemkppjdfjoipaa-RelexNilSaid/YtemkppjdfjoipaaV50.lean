/- Texts of package regs, one behind the other. -/
import Derived.Test.YtemkppjdfjoipaaProg
import Derived.Test.YtemkppjdfjoipaaV49
import Derived.Test.YtemkppjdfjoipaaIp
import Derived.Test.YtemkppjdfjoipaaV40
import Derived.Deep.SlicePairs
import Derived.Deep.Slices
import Derived.Laws.IdiomArrays
import Derived.OpenShut
import Derived.WideBlind
import Derived.Great.BuildSlice
import Derived.WalkKit
import Derived.Maps.OwnSet
import Derived.Maps.OwnOps
import Derived.Maps.Own
import Derived.DeepKeys5
import Derived.BigFrame
import Derived.WalkMore
import Derived.ScopeJumps
import Derived.StillTailTactics
import Derived.Stop.BytesEq
import Derived.WalkLawsBesides
import Derived.WalkSpells
import Derived.Outline
import Derived.Lib.Walk
import Derived.Lib.Hide
import Derived.Lib.Slices
import Derived.Lib.Strings
import Derived.RegionTactic
import Derived.LoopTactic
import Derived.Below
import Derived.IntWalk
import Derived.Deep.QuietTactic
import Derived.BigQuiet
import Derived.Deep.MidRow
import Derived.Maps.AppendAt
import Derived.Laws.Rows
import Derived.Laws.Tables
import Derived.Deep.WholeRow
import Derived.Deep.Cut
import Derived.Deep.CutRange
import Derived.Lib.SliceRun
import Derived.Laws.MakeOwn
import Derived.Deep.RegionLaw
import Derived.Deep.RegionLawGrows
import Derived.Deep.RegionHeld3
import Derived.RegionCalls
import Derived.Deep.RegionWith
import Derived.Deep.Light
import Derived.Laws.CopyOwn
import Derived.Laws.ResultCell
section
/- alive -/
namespace Go.Proofs.Ytemkppjdfjoipaa.I1.X
set_option linter.unusedSimpArgs false
set_option linter.unusedVariables false
set_option maxRecDepth 100000
open Go.RowKit
/- alive. -/
set_option maxHeartbeats 16000000 in
theorem alive12_any (w : World) : Calls Try.prog 19 #[] w fun e w' => e = .returned (.bool true) ∧ Below w.heap.size w w' := by
  have hz61 := (zero_of_info Go.Proofs.Ytemkppjdfjoipaa.info26r).1
  have hz51 := zero51
  have S0 := Lib.hid (Sep.start w)
  go_enter Try.func19, Try.ntmps19
  go_wp2_with fail
  refine (AB.ab_any w).mono ?_
  rintro _ w1 ⟨ds, p, q, g, rfl, hd, hm, hk, hb⟩
  have S1 := Lib.hid (S0.out.up hb)
  have HD := Lib.hid hd
  have HM := Lib.hid hm
  have HK := Lib.hid hk
  have HSZ := Lib.hid hd.sz
  have HS2 := Lib.hid (S1.out.alloc (.cells Go.Proofs.Ytemkppjdfjoipaa.zero26 61))
  have HHE : Hid ((w1.alloc (.cells Go.Proofs.Ytemkppjdfjoipaa.zero26 61)).heap[w1.heap.size]? = some (.cells Go.Proofs.Ytemkppjdfjoipaa.zero26 61 (0, 0))) := Lib.hid HS2.out.at.2
  have HUP : Hid (Below w1.heap.size w1 ((w1.alloc (.cells Go.Proofs.Ytemkppjdfjoipaa.zero26 61)).setRow w1.heap.size ds)) := Lib.hid (below_row ((Below.refl _ _).alloc (Nat.le_refl _) _) (Nat.le_refl _) ds)
  have HS3 : Hid (Sep w.heap.size w ((w1.alloc (.cells Go.Proofs.Ytemkppjdfjoipaa.zero26 61)).setRow w1.heap.size ds) [.box w1.heap.size (.cells ds 61 (0, 0))]) := Lib.hid (HS2.out.put (o' := .cells ds 61 (0, 0)) (row_grown _ _ _) (setRow_heap _ w1.heap.size _ _ 61 (0, 0) HHE.out))
  clear hd hm hk hb S0 HS2
  go_upto_region 2 with (refine wpList_store_row rfl 61 (.tmp 2) (.tmp 12) rfl w1.heap.size ds rfl rfl 61 Go.Proofs.Ytemkppjdfjoipaa.zero26 HHE.out (by rw [show (Try.prog.info? 61).map (·.size) = some 259 from by kernel_rfl, HSZ.out]) (by rw [Go.Proofs.Ytemkppjdfjoipaa.zero26_size, HSZ.out]) (Array.all_eq_true_iff_forall_mem.2 HD.out.one) ?_)
  obtain ⟨b2, hb2⟩ : ∃ b, w1.heap.size = b := ⟨_, rfl⟩
  rw [hb2] at HS3 HUP ⊢
  have HM1 : Hid (∀ y, Below b2 w1 y → DM (Lt b2) y AB.aD p q 4 4 ∧ KR (Lt b2) y AB.aK (some ⟨g, 0, none⟩) ∧ b2 ≤ y.heap.size) := Lib.hid fun y hy => by
    subst hb2
    exact ⟨HM.out.up hy, HK.out.mono (fun b h => h) (fun b (hb : b < w1.heap.size) _ => hy.block b hb), hy.size⟩
  refine at_world (fun z => Sep w.heap.size w z [.box b2 (.cells ds 61 (0, 0))] ∧ Below b2 w1 z) ⟨HS3.out, HUP.out⟩ fun z hz => ?_
  have S2 := Lib.hid hz.1
  have HB2 := Lib.hid hz.2
  have HBX : Hid (BX z b2 ds) := Lib.hid hz.1.at.2
  have HC := Lib.hid (new_any (N := b2) (fr := 3) tA (HM1.out z hz.2).2.2 HD.out (HM1.out z hz.2).1 (HM1.out z hz.2).2.1 (by decide) (by decide) (by decide) (by decide) (by decide))
  rw [aE] at HC
  have HFA : Hid (Fine AB.aD AB.aK tA) := Lib.hid (newE_ok (by decide) aE).2
  have HFB : Hid (Fine AB.aD AB.aK tB) := Lib.hid (newE_ok (by decide) aE2).2
  clear hz S1 HS3 HHE HUP hb2
  go_wp2_with (refine wpList_load_Dg _ rfl b2 ds rfl HBX.out HSZ.out rfl ?_)
  refine HC.out.mono ?_
  rintro _ w3 ⟨hb3, hor⟩
  rcases hor with ⟨h, _⟩ | ⟨_, bS, rfl, hsc⟩
  · exact absurd rfl h
  have S3 := Lib.hid (S2.out.up hb3)
  have HSC := Lib.hid hsc
  clear hb3 HC HBX hsc HB2 S2
  have HED : Hid (Calls Try.prog 16 #[.pointer (some ⟨bS, 0, none⟩), .agg #[.int .i64 1, .int .i64 2, .string .empty]] w3 (EdQ w3 AB.aD AB.aK tA tB 1 2 1)) := Lib.hid (by
    obtain ⟨a, b, h1, h2, h3, h4, h5⟩ := ed_of (s := tA) (st := 1) (en := 2) (x := .empty) (by decide) aChk
    have ha : a = 1 := by omega
    have hb : b = 2 := by omega
    subst ha hb
    have e6 : Ed.splice tA 1 2 .empty = tB := h3.symm.trans aAp
    rw [e6] at h4
    exact edit_ok (st := 1) (en := 2) HSC.out HFA.out HFB.out aChk aAp h4)
  go_wp2_with fail
  refine HED.out.mono ?_
  rintro _ w4 ⟨bq, q1, q3, q4, e1, e3, e4, bT, bR, cnt, rfl, hR⟩
  have hcnt := aCnt hR.ct
  subst hcnt
  unfold rlV
  rw [aPre, aSuf, aTB, aLB]
  have HSCB := Lib.hid hR.sc
  have hbel := hR.sp.bel
  have HSCA : Hid (ScV w4.heap.size w4 bS AB.aD AB.aK tA) := Lib.hid (HSC.out.up hbel.size (Nat.le_refl _) hbel)
  have S4 := Lib.hid (S3.out.up hbel)
  have HWV : Hid (WV (Lt w4.heap.size) w4 aW (.slice q4 5 e4)) := Lib.hid (by
    have h := hR.sp.at
    rw [aTB] at h
    exact (I1.row_wv h).mono (fun b hb => hb.2.1) (fun _ _ _ => rfl))
  clear hR hbel S3 HED
  obtain ⟨m2, hm2⟩ : ∃ n, (scX AB.aD AB.aK tB).marks.length = n := ⟨_, rfl⟩
  obtain ⟨m3, hm3⟩ : ∃ n, (scX AB.aD AB.aK tB).counts.length = n := ⟨_, rfl⟩
  rw [hm2, hm3, show aW.length = 5 from rfl, show ([(0, 1, 2), (14, 1, 1), (25, 1, 2), (0, 1, 2)] : List P3).length = 4 from rfl, show ((1 : Nat) : Int) = 1 from rfl, show ((3 : Nat) : Int) = 3 from rfl]
  clear hm2 hm3
  obtain ⟨b6, hb6⟩ : ∃ b, w4.heap.size = b := ⟨_, rfl⟩
  have hb4 : Below w4.heap.size w4 ((w4.alloc (.cells #[.slice q1 4 e1, .slice (some ⟨bT, 0, none⟩) m2 m2, .slice q3 m3 e3, .slice q4 5 e4, .int .i64 1, .int .i64 3, .int .i64 2] 51)).alloc (.cells #[.int .i64 0, .int .i64 0, .int .i64 1, .int .i64 14, .int .i64 0, .int .i64 1, .int .i64 0, .int .i64 1, .int .i64 1, .int .i64 19, .int .i64 0, .int .i64 0, .int .i64 22, .int .i64 0, .int .i64 0] 40)) := ((Below.refl _ _).alloc (Nat.le_refl _) _).alloc (by simp) _
  have S5 := (S4.out.allocAt hb6 (.cells #[.slice q1 4 e1, .slice (some ⟨bT, 0, none⟩) m2 m2, .slice q3 m3 e3, .slice q4 5 e4, .int .i64 1, .int .i64 3, .int .i64 2] 51)).allocAt (b := b6 + 1) (by simp [hb6]) (.cells #[.int .i64 0, .int .i64 0, .int .i64 1, .int .i64 14, .int .i64 0, .int .i64 1, .int .i64 0, .int .i64 1, .int .i64 1, .int .i64 19, .int .i64 0, .int .i64 0, .int .i64 22, .int .i64 0, .int .i64 0] 40)
  obtain ⟨b8, hb8⟩ : ∃ b, b6 + 1 = b := ⟨_, rfl⟩
  rw [hb8] at S5
  have S6 := Lib.hid (And.intro S5 hb4)
  clear S5 hb4 S4
  go_upto_region 7 with fail
  refine at_world (fun y => Sep w.heap.size w y [.box b8 (.cells #[.int .i64 0, .int .i64 0, .int .i64 1, .int .i64 14, .int .i64 0, .int .i64 1, .int .i64 0, .int .i64 1, .int .i64 1, .int .i64 19, .int .i64 0, .int .i64 0, .int .i64 22, .int .i64 0, .int .i64 0] 40 (0, 0)), .box b6 (.cells #[.slice q1 4 e1, .slice (some ⟨bT, 0, none⟩) m2 m2, .slice q3 m3 e3, .slice q4 5 e4, .int .i64 1, .int .i64 3, .int .i64 2] 51 (0, 0)), .box b2 (.cells ds 61 (0, 0))] ∧ Below w4.heap.size w4 y) S6.out fun y hy => ?_
  have S7 := Lib.hid hy.1
  have HTB := Lib.hid (text_any (HSCB.out.up hy.2.size (Nat.le_refl _) hy.2))
  have HTA := Lib.hid (text_any (HSCA.out.up hy.2.size (Nat.le_refl _) hy.2))
  have HST := Lib.hid (I1.sametok_any (w := y) (l := aW) (D := Lt w4.heap.size) (fun b (hb : b < w4.heap.size) => Nat.lt_of_lt_of_le hb hy.2.size) (fun b hb => by rw [hb]; exact (It.lt hy.1.at rfl).2) (HWV.out.mono (fun b h => h) (fun b (hb : b < w4.heap.size) _ => hy.2.block b hb)) (I1.rw_block (l := aW) hy.1.at.2 rfl (n := 5) rfl).wv (by decide))
  rw [show aW.length = 5 from rfl] at HST
  have z3 : y.cell? ⟨b6, 3, none⟩ = some (.slice q4 5 e4) := hy.1.tl.boxAt 3
  have z4 : y.cell? ⟨b6, 4, none⟩ = some (.int .i64 1) := hy.1.tl.boxAt 4
  have z5 : y.cell? ⟨b6, 5, none⟩ = some (.int .i64 3) := hy.1.tl.boxAt 5
  have z6 : y.cell? ⟨b6, 6, none⟩ = some (.int .i64 2) := hy.1.tl.boxAt 6
  clear hy S6 hb6 hb8 HSCA HSCB HWV
  go_wp2_with fail
  refine HTB.out.mono ?_
  rintro _ y1 ⟨rfl, rfl⟩
  go_wp2_with fail
  refine HTA.out.mono ?_
  rintro _ y2 ⟨rfl, rfl⟩
  go_wp2_with fail
  refine HST.out.mono ?_
  rintro _ y3 ⟨rfl, hb⟩
  have S8 := Lib.hid (S7.out.up hb)
  have z4' : y3.cell? ⟨b6, 4, none⟩ = some (.int .i64 1) := S8.out.tl.boxAt 4
  have z5' : y3.cell? ⟨b6, 5, none⟩ = some (.int .i64 3) := S8.out.tl.boxAt 5
  have z6' : y3.cell? ⟨b6, 6, none⟩ = some (.int .i64 2) := S8.out.tl.boxAt 6
  clear hb
  go_wp2_with fail
  go_ret
  exact ⟨rfl, S8.out.bel⟩
end Go.Proofs.Ytemkppjdfjoipaa.I1.X
end
section
/- RelexNil -/
namespace Go.Proofs.Ytemkppjdfjoipaa.I1.X
set_option linter.unusedSimpArgs false
set_option linter.unusedVariables false
set_option maxRecDepth 100000
open Go.RowKit
/- RelexNil. -/
def lx0 : Lx := ⟨[], [], []⟩
theorem lv0 (w : World) : LV 0 w [] lx0 none none none none 0 0 0 0 :=
  ⟨⟨none, 0, rfl, fun _ => ⟨rfl, rfl⟩, fun h => absurd rfl h⟩, ⟨none, 0, rfl, fun h => absurd rfl h⟩, IV.nil _ _ _ _, ⟨none, 0, rfl, fun h => absurd rfl h⟩, Nat.le_refl _, Nat.le_refl _, Nat.le_refl _, Nat.le_refl _⟩
abbrev zL4 : Array Value := #[.slice none 0 0, .slice none 0 0, .slice none 0 0, .slice none 0 0]
theorem samelx0 (w : World) : Calls Try.prog 11 #[.agg zL4, .agg zL4] w fun e w' => e = .returned (.bool true) ∧ Below w.heap.size w w' := by
  have e := samelx_any (M := 0) (N := 0) (w := w) (L := []) (x := lx0) (Nat.zero_le _) (Nat.zero_le _) (lv0 w) (lv0 w) (by decide) (by decide) (by decide) (by decide) (fun m hm => by cases hm)
  simp only [lx0, List.length_nil] at e
  exact e
set_option maxHeartbeats 16000000 in
theorem nil12_any (x : ByteArray) (st en : Int) (w : World) : Calls Try.prog 4 #[Ed.ed st en x] w fun e w' => e = .returned (.bool true) ∧ Below w.heap.size w w' := by
  have hz51 := zero51
  have hz28 := zero28
  have hz49 : ∀ w, (zeroValue 49).run Try.prog w = .ok (.agg #[.pointer none, .string .empty, .slice none 0 0, .slice none 0 0, .slice none 0 0, .slice none 0 0]) w := (zero_of_info (show (Try.prog.info? 49).map (fun i => (i.zero, i.size)) = some (some (.agg #[.pointer none, .string .empty, .slice none 0 0, .slice none 0 0, .slice none 0 0, .slice none 0 0]), 6) by kernel_rfl)).1
  have HN := fun (z : World) => edit_nil x st en z
  have HZ := fun (b : Nat) (z : World) (h : z.cell? ⟨b, 0, none⟩ = some (.pointer none)) (hb : b < z.heap.size) => edit_zero (b := b) x st en z h hb
  unfold Ed.ed at HN HZ ⊢
  have HN := Lib.hid HN
  have HZ := Lib.hid HZ
  have HLN := Lib.hid (fun (z : World) => lexed_no (w := z) (v := .pointer none) (fun y _ => there_nil y))
  have HLZ : Hid (∀ (b : Nat) (z : World), z.cell? ⟨b, 0, none⟩ = some (.pointer none) → b < z.heap.size → Calls Try.prog 18 #[.pointer (some ⟨b, 0, none⟩)] z fun e w' => e = .returned zLx ∧ Below z.heap.size z w') := Lib.hid (fun b z h hb => lexed_no (w := z) (v := .pointer (some ⟨b, 0, none⟩)) (fun y hy => there_zero ((cell_same (hy.block b hb) _).trans h)))
  obtain ⟨b1, hb1⟩ : ∃ b, w.heap.size = b := ⟨_, rfl⟩
  have S0 := Lib.hid ((Sep.start w).allocAt hb1 (.cells #[.int .i64 st, .int .i64 en, .string x] 45))
  go_enter Try.func4, Try.ntmps4
  go_wp2_with fail
  refine at_world (fun y => Sep w.heap.size w y [.box b1 (.cells #[.int .i64 st, .int .i64 en, .string x] 45 (0, 0))]) S0.out fun y hy => ?_
  have S1 := Lib.hid hy
  clear hy S0 hb1
  go_loopw [3, 4, 5, 6, 7] (fun i _ _ _ _ wr => ∃ j : Nat, i = .int .i64 (j : Nat) ∧ j ≤ 2 ∧ Hid (Sep w.heap.size w wr [.box b1 (.cells #[.int .i64 st, .int .i64 en, .string x] 45 (0, 0))])) (fun i _ _ _ _ _ => 2 - (intOf i).toNat)
  case atStart => exact ⟨0, rfl, by omega, S1⟩
  case round =>
    clear S1
    obtain ⟨j, rfl, hj, HS⟩ := hrel
    obtain ⟨wo, rfl⟩ : ∃ wo : World, wo = wr := ⟨_, rfl⟩
    rcases (by omega : j = 0 ∨ j = 1 ∨ j = 2) with rfl | rfl | rfl
    · have z0 : wo.cell? ⟨b1, 0, none⟩ = some (.int .i64 st) := HS.out.boxAt 0
      have z1 : wo.cell? ⟨b1, 1, none⟩ = some (.int .i64 en) := HS.out.boxAt 1
      have z2 : wo.cell? ⟨b1, 2, none⟩ = some (.string x) := HS.out.boxAt 2
      go_wp2_with fail
      refine (HN.out _).mono ?_
      rintro _ y1 ⟨rfl, hb⟩
      have S2 := Lib.hid (HS.out.up hb)
      clear hb z0 z1 z2 HS
      obtain ⟨b6, hb6⟩ : ∃ b, y1.heap.size = b := ⟨_, rfl⟩
      have S3 := Lib.hid (S2.out.allocAt hb6 (.cells zR7 51))
      go_upto_region 8 with fail
      refine at_world (fun y => Sep w.heap.size w y [.box b6 (.cells zR7 51 (0, 0)), .box b1 (.cells #[.int .i64 st, .int .i64 en, .string x] 45 (0, 0))]) S3.out fun y2 hy => ?_
      have S4 := Lib.hid hy
      clear hy S3 hb6
      have x0 : y2.cell? ⟨b6, 0, none⟩ = some (.slice none 0 0) := S4.out.boxAt 0
      have x1 : y2.cell? ⟨b6, 1, none⟩ = some (.slice none 0 0) := S4.out.boxAt 1
      have x2 : y2.cell? ⟨b6, 2, none⟩ = some (.slice none 0 0) := S4.out.boxAt 2
      have x3 : y2.cell? ⟨b6, 3, none⟩ = some (.slice none 0 0) := S4.out.boxAt 3
      have x4 : y2.cell? ⟨b6, 4, none⟩ = some (.int .i64 0) := S4.out.boxAt 4
      have x5 : y2.cell? ⟨b6, 5, none⟩ = some (.int .i64 0) := S4.out.boxAt 5
      have x6 : y2.cell? ⟨b6, 6, none⟩ = some (.int .i64 0) := S4.out.boxAt 6
      go_wp2_with fail
      refine (samelx0 _).mono ?_
      rintro _ y3 ⟨rfl, hb⟩
      have S5 := Lib.hid (S4.out.up hb)
      clear hb x0 x1 x2 x3 x4 x5 x6
      go_wp2_with fail
      refine (text_nil _).mono ?_
      rintro _ y4 ⟨rfl, rfl⟩
      go_wp2_with fail
      refine (HLN.out _).mono ?_
      rintro _ y5 ⟨rfl, hb⟩
      have S6 := Lib.hid (S5.out.up hb)
      clear hb
      unfold zLx
      go_wp2_with fail
      refine (samelx0 _).mono ?_
      rintro _ y6 ⟨rfl, hb⟩
      have S7 := Lib.hid (S6.out.up hb)
      clear hb
      go_wp2_with fail
      go_roundw
      case rel => exact ⟨1, by go_num, by omega, Lib.hid (S7.out.sub (.cons _ (.refl _)))⟩
      case measure => simp [intOf]
    · have z0 : wo.cell? ⟨b1, 0, none⟩ = some (.int .i64 st) := HS.out.boxAt 0
      have z1 : wo.cell? ⟨b1, 1, none⟩ = some (.int .i64 en) := HS.out.boxAt 1
      have z2 : wo.cell? ⟨b1, 2, none⟩ = some (.string x) := HS.out.boxAt 2
      obtain ⟨b4, hb4⟩ : ∃ b, wo.heap.size = b := ⟨_, rfl⟩
      have S1 := Lib.hid (HS.out.allocAt hb4 (.cells #[.pointer none, .string .empty, .slice none 0 0, .slice none 0 0, .slice none 0 0, .slice none 0 0] 49))
      go_upto_region 7 with fail
      refine at_world (fun y => Sep w.heap.size w y [.box b4 (.cells #[.pointer none, .string .empty, .slice none 0 0, .slice none 0 0, .slice none 0 0, .slice none 0 0] 49 (0, 0)), .box b1 (.cells #[.int .i64 st, .int .i64 en, .string x] 45 (0, 0))]) S1.out fun y0 hy => ?_
      have S1 := Lib.hid hy
      have z0 : y0.cell? ⟨b1, 0, none⟩ = some (.int .i64 st) := hy.tl.boxAt 0
      have z1 : y0.cell? ⟨b1, 1, none⟩ = some (.int .i64 en) := hy.tl.boxAt 1
      have z2 : y0.cell? ⟨b1, 2, none⟩ = some (.string x) := hy.tl.boxAt 2
      have HZ1 := Lib.hid (HZ.out b4 y0 (hy.boxAt 0) (It.lt hy.at rfl).2)
      clear hy HS hb4
      go_wp2_with fail
      refine HZ1.out.mono ?_
      rintro _ y1 ⟨rfl, hb⟩
      have S2 := Lib.hid (S1.out.up hb)
      clear hb z0 z1 z2 S1 HZ1
      obtain ⟨b6, hb6⟩ : ∃ b, y1.heap.size = b := ⟨_, rfl⟩
      have S3 := Lib.hid (S2.out.allocAt hb6 (.cells zR7 51))
      go_upto_region 8 with fail
      refine at_world (fun y => Sep w.heap.size w y [.box b6 (.cells zR7 51 (0, 0)), .box b4 (.cells #[.pointer none, .string .empty, .slice none 0 0, .slice none 0 0, .slice none 0 0, .slice none 0 0] 49 (0, 0)), .box b1 (.cells #[.int .i64 st, .int .i64 en, .string x] 45 (0, 0))]) S3.out fun y2 hy => ?_
      have S4 := Lib.hid hy
      clear hy S3 hb6
      have x0 : y2.cell? ⟨b6, 0, none⟩ = some (.slice none 0 0) := S4.out.boxAt 0
      have x1 : y2.cell? ⟨b6, 1, none⟩ = some (.slice none 0 0) := S4.out.boxAt 1
      have x2 : y2.cell? ⟨b6, 2, none⟩ = some (.slice none 0 0) := S4.out.boxAt 2
      have x3 : y2.cell? ⟨b6, 3, none⟩ = some (.slice none 0 0) := S4.out.boxAt 3
      have x4 : y2.cell? ⟨b6, 4, none⟩ = some (.int .i64 0) := S4.out.boxAt 4
      have x5 : y2.cell? ⟨b6, 5, none⟩ = some (.int .i64 0) := S4.out.boxAt 5
      have x6 : y2.cell? ⟨b6, 6, none⟩ = some (.int .i64 0) := S4.out.boxAt 6
      go_wp2_with fail
      refine (samelx0 _).mono ?_
      rintro _ y3 ⟨rfl, hb⟩
      have S5 := Lib.hid (S4.out.up hb)
      clear hb x0 x1 x2 x3 x4 x5 x6
      have HTX := Lib.hid (text_zero (b := b4) (w := y3) (S5.out.tl.boxAt 0))
      have HLX := Lib.hid (HLZ.out b4 y3 (S5.out.tl.boxAt 0) (It.lt S5.out.tl.at rfl).2)
      go_wp2_with fail
      refine (HTX.out).mono ?_
      rintro _ y4 ⟨rfl, rfl⟩
      go_wp2_with fail
      refine (HLX.out).mono ?_
      rintro _ y5 ⟨rfl, hb⟩
      have S6 := Lib.hid (S5.out.up hb)
      clear hb
      unfold zLx
      go_wp2_with fail
      refine (samelx0 _).mono ?_
      rintro _ y6 ⟨rfl, hb⟩
      have S7 := Lib.hid (S6.out.up hb)
      clear hb
      go_wp2_with fail
      go_roundw
      case rel => exact ⟨2, by go_num, by omega, Lib.hid (S7.out.sub (.cons _ (.cons _ (.refl _))))⟩
      case measure => simp [intOf]
    · have HAL := Lib.hid (alive12_any wo)
      go_wp2_with fail
      refine HAL.out.mono ?_
      rintro _ y1 ⟨rfl, hb⟩
      have S2 := Lib.hid (HS.out.up hb)
      clear hb
      go_wp2_with fail
      go_ret
      exact ⟨rfl, S2.out.bel⟩
end Go.Proofs.Ytemkppjdfjoipaa.I1.X
end
