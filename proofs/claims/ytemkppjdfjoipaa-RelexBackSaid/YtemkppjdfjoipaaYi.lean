/- Package relex. -/
import Derived.Test.YtemkppjdfjoipaaProg
import Derived.Test.YtemkppjdfjoipaaW47
import Derived.Test.YtemkppjdfjoipaaW40
import Derived.Test.YtemkppjdfjoipaaW49
import Derived.Test.YtemkppjdfjoipaaYk
import Derived.Test.YtemkppjdfjoipaaYi0
import Derived.Deep.SlicePairs
import Derived.Deep.Slices
import Derived.Laws.IdiomArrays
import Derived.OpenShut
import Derived.WideBlind
import Derived.Great.BuildSlice
import Derived.WalkKit
import Derived.Maps.OwnSet
import Derived.Maps.OwnOps
import Derived.Maps.Own
import Derived.DeepKeys5
import Derived.BigFrame
import Derived.WalkMore
import Derived.ScopeJumps
import Derived.StillTailTactics
import Derived.Stop.BytesEq
import Derived.WalkLawsBesides
import Derived.WalkSpells
import Derived.Outline
import Derived.Lib.Walk
import Derived.Lib.Hide
import Derived.Lib.Slices
import Derived.Lib.Strings
import Derived.RegionTactic
import Derived.LoopTactic
import Derived.Below
import Derived.IntWalk
import Derived.Deep.QuietTactic
import Derived.BigQuiet
import Derived.Deep.MidRow
import Derived.Maps.AppendAt
import Derived.Laws.Rows
import Derived.Laws.Tables
import Derived.Deep.WholeRow
import Derived.Deep.Cut
import Derived.Deep.CutRange
import Derived.Lib.SliceRun
import Derived.Laws.MakeOwn
import Derived.Deep.RegionLaw
import Derived.Deep.RegionLawGrows
import Derived.Deep.RegionHeld3
import Derived.RegionCalls
import Derived.Deep.RegionWith
import Derived.Deep.Light
import Derived.Laws.CopyOwn
import Derived.Laws.ResultCell
namespace Go.Proofs.Ytemkppjdfjoipaa.I1.X
set_option linter.unusedSimpArgs false
set_option linter.unusedVariables false
set_option maxRecDepth 100000
open Go.RowKit
/- RelexBack. -/
set_option maxHeartbeats 16000000 in
theorem back12_any {w : World} {d : Df} {vs ds : Array Value} {p q : Option Addr} {c f fr : Nat} {ts : List R6.RT} {qr : Option Addr} (x : ByteArray) (fm tt : Int) (ye : ByteArray) (hv : SC vs ds qr ts.length fr) (hd : DC d ds p q c f) (hm : DM (fun b => b < w.heap.size) w d p q c f) (hR : R6.RuV (fun b => b < w.heap.size) w ts (.slice qr ts.length fr)) (hln : ts.length ≤ 9223372036854775806) (hwid : ∀ t ∈ ts, R6.wid t ≤ 9223372036854775806) (hx : x.size ≤ 281474976710656) (hye : ye.size ≤ 9223372036854775807) :
    Calls Try.prog 5 #[.agg vs, .string x, .agg #[.int .i64 fm, .int .i64 tt, .string ye]] w fun e w' => e = .returned (.bool true) ∧ Below w.heap.size w w' := by
  have hz51 := zero51
  have hz28 := zero28
  have HSZ := Lib.hid hd.sz
  have HD := Lib.hid hd
  have HV := Lib.hid hv
  have HM : Hid (∀ z, Below w.heap.size w z → DM (Lt w.heap.size) z d p q c f) := Lib.hid fun z hz => hm.up hz
  obtain ⟨kl, hkl, hkr⟩ := kr_of hR
  have HKR : Hid (∀ z, Below w.heap.size w z → KR (Lt w.heap.size) z kl qr) := Lib.hid fun z hz => hkr.mono (fun b h => h) (fun b (hb : b < w.heap.size) _ => hz.block b hb)
  obtain ⟨sm, hsm⟩ : ∃ sm, smA x d ts = sm := ⟨_, rfl⟩
  have HSM : Hid (∀ z, Below w.heap.size w z → Calls Try.prog 20 #[.slice qr ts.length fr, .agg ds, .string x] z fun e w' => e = .returned (.bool sm) ∧ Below z.heap.size z w') := Lib.hid fun z hz => by
    rw [← hsm]
    exact small12_any (D := Lt w.heap.size) x hd (hm.up hz) (hR.mono (fun b h => h) (fun b (hb : b < w.heap.size) _ => hz.block b hb)) hln hwid
  have HSME := Lib.hid hsm
  have HKL := Lib.hid hkl
  obtain ⟨nt, hnt⟩ : ∃ n, ts.length = n := ⟨_, rfl⟩
  rw [hnt] at HSM HV HKL
  have HNT := Lib.hid hnt
  obtain ⟨b3, hb3⟩ : ∃ b, w.heap.size = b := ⟨_, rfl⟩
  have S0 := (Sep.start w).allocAt hb3 (.cells vs 63)
  have S0 := S0.allocAt (b := b3 + 1) (by simp [hb3]) (.cells #[.int .i64 fm, .int .i64 tt, .string ye] 45)
  obtain ⟨b5, hb5⟩ : ∃ b, b3 + 1 = b := ⟨_, rfl⟩
  rw [hb5] at S0
  have S0 := Lib.hid S0
  have HLOAD : Hid (∀ z, Sep w.heap.size w z [.box b5 (.cells #[.int .i64 fm, .int .i64 tt, .string ye] 45 (0, 0)), .box b3 (.cells vs 63 (0, 0))] → z.cell? ⟨b3, 0, none⟩ = some (.slice qr nt fr) ∧ ∀ j v, ds[j]? = some v → z.cell? ⟨b3, 1 + j, none⟩ = some v) := Lib.hid fun z hz => ⟨(hz.tl.boxAt 0).trans HV.out.r, fun j v hj => (hz.tl.boxAt (1 + j)).trans (HV.out.d j v hj)⟩
  clear hv hd hm hR hkr hkl hsm hnt hwid hln
  go_enter Try.func5, Try.ntmps5
  go_upto_region 1 with fail
  refine at_world (fun y => Sep w.heap.size w y [.box b5 (.cells #[.int .i64 fm, .int .i64 tt, .string ye] 45 (0, 0)), .box b3 (.cells vs 63 (0, 0))]) S0.out fun y hy => ?_
  have S1 := Lib.hid hy
  clear hy S0 hb3 hb5
  go_cut [29] from 17 to 29 (fun s29 wx => (s29 = .bool true ∨ (s29 = .bool false ∧ sm = true ∧ ye.size ≤ 100)) ∧ Hid (Sep w.heap.size w wx [.box b5 (.cells #[.int .i64 fm, .int .i64 tt, .string ye] 45 (0, 0)), .box b3 (.cells vs 63 (0, 0))]))
  case first =>
    have c0 := (HLOAD.out y S1.out).1
    have HC := Lib.hid (HLOAD.out y S1.out).2
    go_wp2_with (refine wpList_load_Do _ rfl b3 1 ds rfl HC.out HSZ.out rfl ?_)
    refine (HSM.out _ S1.out.bel).mono ?_
    rintro _ w2 ⟨rfl, hb⟩
    have S2 := Lib.hid (S1.out.up hb)
    have f2 : w2.cell? ⟨b5, 2, none⟩ = some (.string ye) := S2.out.boxAt 2
    clear hb c0 HC S1
    cases sm with
    | false =>
      go_wp2_with fail
      go_meet
      case rel => exact ⟨.inl rfl, S2⟩
    | true =>
      by_cases h1 : (ye.size : Int) > 100
      · have h1' : (100 : Int) < (ye.size : Int) := h1
        go_wp2_with fail
        go_meet
        case rel => exact ⟨.inl (by simp [h1']), S2⟩
      · have h1' : ¬ (100 : Int) < (ye.size : Int) := h1
        go_wp2_with fail
        go_meet
        case rel => exact ⟨.inr (by simp [h1']; omega), S2⟩
  case rest =>
    obtain ⟨hor, S2⟩ := hcut
    obtain ⟨y1, rfl⟩ : ∃ y : World, y = wc := ⟨_, rfl⟩
    rcases hor with rfl | ⟨rfl, rfl, h1⟩
    · go_wp2_with fail
      go_ret
      exact ⟨rfl, S2.out.bel⟩
    · have HYE := Lib.hid h1
      clear h1
      obtain ⟨K, hK⟩ : ∃ K, Ed.checkZ x.size fm tt ye = K := ⟨_, rfl⟩
      have HUN : Hid (∀ z, Calls Try.prog 22 #[.string x, .agg #[.int .i64 fm, .int .i64 tt, .string ye]] z (UnP x fm tt ye K z)) := Lib.hid fun z => undo_any x fm tt ye (by omega) (by omega) hK z
      have HK := Lib.hid hK
      clear hK
      obtain ⟨g1, g2, g3⟩ := smA_true HSME.out
      have hrw : ∀ r ∈ d.nx, r.length ≤ 1000000 := fun r hr => by
        have : ∀ (l : List (List Int)), r ∈ l → r.length ≤ sumL l := by
          intro l
          induction l with
          | nil => intro h; cases h
          | cons a l ih => intro h; rcases List.mem_cons.1 h with rfl | h <;> simp only [sumL] <;> first | omega | (have := ih h; omega)
        have := this d.nx hr
        omega
      have hN := HNT.out
      have c0 := (HLOAD.out y1 S2.out).1
      have HC := Lib.hid (HLOAD.out y1 S2.out).2
      have HNEW : Hid (Calls Try.prog 21 #[.slice qr nt fr, .agg ds, .string x] y1 (NewP y1 d kl x (newE d kl x))) := Lib.hid (by
        have e := new_any (N := w.heap.size) (fr := fr) x S2.out.bel.size HD.out (HM.out y1 S2.out.bel) (HKR.out y1 S2.out.bel) (by rw [HKL.out]; omega) (by omega) (by omega) hrw hx
        rw [HKL.out] at e
        exact e)
      have HKB : Hid (kl.length ≤ 1000000) := Lib.hid (by rw [HKL.out]; omega)
      obtain ⟨E, hE⟩ : ∃ E, newE d kl x = E := ⟨_, rfl⟩
      rw [hE] at HNEW
      have HEE := Lib.hid hE
      clear hE hrw g2 g3 hN
      go_wp2_with (refine wpList_load_Do _ rfl b3 1 ds rfl HC.out HSZ.out rfl ?_)
      refine HNEW.out.mono ?_
      rintro _ w3 ⟨hb, hor⟩
      have S3 := Lib.hid (S2.out.up hb)
      clear hb c0 HC HNEW S2
      rcases hor with ⟨hne, rfl⟩ | ⟨rfl, bS, rfl, hsc⟩
      · have hne2 : (E != 0) = true := by simp [hne]
        have f0 : w3.cell? ⟨b5, 0, none⟩ = some (.int .i64 fm) := S3.out.boxAt 0
        have f1 : w3.cell? ⟨b5, 1, none⟩ = some (.int .i64 tt) := S3.out.boxAt 1
        have f2 : w3.cell? ⟨b5, 2, none⟩ = some (.string ye) := S3.out.boxAt 2
        go_wp2_with fail
        refine (HUN.out _).mono ?_
        rintro _ w4 ⟨u0, u1, u2, rfl, hb, hu⟩
        have HU := Lib.hid hu
        clear hu
        obtain ⟨b9, hb9⟩ : ∃ b, w4.heap.size = b := ⟨_, rfl⟩
        have T5 := Lib.hid (And.intro ((S3.out.up hb).allocAt hb9 (.cells #[.int .i64 u0, .int .i64 u1, .string u2] 45)) (hb.alloc hb.size (.cells #[.int .i64 u0, .int .i64 u1, .string u2] 45)))
        clear hb f0 f1 f2
        go_upto_region 5 with fail
        refine at_world (fun y => Sep w.heap.size w y [.box b9 (.cells #[.int .i64 u0, .int .i64 u1, .string u2] 45 (0, 0)), .box b5 (.cells #[.int .i64 fm, .int .i64 tt, .string ye] 45 (0, 0)), .box b3 (.cells vs 63 (0, 0))] ∧ Below w3.heap.size w3 y) T5.out fun y5 hy => ?_
        have S5 := Lib.hid hy
        clear hy T5 hb9
        have HAL := Lib.hid (alive12_any y5)
        go_wp2_with fail
        refine HAL.out.mono ?_
        rintro _ w6 ⟨rfl, hb⟩
        have S6 := Lib.hid (S5.out.1.up hb)
        clear hb
        go_wp2_with fail
        go_ret
        exact ⟨rfl, S6.out.bel⟩
      · have HSC := Lib.hid hsc
        have HF : Hid (Fine d kl x) := Lib.hid (newE_ok HKB.out HEE.out).2
        clear hsc
        have f0 : w3.cell? ⟨b5, 0, none⟩ = some (.int .i64 fm) := S3.out.boxAt 0
        have f1 : w3.cell? ⟨b5, 1, none⟩ = some (.int .i64 tt) := S3.out.boxAt 1
        have f2 : w3.cell? ⟨b5, 2, none⟩ = some (.string ye) := S3.out.boxAt 2
        go_wp2_with fail
        refine (HUN.out _).mono ?_
        rintro _ w4 ⟨u0, u1, u2, rfl, hb, hu⟩
        have HU := Lib.hid hu
        clear hu
        obtain ⟨b9, hb9⟩ : ∃ b, w4.heap.size = b := ⟨_, rfl⟩
        have T5 := Lib.hid (And.intro ((S3.out.up hb).allocAt hb9 (.cells #[.int .i64 u0, .int .i64 u1, .string u2] 45)) (hb.alloc hb.size (.cells #[.int .i64 u0, .int .i64 u1, .string u2] 45)))
        clear hb f0 f1 f2
        go_upto_region 5 with fail
        refine at_world (fun y => Sep w.heap.size w y [.box b9 (.cells #[.int .i64 u0, .int .i64 u1, .string u2] 45 (0, 0)), .box b5 (.cells #[.int .i64 fm, .int .i64 tt, .string ye] 45 (0, 0)), .box b3 (.cells vs 63 (0, 0))] ∧ Below w3.heap.size w3 y) T5.out fun y5 hy => ?_
        have S5 := Lib.hid hy
        clear hy T5 hb9
        have HAL := Lib.hid (alive12_any y5)
        by_cases hK0 : K = 0
        · subst hK0
          obtain ⟨a, c, rfl, rfl, rfl, rfl, rfl⟩ := HU.out rfl
          obtain ⟨t, ht, htz, he1, hc2, ht2, he2⟩ := undo_fits HK.out
          have HG : Hid (Fine d kl t) := Lib.hid ⟨HF.out.may, HF.out.rl, HF.out.kn, htz⟩
          obtain ⟨m1, hm1⟩ : ∃ n, (scL d kl t).length = n := ⟨_, rfl⟩
          obtain ⟨m2, hm2⟩ : ∃ n, (scX d kl t).marks.length = n := ⟨_, rfl⟩
          obtain ⟨m3, hm3⟩ : ∃ n, (scX d kl t).counts.length = n := ⟨_, rfl⟩
          obtain ⟨m4, hm4⟩ : ∃ n, (scX d kl t).toks.length = n := ⟨_, rfl⟩
          obtain ⟨n1, hn1⟩ : ∃ n, (scL d kl x).length = n := ⟨_, rfl⟩
          obtain ⟨n2, hn2⟩ : ∃ n, (scX d kl x).marks.length = n := ⟨_, rfl⟩
          obtain ⟨n3, hn3⟩ : ∃ n, (scX d kl x).counts.length = n := ⟨_, rfl⟩
          obtain ⟨n4, hn4⟩ : ∃ n, (scX d kl x).toks.length = n := ⟨_, rfl⟩
          obtain ⟨c1, hc1⟩ : ∃ n, cpre (scX d kl x).toks (scX d kl t).toks = n := ⟨_, rfl⟩
          obtain ⟨c2, hcs⟩ : ∃ n, csuf (scX d kl x).toks (scX d kl t).toks = n := ⟨_, rfl⟩
          have HED1 : Hid (Calls Try.prog 16 #[.pointer (some ⟨bS, 0, none⟩), .agg #[.int .i64 (a : Nat), .int .i64 (c : Nat), .string ye]] y5 fun r w' => ∃ bq bs q1 q3 q4 e1 e3 e4 bT bR cnt o1 o2 o3 o4 r1 r2 r3 r4 l1 l2 l3 l4 ws J, r = .returned (.tuple #[.pointer (some ⟨bq, 0, none⟩), .agg #[.slice q1 m1 e1, .slice (some ⟨bT, 0, none⟩) m2 m2, .slice q3 m3 e3, .slice q4 m4 e4, .int .i64 (c1 : Nat), .int .i64 (c2 : Nat), .int .i64 cnt], .int .i64 0]) ∧ NsI y5.heap.size y5 [] J d kl t bq bs o1 o2 o3 o4 r1 r2 r3 r4 l1 l2 l3 l4 ws q1 q3 q4 e1 e3 e4 bT bR w') := Lib.hid (by
            refine (edit_fr (Nat.le_refl _) (Nat.le_refl _) (Sep.start y5) (HSC.out.up S5.out.2.size (Nat.le_refl _) S5.out.2) HF.out HG.out HK.out ht he1).mono ?_
            rintro r w' ⟨bq, bs, q1, q3, q4, e1, e3, e4, bT, bR, cnt, o1, o2, o3, o4, r1, r2, r3, r4, l1, l2, l3, l4, ws, J, rfl, _, hR⟩
            refine ⟨bq, bs, q1, q3, q4, e1, e3, e4, bT, bR, cnt, o1, o2, o3, o4, r1, r2, r3, r4, l1, l2, l3, l4, ws, J, ?_, hR⟩
            rw [hc1, hcs, rlV, hm1, hm2, hm3, hm4])
          have f0 : y5.cell? ⟨b5, 0, none⟩ = some (.int .i64 (a : Nat)) := S5.out.1.tl.boxAt 0
          have f1 : y5.cell? ⟨b5, 1, none⟩ = some (.int .i64 (c : Nat)) := S5.out.1.tl.boxAt 1
          have f2 : y5.cell? ⟨b5, 2, none⟩ = some (.string ye) := S5.out.1.tl.boxAt 2
          have HE2 := Lib.hid (And.intro hc2 (And.intro ht2 he2))
          have HN4 := Lib.hid (And.intro hn1 (And.intro hn2 (And.intro hn3 hn4)))
          have HCC := Lib.hid (And.intro ((cpre_comm _ _).trans hc1) ((csuf_comm _ _).trans hcs))
          clear hm1 hm2 hm3 hm4 hn1 hn2 hn3 hn4 hc1 hcs hc2 ht2 he2 he1 ht htz
          go_wp2_with fail
          refine HED1.out.mono ?_
          rintro _ z1 ⟨bq, bs, q1, q3, q4, e1, e3, e4, bT, bR, cnt, o1, o2, o3, o4, r1, r2, r3, r4, l1, l2, l3, l4, ws, J, rfl, hR⟩
          have HR := Lib.hid hR
          clear hR HED1 f0 f1 f2
          obtain ⟨b12, hb12⟩ : ∃ b, z1.heap.size = b := ⟨_, rfl⟩
          have T8 := Lib.hid (And.intro ((HR.out.sp.allocAt hb12 (.cells #[.slice q1 m1 e1, .slice (some ⟨bT, 0, none⟩) m2 m2, .slice q3 m3 e3, .slice q4 m4 e4, .int .i64 (c1 : Nat), .int .i64 (c2 : Nat), .int .i64 cnt] 51)).sub (.cons_cons _ (List.nil_sublist _))) ((Below.refl z1.heap.size z1).alloc (Nat.le_refl _) (.cells #[.slice q1 m1 e1, .slice (some ⟨bT, 0, none⟩) m2 m2, .slice q3 m3 e3, .slice q4 m4 e4, .int .i64 (c1 : Nat), .int .i64 (c2 : Nat), .int .i64 cnt] 51)))
          go_upto_region 8 with fail
          refine at_world (fun y => Sep y5.heap.size y5 y [.box b12 (.cells #[.slice q1 m1 e1, .slice (some ⟨bT, 0, none⟩) m2 m2, .slice q3 m3 e3, .slice q4 m4 e4, .int .i64 (c1 : Nat), .int .i64 (c2 : Nat), .int .i64 cnt] 51 (0, 0))] ∧ Below z1.heap.size z1 y) T8.out fun y6 hy => ?_
          have HSQ : Hid (ScV y6.heap.size y6 bq d kl t) := Lib.hid (HR.out.up hy.2).sc
          have S7 := Lib.hid hy.1
          clear hy T8 hb12 HR
          have S8 : Hid (Sep w.heap.size w y6 [.box b9 (.cells #[.int .i64 (a : Nat), .int .i64 ((a + ye.size : Nat) : Int), .string (x.extract a c)] 45 (0, 0)), .box b5 (.cells #[.int .i64 (a : Nat), .int .i64 (c : Nat), .string ye] 45 (0, 0)), .box b3 (.cells vs 63 (0, 0))]) := Lib.hid (S5.out.1.up S7.out.bel)
          have HED2 : Hid (Calls Try.prog 16 #[.pointer (some ⟨bq, 0, none⟩), .agg #[.int .i64 (a : Nat), .int .i64 ((a + ye.size : Nat) : Int), .string (x.extract a c)]] y6 fun r w' => ∃ bk bz p1 p3 p4 g1 g3 g4 bU bV cn2 o5 o6 o7 o8 r5 r6 r7 r8 l5 l6 l7 l8 vz J2, r = .returned (.tuple #[.pointer (some ⟨bk, 0, none⟩), .agg #[.slice p1 n1 g1, .slice (some ⟨bU, 0, none⟩) n2 n2, .slice p3 n3 g3, .slice p4 n4 g4, .int .i64 (c1 : Nat), .int .i64 (c2 : Nat), .int .i64 cn2], .int .i64 0]) ∧ NsI y6.heap.size y6 [] J2 d kl x bk bz o5 o6 o7 o8 r5 r6 r7 r8 l5 l6 l7 l8 vz p1 p3 p4 g1 g3 g4 bU bV w') := Lib.hid (by
            refine (edit_fr (Nat.le_refl _) (Nat.le_refl _) (Sep.start y6) HSQ.out HG.out HF.out HE2.out.1 HE2.out.2.1 HE2.out.2.2).mono ?_
            rintro r w' ⟨bk, bz, p1, p3, p4, g1, g3, g4, bU, bV, cn2, o5, o6, o7, o8, r5, r6, r7, r8, l5, l6, l7, l8, vz, J2, rfl, _, hR⟩
            refine ⟨bk, bz, p1, p3, p4, g1, g3, g4, bU, bV, cn2, o5, o6, o7, o8, r5, r6, r7, r8, l5, l6, l7, l8, vz, J2, ?_, hR⟩
            rw [HCC.out.1, HCC.out.2, rlV, HN4.out.1, HN4.out.2.1, HN4.out.2.2.1, HN4.out.2.2.2])
          have f0 : y6.cell? ⟨b9, 0, none⟩ = some (.int .i64 (a : Nat)) := S8.out.boxAt 0
          have f1 : y6.cell? ⟨b9, 1, none⟩ = some (.int .i64 ((a + ye.size : Nat) : Int)) := S8.out.boxAt 1
          have f2 : y6.cell? ⟨b9, 2, none⟩ = some (.string (x.extract a c)) := S8.out.boxAt 2
          go_wp2_with fail
          refine HED2.out.mono ?_
          rintro _ z2 ⟨bk, bz, p1, p3, p4, g1, g3, g4, bU, bV, cn2, o5, o6, o7, o8, r5, r6, r7, r8, l5, l6, l7, l8, vz, J2, rfl, hR⟩
          have HR := Lib.hid hR
          clear hR HED2 f0 f1 f2
          obtain ⟨b15, hb15⟩ : ∃ b, z2.heap.size = b := ⟨_, rfl⟩
          have T9 := Lib.hid (And.intro ((HR.out.sp.allocAt hb15 (.cells #[.slice p1 n1 g1, .slice (some ⟨bU, 0, none⟩) n2 n2, .slice p3 n3 g3, .slice p4 n4 g4, .int .i64 (c1 : Nat), .int .i64 (c2 : Nat), .int .i64 cn2] 51)).sub (.cons_cons _ (List.nil_sublist _))) ((Below.refl z2.heap.size z2).alloc (Nat.le_refl _) (.cells #[.slice p1 n1 g1, .slice (some ⟨bU, 0, none⟩) n2 n2, .slice p3 n3 g3, .slice p4 n4 g4, .int .i64 (c1 : Nat), .int .i64 (c2 : Nat), .int .i64 cn2] 51)))
          go_upto_region 11 with fail
          refine at_world (fun y => Sep y6.heap.size y6 y [.box b15 (.cells #[.slice p1 n1 g1, .slice (some ⟨bU, 0, none⟩) n2 n2, .slice p3 n3 g3, .slice p4 n4 g4, .int .i64 (c1 : Nat), .int .i64 (c2 : Nat), .int .i64 cn2] 51 (0, 0))] ∧ Below z2.heap.size z2 y) T9.out fun y7 hy => ?_
          have HSK : Hid (ScV y7.heap.size y7 bk d kl x) := Lib.hid (HR.out.up hy.2).sc
          have HLV : Hid (LV y7.heap.size y7 (scL d kl x) (scX d kl x) p1 (some ⟨bU, 0, none⟩) p3 p4 g1 (scX d kl x).marks.length g3 g4) := Lib.hid (HR.out.up hy.2).lv
          have S9 := Lib.hid hy.1
          clear hy T9 hb15 HR
          have HB37 := Lib.hid ((S5.out.2.trans (S7.out.bel.mono S5.out.2.size)).trans (S9.out.bel.mono (Nat.le_trans S5.out.2.size S7.out.bel.size)))
          have HSS : Hid (ScV y7.heap.size y7 bS d kl x) := Lib.hid (HSC.out.up HB37.out.size (Nat.le_refl _) HB37.out)
          have HLK : Hid (∀ z, Below y7.heap.size y7 z → Calls Try.prog 18 #[.pointer (some ⟨bk, 0, none⟩)] z fun r w' => ∃ k1 k3 k4 j1 j3 j4 bZ bW, r = .returned (.agg #[.slice k1 n1 j1, .slice (some ⟨bZ, 0, none⟩) n2 n2, .slice k3 n3 j3, .slice k4 n4 j4]) ∧ Below z.heap.size z w' ∧ LV w'.heap.size w' (scL d kl x) (scX d kl x) k1 (some ⟨bZ, 0, none⟩) k3 k4 j1 (scX d kl x).marks.length j3 j4) := Lib.hid (fun z hz => by
            refine (lexed_any (B := z.heap.size) (w0 := z) (Nat.le_refl _) (HSK.out.up hz.size (Nat.le_refl _) hz) HF.out (Sep.start z)).mono ?_
            intro r w' h
            obtain ⟨k1, k3, k4, j1, j3, j4, bZ, bW, rfl, hs⟩ := h.cq
            refine ⟨k1, k3, k4, j1, j3, j4, bZ, bW, ?_, hs.bel, cp_lv hs⟩
            rw [cpV, HN4.out.1, HN4.out.2.1, HN4.out.2.2.1, HN4.out.2.2.2])
          have HLS : Hid (∀ z, Below y7.heap.size y7 z → Calls Try.prog 18 #[.pointer (some ⟨bS, 0, none⟩)] z fun r w' => ∃ k1 k3 k4 j1 j3 j4 bZ bW, r = .returned (.agg #[.slice k1 n1 j1, .slice (some ⟨bZ, 0, none⟩) n2 n2, .slice k3 n3 j3, .slice k4 n4 j4]) ∧ Below z.heap.size z w' ∧ LV w'.heap.size w' (scL d kl x) (scX d kl x) k1 (some ⟨bZ, 0, none⟩) k3 k4 j1 (scX d kl x).marks.length j3 j4) := Lib.hid (fun z hz => by
            refine (lexed_any (B := z.heap.size) (w0 := z) (Nat.le_refl _) (HSS.out.up hz.size (Nat.le_refl _) hz) HF.out (Sep.start z)).mono ?_
            intro r w' h
            obtain ⟨k1, k3, k4, j1, j3, j4, bZ, bW, rfl, hs⟩ := h.cq
            refine ⟨k1, k3, k4, j1, j3, j4, bZ, bW, ?_, hs.bel, cp_lv hs⟩
            rw [cpV, HN4.out.1, HN4.out.2.1, HN4.out.2.2.1, HN4.out.2.2.2])
          have HSM2 : Hid (∀ (M N : Nat) (z : World) (k1 k3 k4 u1 u3 u4 : Option Addr) (j1 j3 j4 i1 i3 i4 bZ bW : Nat), M ≤ z.heap.size → N ≤ z.heap.size → LV M z (scL d kl x) (scX d kl x) k1 (some ⟨bZ, 0, none⟩) k3 k4 j1 (scX d kl x).marks.length j3 j4 → LV N z (scL d kl x) (scX d kl x) u1 (some ⟨bW, 0, none⟩) u3 u4 i1 (scX d kl x).marks.length i3 i4 → Calls Try.prog 11 #[.agg #[.slice k1 n1 j1, .slice (some ⟨bZ, 0, none⟩) n2 n2, .slice k3 n3 j3, .slice k4 n4 j4], .agg #[.slice u1 n1 i1, .slice (some ⟨bW, 0, none⟩) n2 n2, .slice u3 n3 i3, .slice u4 n4 i4]] z fun e w' => e = .returned (.bool true) ∧ Below z.heap.size z w') := Lib.hid (fun M N z k1 k3 k4 u1 u3 u4 j1 j3 j4 i1 i3 i4 bZ bW hM hN h h' => by
            have hl := HF.out.lens
            have h := samelx_any (w := z) hM hN h h' (by have := hl.l1; omega) (by have h1 := hl.l1; have h2 := hl.l2; rw [h2]; omega) (by have h1 := hl.l1; have h2 := hl.l3; rw [h2]; omega) (Nat.le_trans hl.l4 (by decide)) (fun m hm => Nat.le_trans (HF.out.mks.1 m hm).len (by decide))
            rw [HN4.out.1, HN4.out.2.1, HN4.out.2.2.1, HN4.out.2.2.2] at h
            exact h)
          have U0 : Hid ((fun z => Sep y6.heap.size y6 z [.box b15 (.cells #[.slice p1 n1 g1, .slice (some ⟨bU, 0, none⟩) n2 n2, .slice p3 n3 g3, .slice p4 n4 g4, .int .i64 (c1 : Nat), .int .i64 (c2 : Nat), .int .i64 cn2] 51 (0, 0))] ∧ Below y7.heap.size y7 z) y7.drew) := Lib.hid ⟨S9.out.drew, below_drewN (Below.refl _ _) 1⟩
          refine wp_region_held_drew (S := fun z => Sep y6.heap.size y6 z [.box b15 (.cells #[.slice p1 n1 g1, .slice (some ⟨bU, 0, none⟩) n2 n2, .slice p3 n3 g3, .slice p4 n4 g4, .int .i64 (c1 : Nat), .int .i64 (c2 : Nat), .int .i64 cn2] 51 (0, 0))] ∧ Below y7.heap.size y7 z) (by kernel_rfl) U0.out (fun hHeld => ?_)
          refine wpAnyH_take (i := 0) (v := .int .i64 0) rfl (by kernel_rfl) (by kernel_rfl) (by kernel_rfl) (fun _ _ _ h => h) (Or.inl ⟨by rfl, by (intro w hSw; (try dsimp only at hSw); go_simp)⟩) hHeld ?_
          (try simp only [Act.put, List.getElem_toArray, List.getElem_cons_zero, List.getElem_cons_succ, List.setIfInBounds_toArray, List.set_cons_zero, List.set_cons_succ])
          refine wpAnyH_take (i := 1) (v := .bool true) rfl (by kernel_rfl) (by kernel_rfl) (by kernel_rfl) (fun _ _ _ h => h) (Or.inl ⟨by rfl, by (intro w hSw; (try dsimp only at hSw); go_simp)⟩) hHeld ?_
          (try simp only [Act.put, List.getElem_toArray, List.getElem_cons_zero, List.getElem_cons_succ, List.setIfInBounds_toArray, List.set_cons_zero, List.set_cons_succ])
          refine wpAnyH_take (i := 2) (v := .bool true) rfl (by kernel_rfl) (by kernel_rfl) (by kernel_rfl) (fun _ _ _ h => h) (Or.inl ⟨by rfl, by (intro w hSw; (try dsimp only at hSw); go_simp)⟩) hHeld ?_
          (try simp only [Act.put, List.getElem_toArray, List.getElem_cons_zero, List.getElem_cons_succ, List.setIfInBounds_toArray, List.set_cons_zero, List.set_cons_succ])
          refine wpAnyH_take (i := 3) (v := .pointer (some ⟨bk, 0, none⟩)) rfl (by kernel_rfl) (by kernel_rfl) (by kernel_rfl) (fun _ _ _ h => h) (Or.inl ⟨by rfl, by (intro w hSw; (try dsimp only at hSw); go_simp)⟩) hHeld ?_
          (try simp only [Act.put, List.getElem_toArray, List.getElem_cons_zero, List.getElem_cons_succ, List.setIfInBounds_toArray, List.set_cons_zero, List.set_cons_succ])
          refine wpAnyH_take (i := 5) (v := .string x) rfl (by kernel_rfl) (by kernel_rfl) (by kernel_rfl) (fun _ _ _ h => h) (Or.inl ⟨by rfl, by (intro w hSw; (try dsimp only at hSw); go_simp)⟩) hHeld ?_
          (try simp only [Act.put, List.getElem_toArray, List.getElem_cons_zero, List.getElem_cons_succ, List.setIfInBounds_toArray, List.set_cons_zero, List.set_cons_succ])
          refine wpAnyH_ready (rs := [4]) (by kernel_rfl) (by simp) ?_
          refine AllReadyH.cons rfl (fun K hK => ?_) (AllReadyH.nil)
          rw [if_pos (by rfl)]
          go_wp2_with fail
          refine (text_any (HSK.out.up U0.out.2.size (Nat.le_refl _) U0.out.2)).mono ?_
          rintro _ z_0 ⟨rfl, rfl⟩
          refine hK.out _ _ U0.out (fun hHeld2 => ?_)
          clear hHeld hK
          have hHeld := hHeld2
          clear hHeld2
          (try simp only [Act.put, List.getElem_toArray, List.getElem_cons_zero, List.getElem_cons_succ, List.setIfInBounds_toArray, List.set_cons_zero, List.set_cons_succ])
          refine wpAnyH_take (i := 6) (v := .bool true) rfl (by kernel_rfl) (by kernel_rfl) (by kernel_rfl) (fun _ _ _ h => h) (Or.inl ⟨by rfl, by (intro w hSw; (try dsimp only at hSw); go_simp)⟩) hHeld ?_
          (try simp only [Act.put, List.getElem_toArray, List.getElem_cons_zero, List.getElem_cons_succ, List.setIfInBounds_toArray, List.set_cons_zero, List.set_cons_succ])
          refine wpAnyH_take (i := 7) (v := .bool true) rfl (by kernel_rfl) (by kernel_rfl) (by kernel_rfl) (fun _ _ _ h => h) (Or.inl ⟨by rfl, by (intro w hSw; (try dsimp only at hSw); go_simp)⟩) hHeld ?_
          (try simp only [Act.put, List.getElem_toArray, List.getElem_cons_zero, List.getElem_cons_succ, List.setIfInBounds_toArray, List.set_cons_zero, List.set_cons_succ])
          refine wpAnyH_take (i := 8) (v := .bool true) rfl (by kernel_rfl) (by kernel_rfl) (by kernel_rfl) (fun _ _ _ h => h) (Or.inl ⟨by rfl, by (intro w hSw; (try dsimp only at hSw); go_simp)⟩) hHeld ?_
          (try simp only [Act.put, List.getElem_toArray, List.getElem_cons_zero, List.getElem_cons_succ, List.setIfInBounds_toArray, List.set_cons_zero, List.set_cons_succ])
          refine wpAnyH_take (i := 9) (v := .pointer (some ⟨b15, 0, none⟩)) rfl (by kernel_rfl) (by kernel_rfl) (by kernel_rfl) (fun _ _ _ h => h) (Or.inl ⟨by rfl, by (intro w hSw; (try dsimp only at hSw); go_simp)⟩) hHeld ?_
          (try simp only [Act.put, List.getElem_toArray, List.getElem_cons_zero, List.getElem_cons_succ, List.setIfInBounds_toArray, List.set_cons_zero, List.set_cons_succ])
          refine wpAnyH_take (i := 10) (v := .agg #[.slice p1 n1 g1, .slice (some ⟨bU, 0, none⟩) n2 n2, .slice p3 n3 g3, .slice p4 n4 g4]) rfl (by kernel_rfl) (by kernel_rfl) (by kernel_rfl) (fun _ _ _ h => h) (Or.inl ⟨by rfl, (by intro w9 hSw; (try dsimp only at hSw); obtain ⟨hs1, hs2⟩ := hSw; have c0_ := hs1.boxAt 0; have c1_ := hs1.boxAt 1; have c2_ := hs1.boxAt 2; have c3_ := hs1.boxAt 3; simp only [List.getElem?_toArray, List.getElem?_cons_zero, List.getElem?_cons_succ] at c0_ c1_ c2_ c3_; go_simp)⟩) hHeld ?_
          (try simp only [Act.put, List.getElem_toArray, List.getElem_cons_zero, List.getElem_cons_succ, List.setIfInBounds_toArray, List.set_cons_zero, List.set_cons_succ])
          refine wpAnyH_take (i := 11) (v := .pointer (some ⟨bS, 0, none⟩)) rfl (by kernel_rfl) (by kernel_rfl) (by kernel_rfl) (fun _ _ _ h => h) (Or.inl ⟨by rfl, by (intro w hSw; (try dsimp only at hSw); go_simp)⟩) hHeld ?_
          (try simp only [Act.put, List.getElem_toArray, List.getElem_cons_zero, List.getElem_cons_succ, List.setIfInBounds_toArray, List.set_cons_zero, List.set_cons_succ])
          refine wpAnyH_ready (rs := [12]) (by kernel_rfl) (by simp) ?_
          refine AllReadyH.cons rfl (fun K hK => ?_) (AllReadyH.nil)
          rw [if_pos (by rfl)]
          go_wp2_with fail
          refine (HLS.out _ U0.out.2).mono ?_
          rintro _ z_U1 ⟨k1, k3, k4, j1, j3, j4, bZ, bW, rfl, hb, hlz⟩
          have HLU1 := Lib.hid hlz
          clear hlz
          have U1 : Hid ((fun z => Sep y6.heap.size y6 z [.box b15 (.cells #[.slice p1 n1 g1, .slice (some ⟨bU, 0, none⟩) n2 n2, .slice p3 n3 g3, .slice p4 n4 g4, .int .i64 (c1 : Nat), .int .i64 (c2 : Nat), .int .i64 cn2] 51 (0, 0))] ∧ Below y7.heap.size y7 z) z_U1) := Lib.hid ⟨U0.out.1.up hb, U0.out.2.trans (hb.mono U0.out.2.size)⟩
          refine hK.out _ _ U1.out (fun hHeld2 => ?_)
          clear hHeld hK
          have hHeld := hHeld2
          clear hHeld2
          (try simp only [Act.put, List.getElem_toArray, List.getElem_cons_zero, List.getElem_cons_succ, List.setIfInBounds_toArray, List.set_cons_zero, List.set_cons_succ])
          clear hb
          refine wpAnyH_ready (rs := [13]) (by kernel_rfl) (by simp) ?_
          refine AllReadyH.cons rfl (fun K hK => ?_) (AllReadyH.nil)
          rw [if_pos (by rfl)]
          go_wp2_with fail
          refine (HSM2.out _ _ _ _ _ _ _ _ _ _ _ _ _ _ _ _ _ U1.out.2.size (Nat.le_refl _) (HLV.out.up (Nat.le_refl _) U1.out.2) HLU1.out).mono ?_
          rintro _ z_U2 ⟨rfl, hb⟩
          have U2 : Hid ((fun z => Sep y6.heap.size y6 z [.box b15 (.cells #[.slice p1 n1 g1, .slice (some ⟨bU, 0, none⟩) n2 n2, .slice p3 n3 g3, .slice p4 n4 g4, .int .i64 (c1 : Nat), .int .i64 (c2 : Nat), .int .i64 cn2] 51 (0, 0))] ∧ Below y7.heap.size y7 z) z_U2) := Lib.hid ⟨U1.out.1.up hb, U1.out.2.trans (hb.mono U1.out.2.size)⟩
          refine hK.out _ _ U2.out (fun hHeld2 => ?_)
          clear hHeld hK
          have hHeld := hHeld2
          clear hHeld2
          (try simp only [Act.put, List.getElem_toArray, List.getElem_cons_zero, List.getElem_cons_succ, List.setIfInBounds_toArray, List.set_cons_zero, List.set_cons_succ])
          clear hb
          refine wpAnyH_take (i := 14) (v := .bool true) rfl (by kernel_rfl) (by kernel_rfl) (by kernel_rfl) (fun _ _ _ h => h) (Or.inl ⟨by rfl, by (intro w hSw; (try dsimp only at hSw); go_simp)⟩) hHeld ?_
          (try simp only [Act.put, List.getElem_toArray, List.getElem_cons_zero, List.getElem_cons_succ, List.setIfInBounds_toArray, List.set_cons_zero, List.set_cons_succ])
          refine wpAnyH_take (i := 15) (v := .bool true) rfl (by kernel_rfl) (by kernel_rfl) (by kernel_rfl) (fun _ _ _ h => h) (Or.inl ⟨by rfl, by (intro w hSw; (try dsimp only at hSw); go_simp)⟩) hHeld ?_
          (try simp only [Act.put, List.getElem_toArray, List.getElem_cons_zero, List.getElem_cons_succ, List.setIfInBounds_toArray, List.set_cons_zero, List.set_cons_succ])
          refine wpAnyH_take (i := 16) (v := .pointer (some ⟨bk, 0, none⟩)) rfl (by kernel_rfl) (by kernel_rfl) (by kernel_rfl) (fun _ _ _ h => h) (Or.inl ⟨by rfl, by (intro w hSw; (try dsimp only at hSw); go_simp)⟩) hHeld ?_
          (try simp only [Act.put, List.getElem_toArray, List.getElem_cons_zero, List.getElem_cons_succ, List.setIfInBounds_toArray, List.set_cons_zero, List.set_cons_succ])
          refine wpAnyH_take (i := 18) (v := .pointer (some ⟨bS, 0, none⟩)) rfl (by kernel_rfl) (by kernel_rfl) (by kernel_rfl) (fun _ _ _ h => h) (Or.inl ⟨by rfl, by (intro w hSw; (try dsimp only at hSw); go_simp)⟩) hHeld ?_
          (try simp only [Act.put, List.getElem_toArray, List.getElem_cons_zero, List.getElem_cons_succ, List.setIfInBounds_toArray, List.set_cons_zero, List.set_cons_succ])
          refine wpAnyH_ready (rs := [17]) (by kernel_rfl) (by simp) ?_
          refine AllReadyH.cons rfl (fun K hK => ?_) (AllReadyH.nil)
          rw [if_pos (by rfl)]
          go_wp2_with fail
          refine (HLK.out _ U2.out.2).mono ?_
          rintro _ z_U3 ⟨k1, k3, k4, j1, j3, j4, bZ, bW, rfl, hb, hlz⟩
          have HLU3 := Lib.hid hlz
          clear hlz
          have U3 : Hid ((fun z => Sep y6.heap.size y6 z [.box b15 (.cells #[.slice p1 n1 g1, .slice (some ⟨bU, 0, none⟩) n2 n2, .slice p3 n3 g3, .slice p4 n4 g4, .int .i64 (c1 : Nat), .int .i64 (c2 : Nat), .int .i64 cn2] 51 (0, 0))] ∧ Below y7.heap.size y7 z) z_U3) := Lib.hid ⟨U2.out.1.up hb, U2.out.2.trans (hb.mono U2.out.2.size)⟩
          refine hK.out _ _ U3.out (fun hHeld2 => ?_)
          clear hHeld hK
          have hHeld := hHeld2
          clear hHeld2
          (try simp only [Act.put, List.getElem_toArray, List.getElem_cons_zero, List.getElem_cons_succ, List.setIfInBounds_toArray, List.set_cons_zero, List.set_cons_succ])
          clear hb
          refine wpAnyH_ready (rs := [19]) (by kernel_rfl) (by simp) ?_
          refine AllReadyH.cons rfl (fun K hK => ?_) (AllReadyH.nil)
          rw [if_pos (by rfl)]
          go_wp2_with fail
          refine (HLS.out _ U3.out.2).mono ?_
          rintro _ z_U4 ⟨u1, u3, u4, i1, i3, i4, bX, bY, rfl, hb, hlz⟩
          have HLU4 := Lib.hid hlz
          clear hlz
          have hbl := Lib.hid hb
          have U4 : Hid ((fun z => Sep y6.heap.size y6 z [.box b15 (.cells #[.slice p1 n1 g1, .slice (some ⟨bU, 0, none⟩) n2 n2, .slice p3 n3 g3, .slice p4 n4 g4, .int .i64 (c1 : Nat), .int .i64 (c2 : Nat), .int .i64 cn2] 51 (0, 0))] ∧ Below y7.heap.size y7 z) z_U4) := Lib.hid ⟨U3.out.1.up hb, U3.out.2.trans (hb.mono U3.out.2.size)⟩
          refine hK.out _ _ U4.out (fun hHeld2 => ?_)
          clear hHeld hK
          have hHeld := hHeld2
          clear hHeld2
          (try simp only [Act.put, List.getElem_toArray, List.getElem_cons_zero, List.getElem_cons_succ, List.setIfInBounds_toArray, List.set_cons_zero, List.set_cons_succ])
          clear hb
          refine wpAnyH_ready (rs := [20]) (by kernel_rfl) (by simp) ?_
          refine AllReadyH.cons rfl (fun K hK => ?_) (AllReadyH.nil)
          rw [if_pos (by rfl)]
          go_wp2_with fail
          refine (HSM2.out _ _ _ _ _ _ _ _ _ _ _ _ _ _ _ _ _ hbl.out.size (Nat.le_refl _) (HLU3.out.up (Nat.le_refl _) hbl.out) HLU4.out).mono ?_
          rintro _ z_U5 ⟨rfl, hb⟩
          have U5 : Hid ((fun z => Sep y6.heap.size y6 z [.box b15 (.cells #[.slice p1 n1 g1, .slice (some ⟨bU, 0, none⟩) n2 n2, .slice p3 n3 g3, .slice p4 n4 g4, .int .i64 (c1 : Nat), .int .i64 (c2 : Nat), .int .i64 cn2] 51 (0, 0))] ∧ Below y7.heap.size y7 z) z_U5) := Lib.hid ⟨U4.out.1.up hb, U4.out.2.trans (hb.mono U4.out.2.size)⟩
          refine hK.out _ _ U5.out (fun hHeld2 => ?_)
          clear hHeld hK
          have hHeld := hHeld2
          clear hHeld2
          (try simp only [Act.put, List.getElem_toArray, List.getElem_cons_zero, List.getElem_cons_succ, List.setIfInBounds_toArray, List.set_cons_zero, List.set_cons_succ])
          clear hb
          refine wpAnyH_take (i := 21) (v := .bool true) rfl (by kernel_rfl) (by kernel_rfl) (by kernel_rfl) (fun _ _ _ h => h) (Or.inl ⟨by rfl, by (intro w hSw; (try dsimp only at hSw); go_simp)⟩) hHeld ?_
          (try simp only [Act.put, List.getElem_toArray, List.getElem_cons_zero, List.getElem_cons_succ, List.setIfInBounds_toArray, List.set_cons_zero, List.set_cons_succ])
          refine wpAnyH_take (i := 22) (v := .bool true) rfl (by kernel_rfl) (by kernel_rfl) (by kernel_rfl) (fun _ _ _ h => h) (Or.inl ⟨by rfl, by (intro w hSw; (try dsimp only at hSw); go_simp)⟩) hHeld ?_
          (try simp only [Act.put, List.getElem_toArray, List.getElem_cons_zero, List.getElem_cons_succ, List.setIfInBounds_toArray, List.set_cons_zero, List.set_cons_succ])
          refine wpAnyH_take (i := 23) (v := .pointer (some ⟨b15, 4, none⟩)) rfl (by kernel_rfl) (by kernel_rfl) (by kernel_rfl) (fun _ _ _ h => h) (Or.inl ⟨by rfl, by (intro w hSw; (try dsimp only at hSw); go_simp)⟩) hHeld ?_
          (try simp only [Act.put, List.getElem_toArray, List.getElem_cons_zero, List.getElem_cons_succ, List.setIfInBounds_toArray, List.set_cons_zero, List.set_cons_succ])
          refine wpAnyH_take (i := 24) (v := .int .i64 (c1 : Nat)) rfl (by kernel_rfl) (by kernel_rfl) (by kernel_rfl) (fun _ _ _ h => h) (Or.inl ⟨by rfl, (by intro w9 hSw; (try dsimp only at hSw); obtain ⟨hs1, hs2⟩ := hSw; have c1_ : w9.cell? ⟨b15, 4, none⟩ = some (.int .i64 (c1 : Nat)) := hs1.boxAt 4; go_simp)⟩) hHeld ?_
          (try simp only [Act.put, List.getElem_toArray, List.getElem_cons_zero, List.getElem_cons_succ, List.setIfInBounds_toArray, List.set_cons_zero, List.set_cons_succ])
          refine wpAnyH_take (i := 25) (v := .pointer (some ⟨b12, 4, none⟩)) rfl (by kernel_rfl) (by kernel_rfl) (by kernel_rfl) (fun _ _ _ h => h) (Or.inl ⟨by rfl, by (intro w hSw; (try dsimp only at hSw); go_simp)⟩) hHeld ?_
          (try simp only [Act.put, List.getElem_toArray, List.getElem_cons_zero, List.getElem_cons_succ, List.setIfInBounds_toArray, List.set_cons_zero, List.set_cons_succ])
          refine wpAnyH_take (i := 26) (v := .int .i64 (c1 : Nat)) rfl (by kernel_rfl) (by kernel_rfl) (by kernel_rfl) (fun _ _ _ h => h) (Or.inl ⟨by rfl, (by intro w9 hSw; (try dsimp only at hSw); obtain ⟨hs1, hs2⟩ := hSw; have c1_ : w9.cell? ⟨b12, 4, none⟩ = some (.int .i64 (c1 : Nat)) := (S7.out.up hs1.bel).boxAt 4; go_simp)⟩) hHeld ?_
          (try simp only [Act.put, List.getElem_toArray, List.getElem_cons_zero, List.getElem_cons_succ, List.setIfInBounds_toArray, List.set_cons_zero, List.set_cons_succ])
          refine wpAnyH_take (i := 27) (v := .bool true) rfl (by kernel_rfl) (by kernel_rfl) (by kernel_rfl) (fun _ _ _ h => h) (Or.inl ⟨by rfl, by (intro w hSw; (try dsimp only at hSw); go_simp)⟩) hHeld ?_
          (try simp only [Act.put, List.getElem_toArray, List.getElem_cons_zero, List.getElem_cons_succ, List.setIfInBounds_toArray, List.set_cons_zero, List.set_cons_succ])
          refine wpAnyH_take (i := 28) (v := .bool true) rfl (by kernel_rfl) (by kernel_rfl) (by kernel_rfl) (fun _ _ _ h => h) (Or.inl ⟨by rfl, by (intro w hSw; (try dsimp only at hSw); go_simp)⟩) hHeld ?_
          (try simp only [Act.put, List.getElem_toArray, List.getElem_cons_zero, List.getElem_cons_succ, List.setIfInBounds_toArray, List.set_cons_zero, List.set_cons_succ])
          refine wpAnyH_take (i := 29) (v := .bool true) rfl (by kernel_rfl) (by kernel_rfl) (by kernel_rfl) (fun _ _ _ h => h) (Or.inl ⟨by rfl, by (intro w hSw; (try dsimp only at hSw); go_simp)⟩) hHeld ?_
          (try simp only [Act.put, List.getElem_toArray, List.getElem_cons_zero, List.getElem_cons_succ, List.setIfInBounds_toArray, List.set_cons_zero, List.set_cons_succ])
          refine wpAnyH_take (i := 30) (v := .pointer (some ⟨b15, 5, none⟩)) rfl (by kernel_rfl) (by kernel_rfl) (by kernel_rfl) (fun _ _ _ h => h) (Or.inl ⟨by rfl, by (intro w hSw; (try dsimp only at hSw); go_simp)⟩) hHeld ?_
          (try simp only [Act.put, List.getElem_toArray, List.getElem_cons_zero, List.getElem_cons_succ, List.setIfInBounds_toArray, List.set_cons_zero, List.set_cons_succ])
          refine wpAnyH_take (i := 31) (v := .int .i64 (c2 : Nat)) rfl (by kernel_rfl) (by kernel_rfl) (by kernel_rfl) (fun _ _ _ h => h) (Or.inl ⟨by rfl, (by intro w9 hSw; (try dsimp only at hSw); obtain ⟨hs1, hs2⟩ := hSw; have c1_ : w9.cell? ⟨b15, 5, none⟩ = some (.int .i64 (c2 : Nat)) := hs1.boxAt 5; go_simp)⟩) hHeld ?_
          (try simp only [Act.put, List.getElem_toArray, List.getElem_cons_zero, List.getElem_cons_succ, List.setIfInBounds_toArray, List.set_cons_zero, List.set_cons_succ])
          refine wpAnyH_take (i := 32) (v := .pointer (some ⟨b12, 5, none⟩)) rfl (by kernel_rfl) (by kernel_rfl) (by kernel_rfl) (fun _ _ _ h => h) (Or.inl ⟨by rfl, by (intro w hSw; (try dsimp only at hSw); go_simp)⟩) hHeld ?_
          (try simp only [Act.put, List.getElem_toArray, List.getElem_cons_zero, List.getElem_cons_succ, List.setIfInBounds_toArray, List.set_cons_zero, List.set_cons_succ])
          refine wpAnyH_take (i := 33) (v := .int .i64 (c2 : Nat)) rfl (by kernel_rfl) (by kernel_rfl) (by kernel_rfl) (fun _ _ _ h => h) (Or.inl ⟨by rfl, (by intro w9 hSw; (try dsimp only at hSw); obtain ⟨hs1, hs2⟩ := hSw; have c1_ : w9.cell? ⟨b12, 5, none⟩ = some (.int .i64 (c2 : Nat)) := (S7.out.up hs1.bel).boxAt 5; go_simp)⟩) hHeld ?_
          (try simp only [Act.put, List.getElem_toArray, List.getElem_cons_zero, List.getElem_cons_succ, List.setIfInBounds_toArray, List.set_cons_zero, List.set_cons_succ])
          refine wpAnyH_take (i := 34) (v := .bool true) rfl (by kernel_rfl) (by kernel_rfl) (by kernel_rfl) (fun _ _ _ h => h) (Or.inl ⟨by rfl, by (intro w hSw; (try dsimp only at hSw); go_simp)⟩) hHeld ?_
          (try simp only [Act.put, List.getElem_toArray, List.getElem_cons_zero, List.getElem_cons_succ, List.setIfInBounds_toArray, List.set_cons_zero, List.set_cons_succ])
          refine wpAnyH_take (i := 35) (v := .bool true) rfl (by kernel_rfl) (by kernel_rfl) (by kernel_rfl) (fun _ _ _ h => h) (Or.inl ⟨by rfl, by (intro w hSw; (try dsimp only at hSw); go_simp)⟩) hHeld ?_
          (try simp only [Act.put, List.getElem_toArray, List.getElem_cons_zero, List.getElem_cons_succ, List.setIfInBounds_toArray, List.set_cons_zero, List.set_cons_succ])
          refine wpAnyH_take (i := 36) (v := .bool true) rfl (by kernel_rfl) (by kernel_rfl) (by kernel_rfl) (fun _ _ _ h => h) (Or.inl ⟨by rfl, by (intro w hSw; (try dsimp only at hSw); go_simp)⟩) hHeld ?_
          (try simp only [Act.put, List.getElem_toArray, List.getElem_cons_zero, List.getElem_cons_succ, List.setIfInBounds_toArray, List.set_cons_zero, List.set_cons_succ])
          refine wpAnyH_ready (rs := [37]) (by kernel_rfl) (by simp) ?_
          refine AllReadyH.cons rfl (fun K hK => ?_) (AllReadyH.nil)
          rw [if_pos (by rfl)]
          go_wp2_with fail
          refine (alive12_any _).mono ?_
          rintro _ z_U6 ⟨rfl, hb⟩
          have U6 : Hid ((fun z => Sep y6.heap.size y6 z [.box b15 (.cells #[.slice p1 n1 g1, .slice (some ⟨bU, 0, none⟩) n2 n2, .slice p3 n3 g3, .slice p4 n4 g4, .int .i64 (c1 : Nat), .int .i64 (c2 : Nat), .int .i64 cn2] 51 (0, 0))] ∧ Below y7.heap.size y7 z) z_U6) := Lib.hid ⟨U5.out.1.up hb, U5.out.2.trans (hb.mono U5.out.2.size)⟩
          refine hK.out _ _ U6.out (fun hHeld2 => ?_)
          clear hHeld hK
          have hHeld := hHeld2
          clear hHeld2
          (try simp only [Act.put, List.getElem_toArray, List.getElem_cons_zero, List.getElem_cons_succ, List.setIfInBounds_toArray, List.set_cons_zero, List.set_cons_succ])
          clear hb
          refine wpAnyH_take (i := 38) (v := .bool true) rfl (by kernel_rfl) (by kernel_rfl) (by kernel_rfl) (fun _ _ _ h => h) (Or.inl ⟨by rfl, by (intro w hSw; (try dsimp only at hSw); go_simp)⟩) hHeld ?_
          (try simp only [Act.put, List.getElem_toArray, List.getElem_cons_zero, List.getElem_cons_succ, List.setIfInBounds_toArray, List.set_cons_zero, List.set_cons_succ])
          refine wpAnyH_take (i := 39) (v := .bool true) rfl (by kernel_rfl) (by kernel_rfl) (by kernel_rfl) (fun _ _ _ h => h) (Or.inl ⟨by rfl, by (intro w hSw; (try dsimp only at hSw); go_simp)⟩) hHeld ?_
          (try simp only [Act.put, List.getElem_toArray, List.getElem_cons_zero, List.getElem_cons_succ, List.setIfInBounds_toArray, List.set_cons_zero, List.set_cons_succ])
          refine wpAnyH_done (by kernel_rfl) ?_ _
          clear hHeld
          go_wp2_with fail
          go_ret
          exact ⟨rfl, S3.out.bel.trans ((HB37.out.trans (U6.out.2.mono HB37.out.size)).mono S3.out.bel.size)⟩
        · have hk2 : (K != 0) = true := by simp [hK0]
          go_wp2_with fail
          refine HAL.out.mono ?_
          rintro _ w6 ⟨rfl, hb⟩
          have S6 := Lib.hid (S5.out.1.up hb)
          clear hb
          go_wp2_with fail
          go_ret
          exact ⟨rfl, S6.out.bel⟩
end Go.Proofs.Ytemkppjdfjoipaa.I1.X
