/- Package nfa. -/
import Derived.Test.YtnhfeakndofokaaProg
import Derived.Test.YtnhfeakndofokaaY51
import Derived.WalkKit
import Derived.WalkLawsBesides
import Derived.WalkSpells
import Derived.Outline
import Derived.Lib.Walk
import Derived.Lib.Hide
import Derived.Lib.Slices
import Derived.Lib.Strings
import Derived.RegionTactic
import Derived.LoopTactic
import Derived.Below
import Derived.IntWalk
import Derived.Deep.QuietTactic
import Derived.BigQuiet
import Derived.Deep.MidRow
import Derived.Maps.AppendAt
import Derived.Laws.Rows
import Derived.Laws.Tables
import Derived.Deep.WholeRow
import Derived.Deep.Cut
import Derived.Deep.CutRange
import Derived.Lib.SliceRun
import Derived.Laws.MakeOwn
import Derived.Deep.RegionLaw
import Derived.Deep.RegionLawGrows
import Derived.Deep.RegionHeld3
import Derived.RegionCalls
import Derived.Deep.RegionWith
import Derived.Deep.Light
import Derived.Laws.CopyOwn
import Derived.Laws.ResultCell
namespace Go.Proofs.Ytnhfeakndofokaa
set_option linter.unusedSimpArgs false
set_option linter.unusedVariables false
set_option maxRecDepth 100000
open Go.RowKit
/- NfaMakes: the walk, where no rule is refused. -/
set_option maxHeartbeats 32000000 in
theorem makes_ok {w : World} {ts : List RT} {q : Option Addr} {f : Nat} {s : ByteArray} (hs : s.size ≤ 9223372036854775806) (hA : RuV (fun x => x < w.heap.size) w ts (.slice q ts.length f)) (hwa : ∀ t ∈ ts, wid t ≤ 9223372036854775806 ∧ okT t) (hE : refE ts = 0) :
    Calls Try.prog 4 #[.slice q ts.length f, .string s] w fun e w' => e = .returned (.bool true) ∧ Below w.heap.size w w' := by
  obtain ⟨hl48, hck, hsz, _⟩ := refE_iff.1 hE
  obtain ⟨hl95, hfrl, hchk⟩ := ssR_facts hE
  have hla : ts.length ≤ 9223372036854775806 := by omega
  have hw1 : ∀ t ∈ ts, wid t ≤ 1000000 := fun t ht => by have := checkE_sz (hck t ht); have := wid_sz t; omega
  have HREF := Lib.hid (refuses_any (w := w) (fun b h => h) hA hla (fun t ht => (hwa t ht).1))
  rw [hE] at HREF
  have HRA := Lib.hid fun z (hb : Below w.heap.size w z) => hA.mono (E := fun x => x < z.heap.size) (fun b h => Nat.lt_of_lt_of_le h hb.size) (fun b h _ => hb.block b h)
  have HTW := Lib.hid fun z (hb : Below w.heap.size w z) => twinrules_any (w := z) (fun b h => h) (HRA.out z hb) (by omega) hw1
  have HRK := Lib.hid fun y1 (hb1 : Below w.heap.size w y1) z (hb : Below y1.heap.size y1 z) j (hj : j < ts.length) => rule_cellsK (D := fun x => x < y1.heap.size) (fun b h => h) (HRA.out y1 hb1) hb hj
  have HOF := Lib.hid fun z D p c (hD : ∀ b, D b → b < z.heap.size) (h : RuV D z ts (.slice p ts.length c)) => of_wipe (w := z) (D := D) hD h hla (fun t ht => (hwa t ht).1) hE
  have HBG := Lib.hid fun z (hb : Below w.heap.size w z) => rulesbig_any (w := z) 200 (by omega) (fun b h => h) (HRA.out z hb) hla (fun t ht => (hwa t ht).1)
  have HACC := Lib.hid fun z p c (h : SV (fun b => b < z.heap.size) z (ssR ts) (.slice p (ssR ts).length c)) => acc_full2 (w := z) (s := s) hE (fun t ht => (hwa t ht).2) h hs
  have HCH := Lib.hid fun z p c (h : SV (fun b => b < z.heap.size) z (ssR ts) (.slice p (ssR ts).length c)) => check_any (w := z) (st := stR ts) (fun b h => h) h (fun s hs => by have := hfrl s hs; omega) (by omega)
  rw [hchk] at HCH
  have HLE := Lib.hid fun z kds gt ct (hT : TRul (fun b => b < z.heap.size) z ts kds gt ct) y1 (hb1 : Below w.heap.size w y1) (hk : kds = kdO q y1) (hb : Below y1.heap.size y1 z) => leftrules_any (w := z) (f := f) (q := q) (E := fun x => x < y1.heap.size) (fun b h => h) (fun b h => Nat.lt_of_lt_of_le h hb.size) hT (by omega) hw1 (by subst hk; exact HRK.out y1 hb1 z hb)
  have HMT := Lib.hid fun z (hb : Below w.heap.size w z) (hx : s.data.toList.length ≤ 900) => match_any (w := z) (x := s.data.toList) (fun b h => h) (HRA.out z hb) hl48 hck (fun t ht => (hwa t ht).2) hx
  rw [bs_eq] at HMT
  have hka := accT_len ts s.data.toList
  have hsl : s.data.toList.length = s.size := by simp
  have HFR := Lib.hid hfrl
  have hz := zero24
  have hz49 := zero49
  have S0 := Lib.hid (Below.refl w.heap.size w)
  generalize accT ts s.data.toList = ka at *
  generalize ssR ts = ss at *
  generalize stR ts = st at *
  unfold nV at HCH
  clear hA hwa hE hck hsz hchk hfrl hw1 HRK
  go_enter Try.func4, Try.ntmps4
  go_wp2_with fail
  refine HREF.out.mono ?_
  rintro _ y1 ⟨rfl, hb1⟩
  have S1 := Lib.hid hb1
  clear hb1 HREF S0
  go_wp2_with fail
  refine (HTW.out y1 S1.out).mono ?_
  rintro _ y2 ⟨⟨gt, ct, rfl, htr⟩, hb2⟩
  obtain ⟨kds, hkds⟩ : ∃ kds, kdO q y1 = kds := ⟨_, rfl⟩
  rw [hkds] at htr
  have HKD := Lib.hid hkds.symm
  have S2 := Lib.hid hb2
  have HTR := Lib.hid htr
  clear hkds htr hb2 HTW
  go_wp2_with fail
  refine (HOF.out y2 (fun b => y1.heap.size ≤ b ∧ b < y2.heap.size) _ _ (fun b h => h.2) HTR.out.ruv).mono ?_
  rintro _ y3 ⟨⟨g, c, rfl, hsv, hwp⟩, hb3⟩
  have hK : KM w y1.heap.size y2.heap.size y3.heap.size ts kds gt ct st ss g c (y3.alloc (.cells #[.int .i64 st, .slice (some ⟨g, 0, none⟩) ss.length c] 24)) := by
    have hb4 := (Below.refl y3.heap.size y3).alloc (Nat.le_refl _) (.cells #[.int .i64 st, .slice (some ⟨g, 0, none⟩) ss.length c] 24)
    have h1 := S1.out.size
    have h2 := S2.out.size
    have h3 := hb3.size
    refine ⟨((S1.out.trans (S2.out.mono h1)).trans (hb3.mono (Nat.le_trans h1 h2))).trans (hb4.mono (by omega)), h1, h2, h3, by simp, ?_, ?_, ?_, heap_alloc_last y3 _⟩
    · exact HTR.out.mono (fun b h => h) (fun b k _ => (hb4.block b (by omega)).trans (hb3.block b k.2))
    · exact hsv.mono (fun b h => h) (fun b k _ => hb4.block b k.2)
    · exact hwp.mono (fun b h => h) (fun b k _ => hb4.block b k.2)
  have HK := Lib.hid hK
  clear hK hsv hwp
  have S13 : Hid (Below y1.heap.size y1 (y3.alloc (.cells #[.int .i64 st, .slice (some ⟨g, 0, none⟩) ss.length c] 24))) := Lib.hid ((S2.out.trans (hb3.mono S2.out.size)).alloc (Nat.le_trans S2.out.size hb3.size) _)
  clear hb3 HTR S2
  go_upto_region 7 with fail
  refine at_world (fun z => KM w y1.heap.size y2.heap.size y3.heap.size ts kds gt ct st ss g c z ∧ Below y1.heap.size y1 z) ⟨HK.out, S13.out⟩ fun z1 hz1 => ?_
  have K1 := Lib.hid hz1.1
  have T1 := Lib.hid hz1.2
  clear hz1 HK S13
  have d0 := K1.out.c0
  have d1 := K1.out.c1
  have hlI : ¬ (4095 : Int) < (ss.length : Int) := by omega
  go_wp2_with fail
  refine (HCH.out _ _ _ K1.out.svl).mono ?_
  rintro _ y4 ⟨rfl, hb4⟩
  have K2 := Lib.hid (K1.out.up hb4)
  have T2 := Lib.hid (T1.out.trans (hb4.mono T1.out.size))
  clear hb4 K1 T1 d0 d1
  go_wp2_with fail
  refine (HLE.out y4 kds gt ct K2.out.trl y1 S1.out HKD.out T2.out).mono ?_
  rintro _ y5 ⟨rfl, hb5⟩
  have K3 := Lib.hid (K2.out.up hb5)
  clear hb5 K2 T2
  clear HLE HCH HKD hlI
  have HAL := Lib.hid fun y => alive_any y
  by_cases hlong : 60 < s.size
  · have hI : (60 : Int) < (s.size : Int) := by omega
    go_wp2_with fail
    refine (HAL.out _).mono ?_
    rintro _ y6 ⟨rfl, hb6⟩
    have S6 := Lib.hid (K3.out.bel.trans (hb6.mono K3.out.bel.size))
    clear hb6 K3 HAL
    go_wp2_with fail
    go_ret
    exact ⟨rfl, S6.out⟩
  have hI : ¬ (60 : Int) < (s.size : Int) := by omega
  obtain ⟨gb, hgb⟩ : ∃ g, (decide (200 < ts.length) || decide (200 < szL ts + 1)) = g := ⟨_, rfl⟩
  rw [hgb] at HBG
  clear hgb
  go_wp2_with fail
  refine (HBG.out _ K3.out.bel).mono ?_
  rintro _ y6 ⟨rfl, hb6⟩
  have K4 := Lib.hid (K3.out.up hb6)
  clear hb6 K3 HBG
  cases gb with
  | true =>
    go_wp2_with fail
    refine (HAL.out _).mono ?_
    rintro _ y7 ⟨rfl, hb7⟩
    have S7 := Lib.hid (K4.out.bel.trans (hb7.mono K4.out.bel.size))
    clear hb7 K4 HAL
    go_wp2_with fail
    go_ret
    exact ⟨rfl, S7.out⟩
  | false =>
  have d0 := K4.out.c0
  have d1 := K4.out.c1
  go_wp2_with fail
  refine (HACC.out _ _ _ K4.out.svl).mono ?_
  rintro _ y7 ⟨⟨pk, ck, rfl, hk7⟩, hb7⟩
  have K5 := Lib.hid (K4.out.up hb7)
  have I5 : Hid (IV (fun b => y3.heap.size ≤ b ∧ b < y7.heap.size) y7 ka (.slice pk ka.length ck)) := Lib.hid (hk7.mono (fun b h => ⟨by have := K4.out.lt; omega, h.2⟩) (fun b _ _ => rfl))
  clear hb7 hk7 K4 d0 d1
  go_wp2_with fail
  refine (HMT.out _ K5.out.bel (by omega)).mono ?_
  rintro _ y8 ⟨⟨pm, cm, rfl, hm8⟩, hb8⟩
  have K6 := Lib.hid (K5.out.up hb8)
  have I6 : Hid (IV (fun b => y3.heap.size ≤ b ∧ b < y8.heap.size) y8 ka (.slice pk ka.length ck)) := Lib.hid (I5.out.mono (fun b h => ⟨h.1, Nat.lt_of_lt_of_le h.2 hb8.size⟩) (fun b h _ => hb8.block b h.2))
  have HSM := Lib.hid (same_any (w := y8) (a := ka) (b := ka) (D := fun b => b < y8.heap.size) (E := fun b => b < y8.heap.size) (by omega) (fun b h => h) (fun b h => h) (I6.out.mono (fun b h => h.2) (fun b _ _ => rfl)) hm8)
  rw [show decide (ka = ka) = true from decide_eq_true rfl] at HSM
  clear hb8 hm8 K5 I5 HMT
  go_wp2_with fail
  refine HSM.out.mono ?_
  rintro _ y9 ⟨rfl, hb9⟩
  have K7 := Lib.hid (K6.out.up hb9)
  have I7 : Hid (IV (fun b => y3.heap.size ≤ b ∧ b < y9.heap.size) y9 ka (.slice pk ka.length ck)) := Lib.hid (I6.out.mono (fun b h => ⟨h.1, Nat.lt_of_lt_of_le h.2 hb9.size⟩) (fun b h _ => hb9.block b h.2))
  clear hb9 K6 I6 HSM
  have C0 := Lib.hid (Chg.refl y2.heap.size y3.heap.size y9)
  have W0 := Lib.hid K7.out.wp
  go_wp2_with fail
  go_loopw [13] (fun i wr => ∃ j : Nat, i = .int .i64 (j : Nat) ∧ j ≤ ss.length ∧ Hid (Chg y2.heap.size y3.heap.size y9 wr) ∧ Hid (Wipe (fun b => y2.heap.size ≤ b ∧ b < y3.heap.size) wr ss (.slice (some ⟨g, 0, none⟩) ss.length c) j)) (fun i _ => ss.length - (intOf i).toNat)
  case atStart => exact ⟨0, rfl, by omega, C0, W0⟩
  case round =>
    clear C0 W0
    obtain ⟨j, rfl, hj, HC, HW⟩ := hrel
    obtain ⟨wo, rfl⟩ : ∃ wo : World, wo = wr := ⟨_, rfl⟩
    have d1 := K7.out.cb HC.out
    by_cases hlt : j < ss.length
    · have hltI : (j : Int) < (ss.length : Int) := by omega
      have hjI : ¬ (j : Int) < 0 := by omega
      obtain ⟨g', c', csg, tg, e, hD, hh, hszg, hx⟩ := HW.out
      cases e
      obtain ⟨qf, ff, k1, k2⟩ := hx j hlt (Nat.le_refl _)
      have hfr := HFR.out _ (List.getElem_mem hlt)
      have HMK : Hid (Calls Try.prog 23 #[.slice qf (ss[j]).fr.length ff, .int .i64 0] wo fun e w' => (∃ i, e = .returned (.int .i64 i)) ∧ Chg y2.heap.size y3.heap.size y9 w' ∧ Wipe (fun b => y2.heap.size ≤ b ∧ b < y3.heap.size) w' ss (.slice (some ⟨g, 0, none⟩) ss.length c) j) := Lib.hid (by
        by_cases hn : (ss[j]).fr = []
        · rw [hn, List.length_nil]
          exact (mark_0 qf ff).mono fun e w' h => ⟨h.1, by rw [h.2]; exact HC.out, by rw [h.2]; exact HW.out⟩
        · obtain ⟨b, o, cs', t', rfl, hDb, hne, hb, ho⟩ := k2 hn
          exact (mark_w hfr hb ho).mono fun e w' h => ⟨h.1, HC.out.only h.2.1 hDb.1 hDb.2, by
            obtain ⟨cs2, e2, e3⟩ := h.2.2
            exact HW.out.mark hne h.2.1 hb e2 e3⟩)
      generalize (ss[j]).fr.length = frl at *
      clear hx k2 hh hszg hfr
      go_wp2_with fail
      refine HMK.out.mono ?_
      rintro _ y10 ⟨⟨i10, rfl⟩, hc10, hw10⟩
      have HC2 := Lib.hid hc10
      have HW2 := Lib.hid hw10
      have d2 := K7.out.cb hc10
      clear hc10 hw10 HMK k1 d1 HC HW
      have HC3 := Lib.hid (HC2.out.cells (vs := m5.toList) (o := j * 7) hD.1 hD.2)
      have HW3 := Lib.hid (HW2.out.store (vs := m5.toList) rfl)
      have HTH := Lib.hid (HW2.out.there hlt)
      clear HC2 HW2
      obtain ⟨v0, e0⟩ := Option.isSome_iff_exists.1 (HTH.out 0 (by omega)).1
      have f0 := (HTH.out 0 (by omega)).2
      obtain ⟨v1, e1⟩ := Option.isSome_iff_exists.1 (HTH.out 1 (by omega)).1
      have f1 := (HTH.out 1 (by omega)).2
      obtain ⟨v2, e2⟩ := Option.isSome_iff_exists.1 (HTH.out 2 (by omega)).1
      have f2 := (HTH.out 2 (by omega)).2
      obtain ⟨v3, e3⟩ := Option.isSome_iff_exists.1 (HTH.out 3 (by omega)).1
      have f3 := (HTH.out 3 (by omega)).2
      obtain ⟨v4, e4⟩ := Option.isSome_iff_exists.1 (HTH.out 4 (by omega)).1
      have f4 := (HTH.out 4 (by omega)).2
      obtain ⟨v5, e5⟩ := Option.isSome_iff_exists.1 (HTH.out 5 (by omega)).1
      have f5 := (HTH.out 5 (by omega)).2
      obtain ⟨v6, e6⟩ := Option.isSome_iff_exists.1 (HTH.out 6 (by omega)).1
      have f6 := (HTH.out 6 (by omega)).2
      rw [Nat.add_zero] at e0 f0
      go_wp2_with fail
      clear e0 e1 e2 e3 e4 e5 e6 f0 f1 f2 f3 f4 f5 f6
      go_roundw
      case rel => exact ⟨j + 1, by go_num, by omega, Lib.hid HC3.out, Lib.hid HW3.out⟩
      case measure => simp [intOf]; omega
    · obtain rfl : j = ss.length := by omega
      have hltI : ¬ (ss.length : Int) < (ss.length : Int) := by omega
      clear hlt
      have hA01 := K7.out.o0
      have hA12 := K7.out.o1
      have hA23 := K7.out.o2
      have hA3 := K7.out.lt
      have hszc := HC.out.sz
      have SW := Lib.hid (K7.out.bel.trans (HC.out.bel.mono (Nat.le_trans hA01 hA12)))
      have HTR := Lib.hid (K7.out.tr.mono (E := fun b => y1.heap.size ≤ b ∧ b < y2.heap.size) (fun b h => h) (fun b k _ => HC.out.bel.block b k.2))
      have HI := Lib.hid (I7.out.mono (E := fun b => b < wo.heap.size) (fun b k => by have := k.2; omega) (fun b k _ => HC.out.hi b k.1))
      have HOC := Lib.hid (HOF.out wo (fun b => y1.heap.size ≤ b ∧ b < y2.heap.size) _ _ (fun b k => by have := k.2; omega) HTR.out.ruv)
      clear HC HW K7 I7 HTR HOF hA01 hA12 hA23 hA3 hszc HFR
      go_wp2_with fail
      refine HOC.out.mono ?_
      rintro _ y10 ⟨⟨g2, c2, rfl, hsv2, -⟩, hb10⟩
      have hb11 := (Below.refl y10.heap.size y10).alloc (Nat.le_refl _) (.cells #[.int .i64 st, .slice (some ⟨g2, 0, none⟩) ss.length c2] 24)
      have hb12 := hb10.trans (hb11.mono hb10.size)
      have Z0 : Hid (Below w.heap.size w (y10.alloc (.cells #[.int .i64 st, .slice (some ⟨g2, 0, none⟩) ss.length c2] 24)) ∧ SV (fun b => b < (y10.alloc (.cells #[.int .i64 st, .slice (some ⟨g2, 0, none⟩) ss.length c2] 24)).heap.size) (y10.alloc (.cells #[.int .i64 st, .slice (some ⟨g2, 0, none⟩) ss.length c2] 24)) ss (.slice (some ⟨g2, 0, none⟩) ss.length c2) ∧ IV (fun b => b < (y10.alloc (.cells #[.int .i64 st, .slice (some ⟨g2, 0, none⟩) ss.length c2] 24)).heap.size) (y10.alloc (.cells #[.int .i64 st, .slice (some ⟨g2, 0, none⟩) ss.length c2] 24)) ka (.slice pk ka.length ck) ∧ (y10.alloc (.cells #[.int .i64 st, .slice (some ⟨g2, 0, none⟩) ss.length c2] 24)).heap[y10.heap.size]? = some (.cells #[.int .i64 st, .slice (some ⟨g2, 0, none⟩) ss.length c2] 24)) := Lib.hid ⟨SW.out.trans (hb12.mono SW.out.size), hsv2.mono (fun b h => Nat.lt_of_lt_of_le h.2 hb11.size) (fun b h _ => hb11.block b h.2), HI.out.mono (fun b h => Nat.lt_of_lt_of_le h hb12.size) (fun b h _ => hb12.block b h), heap_alloc_last y10 _⟩
      clear hsv2 hb10 hb11 hb12 SW HI HOC
      go_upto_region 20 with fail
      refine at_world (fun z => Below w.heap.size w z ∧ SV (fun b => b < z.heap.size) z ss (.slice (some ⟨g2, 0, none⟩) ss.length c2) ∧ IV (fun b => b < z.heap.size) z ka (.slice pk ka.length ck) ∧ z.heap[y10.heap.size]? = some (.cells #[.int .i64 st, .slice (some ⟨g2, 0, none⟩) ss.length c2] 24)) Z0.out fun z2 hz2 => ?_
      have Z1 := Lib.hid hz2
      have d0 : z2.cell? ⟨y10.heap.size, 0, none⟩ = some (.int .i64 st) := cell_of_row z2 _ 0 _ 24 (0, 0) hz2.2.2.2
      have d1 : z2.cell? ⟨y10.heap.size, 1, none⟩ = some (.slice (some ⟨g2, 0, none⟩) ss.length c2) := cell_of_row z2 _ 1 _ 24 (0, 0) hz2.2.2.2
      clear hz2 Z0
      go_wp2_with fail
      refine (HACC.out _ _ _ Z1.out.2.1).mono ?_
      rintro _ y11 ⟨⟨p5, c5, rfl, hk5⟩, hb11⟩
      have S11 := Lib.hid (Z1.out.1.trans (hb11.mono Z1.out.1.size))
      have HSM := Lib.hid (same_any (w := y11) (a := ka) (b := ka) (D := fun b => b < y11.heap.size) (E := fun b => b < y11.heap.size) (by omega) (fun b h => h) (fun b h => h) (hk5.mono (fun b h => h.2) (fun b _ _ => rfl)) (Z1.out.2.2.1.mono (fun b h => Nat.lt_of_lt_of_le h hb11.size) (fun b h _ => hb11.block b h)))
      rw [show decide (ka = ka) = true from decide_eq_true rfl] at HSM
      clear hk5 hb11 Z1 d0 d1 HACC
      go_wp2_with fail
      refine HSM.out.mono ?_
      rintro _ y12 ⟨rfl, hb12⟩
      have S12 := Lib.hid (S11.out.trans (hb12.mono S11.out.size))
      clear hb12 S11 HSM
      go_wp2_with fail
      refine (HAL.out _).mono ?_
      rintro _ y13 ⟨rfl, hb13⟩
      have S13 := Lib.hid (S12.out.trans (hb13.mono S12.out.size))
      clear hb13 S12 HAL
      go_wp2_with fail
      go_ret
      exact ⟨rfl, S13.out⟩
theorem makes_any {w : World} {ts : List RT} {q : Option Addr} {f : Nat} {s : ByteArray} (hs : s.size ≤ 9223372036854775806) (hA : RuV (fun x => x < w.heap.size) w ts (.slice q ts.length f)) (hla : ts.length ≤ 9223372036854775806) (hwa : ∀ t ∈ ts, wid t ≤ 9223372036854775806 ∧ okT t) :
    Calls Try.prog 4 #[.slice q ts.length f, .string s] w fun e w' => e = .returned (.bool true) ∧ Below w.heap.size w w' := by
  by_cases hE : refE ts = 0
  · exact makes_ok hs hA hwa hE
  · exact makes_err hA hla hwa hE
end Go.Proofs.Ytnhfeakndofokaa
