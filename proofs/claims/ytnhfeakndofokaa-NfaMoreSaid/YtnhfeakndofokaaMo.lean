/- Package nfa. -/
import Derived.Test.YtnhfeakndofokaaProg
import Derived.Test.YtnhfeakndofokaaX49
import Derived.Test.YtnhfeakndofokaaX26
import Derived.Test.YtnhfeakndofokaaN33
import Derived.Test.YtnhfeakndofokaaN49
import Derived.WalkKit
import Derived.WalkLawsBesides
import Derived.WalkSpells
import Derived.Outline
import Derived.Lib.Walk
import Derived.Lib.Hide
import Derived.Lib.Slices
import Derived.Lib.Strings
import Derived.RegionTactic
import Derived.LoopTactic
import Derived.Below
import Derived.IntWalk
import Derived.Deep.QuietTactic
import Derived.BigQuiet
import Derived.Deep.MidRow
import Derived.Maps.AppendAt
import Derived.Laws.Rows
import Derived.Laws.Tables
import Derived.Deep.WholeRow
import Derived.Deep.Cut
import Derived.Deep.CutRange
import Derived.Lib.SliceRun
import Derived.Laws.MakeOwn
import Derived.Deep.RegionLaw
import Derived.Deep.RegionLawGrows
import Derived.Deep.RegionHeld3
import Derived.RegionCalls
import Derived.Deep.RegionWith
import Derived.Deep.Light
import Derived.Laws.CopyOwn
import Derived.Laws.ResultCell
namespace Go.Proofs.Ytnhfeakndofokaa
set_option linter.unusedSimpArgs false
set_option linter.unusedVariables false
set_option maxRecDepth 100000
open Go.RowKit
/- NfaMore: the walk. -/
set_option maxHeartbeats 16000000 in
theorem more_any {w : World} {a b : List RT} {qa qb : Option Addr} {fa fb : Nat} {s : ByteArray} (hs : s.size ≤ 9223372036854775806) (hA : RuV (fun x => x < w.heap.size) w a (.slice qa a.length fa)) (hla : a.length ≤ 9223372036854775806) (hwa : ∀ t ∈ a, wid t ≤ 9223372036854775806 ∧ okT t)
    (hB : RuV (fun x => x < w.heap.size) w b (.slice qb b.length fb)) (hlb : b.length ≤ 9223372036854775806) (hwb : ∀ t ∈ b, wid t ≤ 9223372036854775806 ∧ okT t) :
    Calls Try.prog 6 #[.slice qa a.length fa, .slice qb b.length fb, .string s] w fun e w' => e = .returned (.bool true) ∧ Below w.heap.size w w' := by
  have HRA := Lib.hid fun z (hb : Below w.heap.size w z) => hA.mono (E := fun x => x < z.heap.size) (fun b h => Nat.lt_of_lt_of_le h hb.size) (fun b h _ => hb.block b h)
  have HRB := Lib.hid fun z (hb : Below w.heap.size w z) => hB.mono (E := fun x => x < z.heap.size) (fun b h => Nat.lt_of_lt_of_le h hb.size) (fun b h _ => hb.block b h)
  have HWA := Lib.hid hwa
  have HWB := Lib.hid hwb
  have HA0 := Lib.hid hA
  have HB0 := Lib.hid hB
  have HGA := Lib.hid fun z (hb : Below w.heap.size w z) => rulesbig_any (w := z) 100 (by omega) (fun b h => h) (HRA.out z hb) hla (fun t ht => (hwa t ht).1)
  have HGB := Lib.hid fun z (hb : Below w.heap.size w z) => rulesbig_any (w := z) 100 (by omega) (fun b h => h) (HRB.out z hb) hlb (fun t ht => (hwb t ht).1)
  have hz := zero24
  clear hA hB hwa hwb
  have S0 := Lib.hid (Below.refl w.heap.size w)
  by_cases hlong : 60 < s.size
  · have hI : (60 : Int) < (s.size : Int) := by omega
    go_enter Try.func6, Try.ntmps6
    go_wp2_with fail
    go_ret
    exact ⟨rfl, S0.out⟩
  have hI : ¬ (60 : Int) < (s.size : Int) := by omega
  obtain ⟨ga, hga⟩ : ∃ g, (decide (100 < a.length) || decide (100 < szL a + 1)) = g := ⟨_, rfl⟩
  obtain ⟨gb, hgb⟩ : ∃ g, (decide (100 < b.length) || decide (100 < szL b + 1)) = g := ⟨_, rfl⟩
  rw [hga] at HGA
  rw [hgb] at HGB
  cases ga with
  | true =>
    clear hga hgb HGB
    go_enter Try.func6, Try.ntmps6
    go_wp2_with fail
    refine (HGA.out _ S0.out).mono ?_
    rintro _ y1 ⟨rfl, hb1⟩
    have S1 := Lib.hid hb1
    clear hb1 S0 HGA
    go_wp2_with fail
    go_ret
    exact ⟨rfl, S1.out⟩
  | false =>
  cases gb with
  | true =>
    clear hga hgb
    go_enter Try.func6, Try.ntmps6
    go_wp2_with fail
    refine (HGA.out _ S0.out).mono ?_
    rintro _ y1 ⟨rfl, hb1⟩
    have S1 := Lib.hid hb1
    clear hb1 S0 HGA
    go_wp2_with fail
    refine (HGB.out _ S1.out).mono ?_
    rintro _ y2 ⟨rfl, hb2⟩
    have S2 := Lib.hid (S1.out.trans (hb2.mono S1.out.size))
    clear hb2 S1 HGB
    go_wp2_with fail
    go_ret
    exact ⟨rfl, S2.out⟩
  | false =>
  simp only [Bool.or_eq_false_iff, decide_eq_false_iff_not] at hga hgb
  have hsa : szL a ≤ 100 := by omega
  have hsb : szL b ≤ 100 := by omega
  have hl1 : a.length ≤ 100 := by omega
  have hl2 : b.length ≤ 100 := by omega
  clear hga hgb
  have HOA := Lib.hid fun z (hb : Below w.heap.size w z) => of_full (w := z) (fun b h => h) (HRA.out z hb) hla (fun t ht => (HWA.out t ht).1)
  have HOB := Lib.hid fun z (hb : Below w.heap.size w z) => of_full (w := z) (fun b h => h) (HRB.out z hb) hlb (fun t ht => (HWB.out t ht).1)
  obtain ⟨ea, hea⟩ : ∃ g, refE a = g := ⟨_, rfl⟩
  obtain ⟨eb, heb⟩ : ∃ g, refE b = g := ⟨_, rfl⟩
  obtain ⟨sa, hsaa⟩ : ∃ g, stR a = g := ⟨_, rfl⟩
  obtain ⟨sb, hsbb⟩ : ∃ g, stR b = g := ⟨_, rfl⟩
  obtain ⟨la, hlaa⟩ : ∃ g, ssR a = g := ⟨_, rfl⟩
  obtain ⟨lb, hlbb⟩ : ∃ g, ssR b = g := ⟨_, rfl⟩
  rw [hea, hsaa, hlaa] at HOA
  rw [heb, hsbb, hlbb] at HOB
  have HEA := Lib.hid (And.intro hea (And.intro hsaa hlaa))
  have HEB := Lib.hid (And.intro heb (And.intro hsbb hlbb))
  clear hea heb hsaa hsbb hlaa hlbb
  go_enter Try.func6, Try.ntmps6
  go_wp2_with fail
  refine (HGA.out _ S0.out).mono ?_
  rintro _ y1 ⟨rfl, hb1⟩
  have S1 := Lib.hid hb1
  clear hb1 S0 HGA
  go_wp2_with fail
  refine (HGB.out _ S1.out).mono ?_
  rintro _ y2 ⟨rfl, hb2⟩
  have S2 := Lib.hid (S1.out.trans (hb2.mono S1.out.size))
  clear hb2 S1 HGB
  go_wp2_with fail
  refine (HOA.out _ S2.out).mono ?_
  rintro _ y3 ⟨⟨p1, c1, rfl, hv1⟩, hb3⟩
  have N1 := Lib.hid (((NM.start (S2.out.trans (hb3.mono S2.out.size))).addS (hv1.mono (fun b h => h.2) (fun b _ _ => rfl))).box (.cells #[.int .i64 sa, .slice p1 la.length c1] 24))
  clear hb3 hv1 S2 HOA
  go_upto_region 4 with fail
  refine at_world (fun z => NM w z [(y3.heap.size, .cells #[.int .i64 sa, .slice p1 la.length c1] 24)] [(la, .slice p1 la.length c1)] []) N1.out fun z1 hz1 => ?_
  have N1 := Lib.hid hz1
  clear hz1
  go_wp2_with fail
  refine (HOB.out _ N1.out.bel).mono ?_
  rintro _ y4 ⟨⟨p2, c2, rfl, hv2⟩, hb4⟩
  have N2 := Lib.hid (((N1.out.up hb4).addS (hv2.mono (fun b h => h.2) (fun b _ _ => rfl))).box (.cells #[.int .i64 sb, .slice p2 lb.length c2] 24))
  clear hb4 hv2 N1 HOB
  go_upto_region 5 with fail
  refine at_world (fun z => NM w z [(y4.heap.size, .cells #[.int .i64 sb, .slice p2 lb.length c2] 24), (y3.heap.size, .cells #[.int .i64 sa, .slice p1 la.length c1] 24)] [(lb, .slice p2 lb.length c2), (la, .slice p1 la.length c1)] []) N2.out fun z2 hz2 => ?_
  have N2 := Lib.hid hz2
  clear hz2
  obtain ⟨xa, hxla, hxoa, hxqa, hxra⟩ := ru_row HA0.out
  obtain ⟨xb, hxlb, hxob, hxqb, hxrb⟩ := ru_row HB0.out
  obtain ⟨sc, hscc⟩ : ∃ g, stR (a ++ b) = g := ⟨_, rfl⟩
  obtain ⟨ec, hecc⟩ : ∃ g, refE (a ++ b) = g := ⟨_, rfl⟩
  obtain ⟨lc, hlcc⟩ : ∃ g, ssR (a ++ b) = g := ⟨_, rfl⟩
  have HRUV : Hid (∀ z, Below z2.heap.size z2 z → ∀ v, z.ownsRow z2.heap.size 58 7 v (a.length + b.length) (xa ++ xb) → ∃ p c, v = .slice p (a.length + b.length) c ∧ RuV (fun x => x < z.heap.size) z (a ++ b) v) := Lib.hid fun z hb v hown => by
    have hb2 := N2.out.bel.trans (hb.mono N2.out.bel.size)
    have h3 := ruv_own (E := fun x => x < z.heap.size) (fun b h => h) (by rw [List.length_append]; exact hown) ((hxra.app hxrb hxla).mono (fun b h => Nat.lt_of_lt_of_le h hb2.size) (fun b h _ => hb2.block b h))
    rw [List.length_append] at h3
    exact h3
  have HOF : Hid (∀ z p c, RuV (fun x => x < z.heap.size) z (a ++ b) (.slice p (a.length + b.length) c) → Calls Try.prog 15 #[.slice p (a.length + b.length) c] z fun e w' => (∃ sq c, e = .returned (.tuple #[.agg #[.int .i64 sc, .slice sq lc.length c], .int .i64 ec]) ∧ SV (fun b => z.heap.size ≤ b ∧ b < w'.heap.size) w' lc (.slice sq lc.length c)) ∧ Below z.heap.size z w') := Lib.hid fun z p c h => by
    have h4 := of_full (w := z) (ts := a ++ b) (q := p) (f := c) (fun b h => h) (by rw [List.length_append]; exact h) (by rw [List.length_append]; omega) (fun t ht => (List.mem_append.1 ht).elim (fun h => (HWA.out t h).1) (fun h => (HWB.out t h).1))
    rw [hscc, hecc, hlcc, List.length_append] at h4
    exact h4
  have HXLA := Lib.hid hxla
  have HXOA := Lib.hid hxoa
  have HXQA := Lib.hid hxqa
  have HXLB := Lib.hid hxlb
  have HXOB := Lib.hid hxob
  have HXQB := Lib.hid hxqb
  have HEC := Lib.hid (And.intro hecc (And.intro hscc hlcc))
  obtain ⟨i0, hi, hz0, hz1, hz2'⟩ := info_parts info58b
  clear hxla hxoa hxqa hxra hxlb hxob hxqb hxrb hscc hecc hlcc
  have HO0 := Lib.hid (own_empty z2 58 7)
  have HB0' : Hid (Below z2.heap.size z2 (z2.alloc (.cells #[] 58))) := Lib.hid ((Below.refl _ _).alloc (Nat.le_refl _) _)
  have HSA := Lib.hid (ru_src HXQA.out (N2.out.bel.trans (HB0'.out.mono N2.out.bel.size)))
  go_wp2_with (at_builtin; refine wpList_append_q _ rfl (.tmp 43) (.tmp 44) 32 rfl z2.heap.size 58 i0 _ 7 72 Try.underlying32 hi hz0 hz1 hz2' rfl (by decide) (.slice (some ⟨z2.heap.size, 0, none⟩) 0 0) 0 [] rfl ?k1 qa a.length fa xa rfl ?k2 ?k3 ?k4 ?k5 ?k6 ?k7 ?_)
  case k1 => exact HO0.out
  case k2 => exact HXLA.out
  case k3 => exact HSA.out
  case k4 => exact HXOA.out
  case k5 => unfold maxLen; omega
  case k6 => omega
  case k7 => exact HB0'.out.size
  intro v6 w6 hown6 hg6 hat6
  have HO6 := Lib.hid hown6
  have HB6 : Hid (Below z2.heap.size z2 w6) := Lib.hid (below_grown6 HB0'.out hg6 (fun g h => (HO0.out.lt g h).1) HB0'.out.size)
  have HSB := Lib.hid (ru_src HXQB.out (N2.out.bel.trans (HB6.out.mono N2.out.bel.size)))
  clear hown6 hg6 hat6 HO0 HB0' HSA
  go_wp2_with (at_builtin; refine wpList_append_q _ rfl (.tmp 45) (.tmp 46) 32 rfl z2.heap.size 58 i0 _ 7 72 Try.underlying32 hi hz0 hz1 hz2' rfl (by decide) v6 a.length xa rfl ?k1 qb b.length fb xb rfl ?k2 ?k3 ?k4 ?k5 ?k6 ?k7 ?_)
  case k1 => exact HO6.out
  case k2 => exact HXLB.out
  case k3 => exact HSB.out
  case k4 => exact HXOB.out
  case k5 => unfold maxLen; omega
  case k6 => omega
  case k7 => exact HB6.out.size
  intro v7 w7 hown7 hg7 hat7
  have HB7 : Hid (Below z2.heap.size z2 w7) := Lib.hid (below_grown6 HB6.out hg7 (fun g h => (HO6.out.lt g h).1) HB6.out.size)
  obtain ⟨p4, c4, rfl, hru4⟩ := HRUV.out w7 HB7.out v7 hown7
  have HOC := Lib.hid (HOF.out w7 p4 c4 hru4)
  have N3 := Lib.hid (N2.out.up HB7.out)
  clear hown7 hg7 hat7 hru4 HRUV HOF HB6 HO6 HSB N2 HB7
  go_wp2_with fail
  refine HOC.out.mono ?_
  rintro _ y5 ⟨⟨p3, c3, rfl, hv3⟩, hb5⟩
  have N4 := Lib.hid (((N3.out.up hb5).addS (hv3.mono (fun b h => h.2) (fun b _ _ => rfl))).box (.cells #[.int .i64 sc, .slice p3 lc.length c3] 24))
  clear hb5 hv3 N3 HOC
  go_upto_region 6 with fail
  refine at_world (fun z => NM w z [(y5.heap.size, .cells #[.int .i64 sc, .slice p3 lc.length c3] 24), (y4.heap.size, .cells #[.int .i64 sb, .slice p2 lb.length c2] 24), (y3.heap.size, .cells #[.int .i64 sa, .slice p1 la.length c1] 24)] [(lc, .slice p3 lc.length c3), (lb, .slice p2 lb.length c2), (la, .slice p1 la.length c1)] []) N4.out fun z3 hz3 => ?_
  have N5 := Lib.hid hz3
  clear hz3 N4
  have hiff := refE_app (a := a) (b := b) hsa hsb
  rw [HEA.out.1, HEB.out.1, HEC.out.1] at hiff
  have hIC : ec = 0 ∨ (ec != 0) = true := by by_cases h : ec = 0 <;> simp [h]
  have hIA : ea = 0 ∨ (ea != 0) = true := by by_cases h : ea = 0 <;> simp [h]
  have hIB : eb = 0 ∨ (eb != 0) = true := by by_cases h : eb = 0 <;> simp [h]
  have hz0' : ((0 : Int) != 0) = false := rfl
  have HAL := Lib.hid (alive_any z3)
  rcases hIC with rfl | hIC
  case inr =>
   have hne : ¬ (ea = 0 ∧ eb = 0 ∧ a.length + b.length ≤ 48) := fun h => by
     rw [hiff.2 h] at hIC; cases hIC
   clear hiff
   rcases hIA with rfl | hIA
   · rcases hIB with rfl | hIB
     · have h48 : (48 : Int) < (a.length : Int) + (b.length : Int) := by
         have : ¬ (a.length + b.length ≤ 48) := fun h => hne ⟨rfl, rfl, h⟩
         omega
       clear hne
       go_wp2_with fail
       refine HAL.out.mono ?_
       rintro _ y9 ⟨rfl, hb9⟩
       have S9 := Lib.hid (N5.out.bel.trans (hb9.mono N5.out.bel.size))
       clear hb9 HAL N5
       go_wp2_with fail
       go_ret
       exact ⟨rfl, S9.out⟩
     · clear hne
       go_wp2_with fail
       refine HAL.out.mono ?_
       rintro _ y9 ⟨rfl, hb9⟩
       have S9 := Lib.hid (N5.out.bel.trans (hb9.mono N5.out.bel.size))
       clear hb9 HAL N5
       go_wp2_with fail
       go_ret
       exact ⟨rfl, S9.out⟩
   · clear hne hIB
     go_wp2_with fail
     refine HAL.out.mono ?_
     rintro _ y9 ⟨rfl, hb9⟩
     have S9 := Lib.hid (N5.out.bel.trans (hb9.mono N5.out.bel.size))
     clear hb9 HAL N5
     go_wp2_with fail
     go_ret
     exact ⟨rfl, S9.out⟩
  obtain ⟨rfl, rfl, h48⟩ := hiff.1 rfl
  clear hIA hIB hiff HAL
  have HACA := Lib.hid fun z (h : SV (fun b => b < z.heap.size) z (ssR a) (.slice p1 (ssR a).length c1)) => acc_full (w := z) (c := c1) (s := s) HEA.out.1 (fun t ht => (HWA.out t ht).2) h hs
  rw [HEA.out.2.1, HEA.out.2.2] at HACA
  have HACB := Lib.hid fun z (h : SV (fun b => b < z.heap.size) z (ssR b) (.slice p2 (ssR b).length c2)) => acc_full (w := z) (c := c2) (s := s) HEB.out.1 (fun t ht => (HWB.out t ht).2) h hs
  rw [HEB.out.2.1, HEB.out.2.2] at HACB
  have HACC := Lib.hid fun z (h : SV (fun b => b < z.heap.size) z (ssR (a ++ b)) (.slice p3 (ssR (a ++ b)).length c3)) => acc_full (w := z) (c := c3) (s := s) HEC.out.1 (fun t ht => (List.mem_append.1 ht).elim (fun h => (HWA.out t h).2) (fun h => (HWB.out t h).2)) h hs
  rw [HEC.out.2.1, HEC.out.2.2] at HACC
  have hka1 := accT_len a s.data.toList
  have hkb1 := accT_len b s.data.toList
  have HKB := Lib.hid fun z (h : z ∈ accT b s.data.toList) => accT_in h
  have HKC := Lib.hid (accT_app a b s.data.toList)
  generalize accT (a ++ b) s.data.toList = kc at *
  generalize accT a s.data.toList = ka at *
  generalize accT b s.data.toList = kb at *
  clear HEA HEB HEC HWA HWB HRA HRB HA0 HB0 HXLA HXLB HXOA HXOB HXQA HXQB
  have d0 : z3.cell? ⟨y3.heap.size, 0, none⟩ = some (.int .i64 sa) := N5.out.cell (b := y3.heap.size) (cs := #[.int .i64 sa, .slice p1 la.length c1]) (t := 24) (by simp) 0
  have d1 : z3.cell? ⟨y3.heap.size, 1, none⟩ = some (.slice p1 la.length c1) := N5.out.cell (b := y3.heap.size) (cs := #[.int .i64 sa, .slice p1 la.length c1]) (t := 24) (by simp) 1
  go_wp2_with fail
  refine (HACA.out _ (N5.out.sv (la, .slice p1 la.length c1) (by simp))).mono ?_
  rintro _ y6 ⟨⟨pk, ck, rfl, hv6⟩, hb6⟩
  have N6 := Lib.hid ((N5.out.up hb6).addI hv6)
  clear hb6 hv6 N5 HACA d0 d1
  have d0 : y6.cell? ⟨y4.heap.size, 0, none⟩ = some (.int .i64 sb) := N6.out.cell (b := y4.heap.size) (cs := #[.int .i64 sb, .slice p2 lb.length c2]) (t := 24) (by simp) 0
  have d1 : y6.cell? ⟨y4.heap.size, 1, none⟩ = some (.slice p2 lb.length c2) := N6.out.cell (b := y4.heap.size) (cs := #[.int .i64 sb, .slice p2 lb.length c2]) (t := 24) (by simp) 1
  go_wp2_with fail
  refine (HACB.out _ (N6.out.sv (lb, .slice p2 lb.length c2) (by simp))).mono ?_
  rintro _ y7 ⟨⟨pl, cl, rfl, hv7⟩, hb7⟩
  have N7 := Lib.hid ((N6.out.up hb7).addI hv7)
  clear hb7 hv7 N6 HACB d0 d1
  have d0 : y7.cell? ⟨y5.heap.size, 0, none⟩ = some (.int .i64 sc) := N7.out.cell (b := y5.heap.size) (cs := #[.int .i64 sc, .slice p3 lc.length c3]) (t := 24) (by simp) 0
  have d1 : y7.cell? ⟨y5.heap.size, 1, none⟩ = some (.slice p3 lc.length c3) := N7.out.cell (b := y5.heap.size) (cs := #[.int .i64 sc, .slice p3 lc.length c3]) (t := 24) (by simp) 1
  go_wp2_with fail
  refine (HACC.out _ (N7.out.sv (lc, .slice p3 lc.length c3) (by simp))).mono ?_
  rintro _ y8 ⟨⟨pm, cm, rfl, hv8⟩, hb8⟩
  have N8 := Lib.hid ((N7.out.up hb8).addI hv8)
  clear hb8 hv8 N7 HACC d0 d1
  obtain ⟨i3, hj, hj0, hj1, hj2⟩ := info_parts info3
  have HO0 := Lib.hid (own_empty y8 3 1)
  have HB1 : Hid (Below y8.heap.size y8 (y8.alloc (.cells #[] 3))) := Lib.hid ((Below.refl _ _).alloc (Nat.le_refl _) _)
  have HSA := Lib.hid (iv_src ((N8.out.up HB1.out).iv (ka, .slice pk ka.length ck) (by simp)))
  go_wp2_with (at_builtin; refine wpList_append_q _ rfl (.tmp 109) (.tmp 110) 39 rfl y8.heap.size 3 i3 _ 1 8 Try.underlying39 hj hj0 hj1 hj2 rfl (by decide) (.slice (some ⟨y8.heap.size, 0, none⟩) 0 0) 0 [] rfl ?k1 pk ka.length ck (ka.map fun x => .int .i64 x) rfl ?k2 ?k3 ?k4 ?k5 ?k6 ?k7 ?_)
  case k1 => exact HO0.out
  case k2 => simp
  case k3 => exact HSA.out
  case k4 => exact ints_one ka
  case k5 => unfold maxLen; omega
  case k6 => omega
  case k7 => exact HB1.out.size
  intro v6 w6 hown6 hg6 hat6
  have HO6 : Hid (w6.ownsRow y8.heap.size 3 1 v6 (ka.length + 0) ((ka ++ (kb.take 0).map fun z => (a.length : Int) + z).map fun x => .int .i64 x)) := Lib.hid (by simpa using hown6)
  have HB6 : Hid (Below y8.heap.size y8 w6) := Lib.hid (below_grown6 HB1.out hg6 (fun g h => (HO0.out.lt g h).1) HB1.out.size)
  clear hown6 hg6 hat6 HO0 HB1 HSA
  go_wp2_with fail
  go_loopw [19, 20] (fun v i wr => ∃ j : Nat, i = .int .i64 (j : Nat) ∧ j ≤ kb.length ∧ Hid (wr.ownsRow y8.heap.size 3 1 v (ka.length + j) ((ka ++ (kb.take j).map fun z => (a.length : Int) + z).map fun x => .int .i64 x)) ∧ Hid (Below y8.heap.size y8 wr)) (fun _ i _ => kb.length - (intOf i).toNat)
  case atStart => exact ⟨0, rfl, by omega, HO6, HB6⟩
  case round =>
    clear HO6 HB6
    obtain ⟨j, rfl, hj9, HO, HB⟩ := hrel
    by_cases hlt : j < kb.length
    · obtain ⟨xs9, hx9⟩ : ∃ xs, (ka ++ (kb.take j).map fun z => (a.length : Int) + z).map (fun x => (Value.int .i64 x)) = xs := ⟨_, rfl⟩
      rw [hx9] at HO
      have HX9 := Lib.hid hx9
      clear hx9
      have hltI : (j : Int) < ((kb.length : Nat) : Int) := by omega
      have hjI : ¬ (j : Int) < 0 := by omega
      obtain ⟨q', f', he, hh⟩ := N8.out.iv (kb, .slice pl kb.length cl) (by simp)
      cases he
      obtain ⟨bb, o, rfl, hDb, hx⟩ := hh (by intro e; subst e; simp at hlt)
      have cc : wr.cell? ⟨bb, o + j, none⟩ = some (.int .i64 kb[j]) := (HB.out.cell (p := ⟨bb, o + j, none⟩) hDb).trans (hx j hlt)
      have hvb := HKB.out _ (List.getElem_mem hlt)
      have htk : kb.take (j + 1) = kb.take j ++ [kb[j]] := List.take_succ_eq_append_getElem hlt
      have HTK := Lib.hid htk
      generalize kb[j] = vj at *
      have hwl := HB.out.size
      have X4 := Lib.hid (World.ownsRow.alloc HO.out (.cells #[.int .i64 ((a.length : Int) + vj)] 3))
      have HA : Hid (Below wr.heap.size wr (wr.alloc (.cells #[.int .i64 ((a.length : Int) + vj)] 3))) := Lib.hid ((Below.refl _ _).alloc (Nat.le_refl _) _)
      clear hh hx htk
      go_wp2_with (at_builtin; refine wpList_append_own_at _ rfl (.tmp 118) (.tmp 126) 39 rfl y8.heap.size 3 i3 (.int .i64 0) 1 8 Try.underlying39 hj hj0 hj1 hj2 rfl (by decide) _ (ka.length + j) _ rfl X4.out ⟨wr.heap.size, 0, none⟩ 1 1 [.int .i64 ((a.length : Int) + vj)] rfl rfl ?c1 ?c2 ?c3 ?c4 ?c5 ?_)
      case c2 => simp [Value.oneCell']
      case c3 => unfold maxLen; omega
      case c4 => omega
      case c5 => exact Nat.le_trans hwl (Nat.le_succ _)
      intro v' w7 hown7 hgrow7 _ hat7
      have HTA : Hid (w7.ownsRow y8.heap.size 3 1 v' (ka.length + (j + 1)) ((ka ++ (kb.take (j + 1)).map fun z => (a.length : Int) + z).map fun x => .int .i64 x)) := Lib.hid (by
        rw [HTK.out, show (ka ++ (kb.take j ++ [vj]).map fun z => (a.length : Int) + z).map (fun x => (Value.int .i64 x)) = (ka ++ (kb.take j).map fun z => (a.length : Int) + z).map (fun x => (Value.int .i64 x)) ++ [.int .i64 ((a.length : Int) + vj)] by simp, HX9.out]; exact hown7)
      have HBA : Hid (Below y8.heap.size y8 w7) := Lib.hid (below_grown6 (HB.out.trans (HA.out.mono hwl)) hgrow7 (fun g hg => (X4.out.lt g hg).1) (Nat.le_trans hwl HA.out.size))
      clear hown7 hgrow7 hat7 X4 HA cc HO HB HTK HX9
      go_wp2_with fail
      go_roundw
      case rel => exact ⟨j + 1, by go_num, by omega, HTA, HBA⟩
      case measure => simp [intOf]; omega
    · obtain rfl : j = kb.length := by omega
      have hltI : ¬ ((kb.length : Nat) : Int) < ((kb.length : Nat) : Int) := by omega
      rw [List.take_length, ← HKC.out] at HO
      have hlk : ka.length + kb.length = kc.length := by rw [HKC.out]; simp
      rw [hlk] at HO
      have hw9 := own_iv HO.out
      obtain ⟨pw, cw, hvw, _⟩ := id hw9
      rw [hvw] at hw9 ⊢
      have HSM := Lib.hid (same_any (w := wr) (a := kc) (b := kc) (D := fun b => b < wr.heap.size) (E := fun b => b < wr.heap.size) (by omega) (fun b h => h) (fun b h => h) ((N8.out.up HB.out).iv (kc, .slice pm kc.length cm) (by simp)) (hw9.mono (fun b h => h.2.1) (fun b _ _ => rfl)))
      rw [show decide (kc = kc) = true from decide_eq_true rfl] at HSM
      have S8 := Lib.hid (N8.out.up HB.out).bel
      clear hw9 N8 HO HB
      go_wp2_with fail
      refine HSM.out.mono ?_
      rintro _ y9 ⟨rfl, hb9⟩
      have S9 := Lib.hid (S8.out.trans (hb9.mono S8.out.size))
      have HAL := Lib.hid (alive_any y9)
      clear hb9 HSM S8
      go_wp2_with fail
      refine HAL.out.mono ?_
      rintro _ y10 ⟨rfl, hb10⟩
      have S10 := Lib.hid (S9.out.trans (hb10.mono S9.out.size))
      clear hb10 HAL S9
      go_wp2_with fail
      go_ret
      exact ⟨rfl, S10.out⟩
end Go.Proofs.Ytnhfeakndofokaa
