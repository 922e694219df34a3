/- Package nfa. -/
import Derived.Test.YtnhfeakndofokaaProg
import Derived.Test.YtnhfeakndofokaaY26
import Derived.WalkKit
import Derived.WalkLawsBesides
import Derived.WalkSpells
import Derived.Outline
import Derived.Lib.Walk
import Derived.Lib.Hide
import Derived.Lib.Slices
import Derived.Lib.Strings
import Derived.RegionTactic
import Derived.LoopTactic
import Derived.Below
import Derived.IntWalk
import Derived.Deep.QuietTactic
import Derived.BigQuiet
import Derived.Deep.MidRow
import Derived.Maps.AppendAt
import Derived.Laws.Rows
import Derived.Laws.Tables
import Derived.Deep.WholeRow
import Derived.Deep.Cut
import Derived.Deep.CutRange
import Derived.Lib.SliceRun
import Derived.Laws.MakeOwn
import Derived.Deep.RegionLaw
import Derived.Deep.RegionLawGrows
import Derived.Deep.RegionHeld3
import Derived.RegionCalls
import Derived.Deep.RegionWith
import Derived.Deep.Light
namespace Go.Proofs.Ytnhfeakndofokaa
set_option linter.unusedSimpArgs false
set_option linter.unusedVariables false
set_option maxRecDepth 100000
open Go.RowKit
/- NfaRuns. -/
def alN (st : Int) (ss : List Nst) (s : ByteArray) : List Int := if chkN st ss = 0 then accL hasU st ss s.data.toList else []
theorem alN_len (st : Int) (ss : List Nst) (s : ByteArray) : (alN st ss s).length ≤ 48 := by
  unfold alN
  split
  · unfold accL rulesOf
    rw [List.length_map]
    refine Nat.le_trans (List.length_filter_le _ _) ?_
    simp
  · simp
theorem acc_both {D : Nat → Prop} {w : World} {st : Int} {ss : List Nst} {q : Option Addr} {c : Nat} {s : ByteArray} (hD : ∀ b, D b → b < w.heap.size) (hSV : SV D w ss (.slice q ss.length c)) (hfl : ∀ s ∈ ss, s.fr.length ≤ 9223372036854775806) (hln : ss.length ≤ 4096) (hok : ∀ s ∈ ss, okW s.u) (hs : s.size ≤ 9223372036854775806) :
    Calls Try.prog 20 #[nV st q ss.length c, .string s] w fun e w' => (∃ v, e = .returned (.tuple #[v, .int .i64 (chkN st ss)]) ∧ w'.ownsRow w.heap.size 3 1 v (alN st ss s).length (zi (alN st ss s))) ∧ Below w.heap.size w w' := by
  by_cases hch : chkN st ss = 0
  · have h := acc_own hD hSV hfl hln hok hs hch
    unfold alN
    rw [if_pos hch, hch]
    exact h
  · have h := acc_err (s := s) hD hSV hfl (by omega) hch
    unfold alN
    rw [if_neg hch]
    exact h.mono fun e w' h => ⟨⟨_, h.1, ⟨rfl, .inl ⟨rfl, rfl⟩⟩⟩, h.2⟩
theorem racc_both {D : Nat → Prop} {w : World} {st : Int} {ss : List Nst} {q : Option Addr} {c : Nat} {s : ByteArray} (hD : ∀ b, D b → b < w.heap.size) (hSV : SV D w ss (.slice q ss.length c)) (hfl : ∀ s ∈ ss, s.fr.length ≤ 1000000) (hln : ss.length ≤ 4096) (hok : ∀ s ∈ ss, okW s.u) (hs : s.size ≤ 1000000) :
    Calls Try.prog 24 #[nV st q ss.length c, .string s] w fun e w' => (∃ v, e = .returned (.tuple #[v, .int .i64 (chkN st ss)]) ∧ IV (fun b => w.heap.size ≤ b ∧ b < w'.heap.size) w' (alN st ss s) v) ∧ Below w.heap.size w w' := by
  by_cases hch : chkN st ss = 0
  · have h := racc_ok hD hSV hfl hln hok hs hch
    unfold alN
    rw [if_pos hch, hch]
    exact h
  · have h := racc_err (s := s) hD hSV (fun s hs => by have := hfl s hs; omega) (by omega) hch
    unfold alN
    rw [if_neg hch]
    exact h.mono fun e w' h => ⟨⟨_, h.1, IV.nil _ _ _ _⟩, h.2⟩
theorem own_iv {B : Nat} {w : World} {l : List Int} {v : Value} (h : w.ownsRow B 3 1 v l.length (zi l)) : IV (fun b => B ≤ b ∧ b < w.heap.size ∧ some b = v.ownBlock) w l v := by
  rcases h.2 with ⟨rfl, h0⟩ | ⟨g, cap, cur, rfl, h1, h2, h3, h4, h5, h6⟩
  · have : l = [] := List.length_eq_zero_iff.1 h0
    subst this
    exact IV.nil _ _ _ _
  · refine ⟨_, _, rfl, fun _ => ⟨g, 0, rfl, ⟨h1, (Array.getElem?_eq_some_iff.1 h2).1, rfl⟩, fun i hi => ?_⟩⟩
    have := h.cells (g := g) rfl i (.int .i64 l[i]) (by simp [zi, hi])
    rwa [Addr.add_mid] at this
set_option maxHeartbeats 16000000 in
theorem runs_any {D : Nat → Prop} {w : World} {st : Int} {ss : List Nst} {q : Option Addr} {c : Nat} {s : ByteArray} (hD : ∀ b, D b → b < w.heap.size) (hSV : SV D w ss (.slice q ss.length c)) (hfl : ∀ s ∈ ss, s.fr.length ≤ 9223372036854775806) (hln : ss.length ≤ 9223372036854775806) (hok : ∀ s ∈ ss, okW s.u) (hs : s.size ≤ 9223372036854775806) :
    Calls Try.prog 5 #[nV st q ss.length c, .string s] w fun e w' => e = .returned (.bool true) ∧ Below w.heap.size w w' := by
  have S0 := Lib.hid ((Below.refl w.heap.size w).alloc (Nat.le_refl _) (.cells #[.int .i64 st, .slice q ss.length c] 24))
  by_cases hlong : 60 < s.size
  · have hI : (60 : Int) < (s.size : Int) := by omega
    unfold nV
    clear hSV hfl hln hD hok
    go_enter Try.func5, Try.ntmps5
    go_wp2_with fail
    go_ret
    exact ⟨rfl, S0.out⟩
  have hI : ¬ (60 : Int) < (s.size : Int) := by omega
  have HBIG := Lib.hid fun z (hb : Below w.heap.size w z) => big_any (w := z) (st := st) 3000 (by omega) (fun b h => Nat.lt_of_lt_of_le (hD b h) hb.size) (hSV.mono (fun b h => h) (fun b h _ => hb.block b (hD b h))) hfl hln
  unfold nV at HBIG ⊢
  by_cases hbig : bigN 3000 ss = true
  · rw [hbig] at HBIG
    clear hSV hfl hln hD hbig hok
    go_enter Try.func5, Try.ntmps5
    go_wp2_with fail
    refine (HBIG.out _ S0.out).mono ?_
    rintro _ w1 ⟨rfl, hb1⟩
    have S1 := Lib.hid (S0.out.trans (hb1.mono S0.out.size))
    clear hb1 HBIG S0
    go_wp2_with fail
    go_ret
    exact ⟨rfl, S1.out⟩
  have hbig' : bigN 3000 ss = false := by simpa using hbig
  have hno := bigN_no hbig'
  rw [hbig'] at HBIG
  have hln2 : ss.length ≤ 4096 := by omega
  have hfl2 : ∀ s ∈ ss, s.fr.length ≤ 1000000 := fun s hs => by have := frees_mem hs; omega
  have HTW := Lib.hid fun z (hb : Below w.heap.size w z) => twin_nfa (w := z) (st := st) (fun b h => Nat.lt_of_lt_of_le (hD b h) hb.size) (hSV.mono (fun b h => h) (fun b h _ => hb.block b (hD b h))) hfl2 (by omega)
  have HRA := Lib.hid fun z (hb : Below w.heap.size w z) => racc_both (w := z) (st := st) (s := s) (fun b h => Nat.lt_of_lt_of_le (hD b h) hb.size) (hSV.mono (fun b h => h) (fun b h _ => hb.block b (hD b h))) hfl2 hln2 hok (by omega)
  unfold nV at HTW HRA
  have HSV := Lib.hid hSV
  have HD := Lib.hid hD
  have HFL := Lib.hid hfl2
  have HLN := Lib.hid hln2
  have HOK := Lib.hid hok
  clear hSV hfl hln hD hbig hbig' hno hln2 hfl2 hok
  go_enter Try.func5, Try.ntmps5
  go_wp2_with fail
  refine (HBIG.out _ S0.out).mono ?_
  rintro _ w1 ⟨rfl, hb1⟩
  have S1 := Lib.hid (S0.out.trans (hb1.mono S0.out.size))
  have k0 : w1.cell? ⟨w.heap.size, 0, none⟩ = some (.int .i64 st) := (hb1.cell (p := ⟨w.heap.size, 0, none⟩) (by simp)).trans (cell_of_row _ _ 0 _ 24 (0, 0) (heap_alloc_last w _))
  have k1 : w1.cell? ⟨w.heap.size, 1, none⟩ = some (.slice q ss.length c) := (hb1.cell (p := ⟨w.heap.size, 1, none⟩) (by simp)).trans (cell_of_row _ _ 1 _ 24 (0, 0) (heap_alloc_last w _))
  have hz1 : w.heap.size < w1.heap.size := Nat.lt_of_lt_of_le (by simp) hb1.size
  clear hb1 HBIG S0
  go_wp2_with fail
  refine (HTW.out _ S1.out).mono ?_
  rintro _ w2 ⟨g, cap, zs, rfl, hz, hT, hb2⟩
  have HZ := Lib.hid hz
  have HB3 := (Below.refl w2.heap.size w2).alloc (Nat.le_refl _) (.cells #[.int .i64 st, .slice (some ⟨g, 0, none⟩) ss.length cap] 24)
  have S2 := S1.out.trans (hb2.mono S1.out.size)
  have hz2 : w.heap.size < w2.heap.size := Nat.lt_of_lt_of_le hz1 hb2.size
  have HBW : Hid (Below w.heap.size w (w2.alloc (.cells #[.int .i64 st, .slice (some ⟨g, 0, none⟩) ss.length cap] 24))) := Lib.hid (S2.trans (HB3.mono S2.size))
  have k0 : (w2.alloc (.cells #[.int .i64 st, .slice (some ⟨g, 0, none⟩) ss.length cap] 24)).cell? ⟨w.heap.size, 0, none⟩ = some (.int .i64 st) := (HB3.cell (p := ⟨w.heap.size, 0, none⟩) hz2).trans ((hb2.cell (p := ⟨w.heap.size, 0, none⟩) hz1).trans k0)
  have k1 : (w2.alloc (.cells #[.int .i64 st, .slice (some ⟨g, 0, none⟩) ss.length cap] 24)).cell? ⟨w.heap.size, 1, none⟩ = some (.slice q ss.length c) := (HB3.cell (p := ⟨w.heap.size, 1, none⟩) hz2).trans ((hb2.cell (p := ⟨w.heap.size, 1, none⟩) hz1).trans k1)
  have l0 : (w2.alloc (.cells #[.int .i64 st, .slice (some ⟨g, 0, none⟩) ss.length cap] 24)).cell? ⟨w2.heap.size, 0, none⟩ = some (.int .i64 st) := cell_of_row _ _ 0 _ 24 (0, 0) (heap_alloc_last w2 _)
  have l1 : (w2.alloc (.cells #[.int .i64 st, .slice (some ⟨g, 0, none⟩) ss.length cap] 24)).cell? ⟨w2.heap.size, 1, none⟩ = some (.slice (some ⟨g, 0, none⟩) ss.length cap) := cell_of_row _ _ 1 _ 24 (0, 0) (heap_alloc_last w2 _)
  have y1 : w.heap.size < (w2.alloc (.cells #[.int .i64 st, .slice (some ⟨g, 0, none⟩) ss.length cap] 24)).heap.size := Nat.lt_of_lt_of_le hz2 HB3.size
  have y2 : w2.heap.size < (w2.alloc (.cells #[.int .i64 st, .slice (some ⟨g, 0, none⟩) ss.length cap] 24)).heap.size := by simp
  have HT2 := Lib.hid (hT.up HB3)
  clear hb2 HTW S1 hz hT hz1 HB3 S2 hz2
  go_upto_region 4 with fail
  obtain ⟨tb, htb⟩ : ∃ tb, w2.heap.size = tb := ⟨_, rfl⟩
  rw [htb] at l0 l1 y2 ⊢
  obtain ⟨B, hB⟩ : ∃ B, w1.heap.size = B := ⟨_, rfl⟩
  rw [hB] at HT2
  obtain ⟨wv, hwv⟩ : ∃ wv, w2.alloc (.cells #[.int .i64 st, .slice (some ⟨g, 0, none⟩) ss.length cap] 24) = wv := ⟨_, rfl⟩
  rw [hwv] at l0 l1 y2 y1 k0 k1 HBW HT2 ⊢
  clear hwv hB htb
  have HL0 := Lib.hid l0
  have HL1 := Lib.hid l1
  have HA1 : Hid (∀ z : World, Below wv.heap.size wv z → Calls Try.prog 20 #[.agg #[.int .i64 st, .slice (some ⟨g, 0, none⟩) ss.length cap], .string s] z fun e w' => (∃ v, e = .returned (.tuple #[v, .int .i64 (chkN st ss)]) ∧ w'.ownsRow z.heap.size 3 1 v (alN st ss s).length (zi (alN st ss s))) ∧ Below z.heap.size z w') := Lib.hid fun z hb => acc_both (w := z) (st := st) (fun b h => h.2) (tn_sv (HT2.out.up hb) HZ.out cap) (fun s hs => by have := HFL.out s hs; omega) HLN.out HOK.out hs
  have HRA2 : Hid (∀ z : World, Below wv.heap.size wv z → Calls Try.prog 24 #[.agg #[.int .i64 st, .slice q ss.length c], .string s] z fun e w' => (∃ v, e = .returned (.tuple #[v, .int .i64 (chkN st ss)]) ∧ IV (fun b => z.heap.size ≤ b ∧ b < w'.heap.size) w' (alN st ss s) v) ∧ Below z.heap.size z w') := Lib.hid fun z hb => HRA.out z (HBW.out.trans (hb.mono HBW.out.size))
  have HLF : Hid (∀ z : World, Below wv.heap.size wv z → Calls Try.prog 13 #[.agg #[.int .i64 st, .slice (some ⟨g, 0, none⟩) ss.length cap], .agg #[.int .i64 st, .slice q ss.length c]] z fun e w' => e = .returned (.bool true) ∧ Below z.heap.size z w') := Lib.hid fun z hb => by
    have hb2 := HBW.out.trans (hb.mono HBW.out.size)
    exact left_nfa (w := z) (st := st) (D := D) (fun b h => Nat.lt_of_lt_of_le (HD.out b h) hb2.size) (HSV.out.mono (fun b h => h) (fun b h _ => hb2.block b (HD.out b h))) HZ.out (HT2.out.up hb) HFL.out (by have := HLN.out; omega)
  have hal := alN_len st ss s
  obtain ⟨al, hale⟩ : ∃ al, alN st ss s = al := ⟨_, rfl⟩
  rw [hale] at HA1 HRA2 hal
  clear HRA HSV HD HFL HLN HOK HZ HT2 hale
  obtain ⟨cn, hcn⟩ : ∃ cn, chkN st ss = cn := ⟨_, rfl⟩
  rw [hcn] at HA1 HRA2
  clear hcn
  have HAL := Lib.hid hal
  have hne : (cn != cn) = false := by simp
  have heq : (cn == cn) = true := by simp
  clear hal
  go_wp2_with fail
  refine (HA1.out _ (Below.refl _ _)).mono ?_
  rintro _ w4 ⟨⟨vl, rfl, hvl⟩, hb4⟩
  have HVL := Lib.hid hvl
  have R4 := Lib.hid hb4
  have k0 : w4.cell? ⟨w.heap.size, 0, none⟩ = some (.int .i64 st) := (hb4.cell (p := ⟨w.heap.size, 0, none⟩) y1).trans k0
  have k1 : w4.cell? ⟨w.heap.size, 1, none⟩ = some (.slice q ss.length c) := (hb4.cell (p := ⟨w.heap.size, 1, none⟩) y1).trans k1
  clear hvl hb4
  go_wp2_with fail
  refine (HRA2.out _ R4.out).mono ?_
  rintro _ w5 ⟨⟨vw, rfl, hvw⟩, hb5⟩
  have R5 := Lib.hid (R4.out.trans (hb5.mono R4.out.size))
  have HVL5 : Hid (w5.ownsRow wv.heap.size 3 1 vl al.length (zi al)) := Lib.hid (World.ownsRow.kept (row := none) HVL.out ⟨hb5.os, hb5.tape, hb5.output, hb5.size, fun k hk _ => hb5.block k hk⟩ (by cases h : vl.ownBlock with | none => exact .inl rfl | some b => exact .inr (by simp)))
  have HW5 : Hid (IV (fun b => b < w5.heap.size ∧ some b ≠ vl.ownBlock) w5 al vw) := Lib.hid (hvw.mono (fun b h => ⟨h.2, fun e => by have := (World.ownsRow.lt HVL.out b e.symm).2; have := h.1; omega⟩) (fun b _ _ => rfl))
  obtain ⟨pl, cl, rfl⟩ := row_form HVL5.out
  obtain ⟨pw, cw, rfl, -⟩ : ∃ p c, vw = .slice p al.length c ∧ True := by obtain ⟨p, c, h, _⟩ := hvw; exact ⟨p, c, h, trivial⟩
  have HSM : Hid (Calls Try.prog 21 #[.slice pl al.length cl, .slice pw al.length cw] w5 fun e w' => e = .returned (.bool (decide (al = al))) ∧ Below w5.heap.size w5 w') := Lib.hid (same_any (w := w5) (a := al) (b := al) (by have := HAL.out; omega) (fun b h => h.2.1) (fun b h => h.1) (own_iv HVL5.out) HW5.out)
  rw [show decide (al = al) = true by simp] at HSM
  have k0 : w5.cell? ⟨w.heap.size, 0, none⟩ = some (.int .i64 st) := (hb5.cell (p := ⟨w.heap.size, 0, none⟩) (Nat.lt_of_lt_of_le y1 R4.out.size)).trans k0
  have k1 : w5.cell? ⟨w.heap.size, 1, none⟩ = some (.slice q ss.length c) := (hb5.cell (p := ⟨w.heap.size, 1, none⟩) (Nat.lt_of_lt_of_le y1 R4.out.size)).trans k1
  have l0 : w5.cell? ⟨tb, 0, none⟩ = some (.int .i64 st) := (R5.out.cell (p := ⟨tb, 0, none⟩) y2).trans l0
  have l1 : w5.cell? ⟨tb, 1, none⟩ = some (.slice (some ⟨g, 0, none⟩) ss.length cap) := (R5.out.cell (p := ⟨tb, 1, none⟩) y2).trans l1
  clear hvw hb5 R4 HVL HRA2
  go_wp2_with fail
  refine HSM.out.mono ?_
  rintro _ w6 ⟨rfl, hb6⟩
  have R6 := Lib.hid (R5.out.trans (hb6.mono R5.out.size))
  have HVL6 : Hid (w6.ownsRow wv.heap.size 3 1 (.slice pl al.length cl) al.length (zi al)) := Lib.hid (World.ownsRow.kept (row := none) HVL5.out ⟨hb6.os, hb6.tape, hb6.output, hb6.size, fun k hk _ => hb6.block k hk⟩ (by cases h : (Value.slice pl al.length cl).ownBlock with | none => exact .inl rfl | some b => exact .inr (by simp)))
  have HW6 := Lib.hid (HW5.out.mono (E := fun b => b < w6.heap.size ∧ some b ≠ (Value.slice pl al.length cl).ownBlock) (fun b h => ⟨Nat.lt_of_lt_of_le h.1 hb6.size, h.2⟩) (fun b h _ => hb6.block b h.1))
  have k0 : w6.cell? ⟨w.heap.size, 0, none⟩ = some (.int .i64 st) := (hb6.cell (p := ⟨w.heap.size, 0, none⟩) (Nat.lt_of_lt_of_le y1 R5.out.size)).trans k0
  have k1 : w6.cell? ⟨w.heap.size, 1, none⟩ = some (.slice q ss.length c) := (hb6.cell (p := ⟨w.heap.size, 1, none⟩) (Nat.lt_of_lt_of_le y1 R5.out.size)).trans k1
  have l0 : w6.cell? ⟨tb, 0, none⟩ = some (.int .i64 st) := (hb6.cell (p := ⟨tb, 0, none⟩) (Nat.lt_of_lt_of_le y2 R5.out.size)).trans l0
  have l1 : w6.cell? ⟨tb, 1, none⟩ = some (.slice (some ⟨g, 0, none⟩) ss.length cap) := (hb6.cell (p := ⟨tb, 1, none⟩) (Nat.lt_of_lt_of_le y2 R5.out.size)).trans l1
  clear hb6 R5 HVL5 HW5 HSM
  go_wp2_with fail
  refine (HLF.out _ R6.out).mono ?_
  rintro _ w7 ⟨rfl, hb7⟩
  have R7 := Lib.hid (R6.out.trans (hb7.mono R6.out.size))
  have HVL7 : Hid (w7.ownsRow wv.heap.size 3 1 (.slice pl al.length cl) al.length (zi al)) := Lib.hid (World.ownsRow.kept (row := none) HVL6.out ⟨hb7.os, hb7.tape, hb7.output, hb7.size, fun k hk _ => hb7.block k hk⟩ (by cases h : (Value.slice pl al.length cl).ownBlock with | none => exact .inl rfl | some b => exact .inr (by simp)))
  have HW7 := Lib.hid (HW6.out.mono (E := fun b => b < w7.heap.size ∧ some b ≠ (Value.slice pl al.length cl).ownBlock) (fun b h => ⟨Nat.lt_of_lt_of_le h.1 hb7.size, h.2⟩) (fun b h _ => hb7.block b h.1))
  have HMK := Lib.hid (mark_any (n := 0) (by omega) (by have := HAL.out; omega) HVL7.out)
  rw [show ((0 : Nat) : Int) = 0 from rfl] at HMK
  clear hb7 R6 HVL6 HW6 HLF k0 k1 l0 l1
  go_wp2_with fail
  refine HMK.out.mono ?_
  rintro _ w8 ⟨rfl, hon, -⟩
  have R8 := Lib.hid (hon.below R7.out (fun k hk => (World.ownsRow.lt HVL7.out k hk).1))
  have HW8 := Lib.hid (HW7.out.mono (E := fun b => b < w8.heap.size) (fun b h => by rw [hon.size]; exact h.1) (fun b h _ => hon.block b h.2))
  clear hon HMK R7 HVL7 HW7
  have l0 : w8.cell? ⟨tb, 0, none⟩ = some (.int .i64 st) := (R8.out.cell (p := ⟨tb, 0, none⟩) y2).trans HL0.out
  have l1 : w8.cell? ⟨tb, 1, none⟩ = some (.slice (some ⟨g, 0, none⟩) ss.length cap) := (R8.out.cell (p := ⟨tb, 1, none⟩) y2).trans HL1.out
  go_wp2_with fail
  refine (HA1.out _ R8.out).mono ?_
  rintro _ w9 ⟨⟨vm, rfl, hvm⟩, hb9⟩
  obtain ⟨pm, cm, rfl⟩ := row_form hvm
  have R9 := Lib.hid (R8.out.trans (hb9.mono R8.out.size))
  have HSM : Hid (Calls Try.prog 21 #[.slice pm al.length cm, .slice pw al.length cw] w9 fun e w' => e = .returned (.bool (decide (al = al))) ∧ Below w9.heap.size w9 w') := Lib.hid (same_any (w := w9) (a := al) (b := al) (D := fun b => b < w9.heap.size) (E := fun b => b < w9.heap.size) (by have := HAL.out; omega) (fun b h => h) (fun b h => h) ((own_iv hvm).mono (fun b h => h.2.1) (fun b _ _ => rfl)) (HW8.out.mono (fun b h => Nat.lt_of_lt_of_le h hb9.size) (fun b h _ => hb9.block b h)))
  rw [show decide (al = al) = true by simp] at HSM
  clear hvm hb9 R8 HW8 HA1 l0 l1
  go_wp2_with fail
  refine HSM.out.mono ?_
  rintro _ w10 ⟨rfl, hb10⟩
  have R10 := Lib.hid (R9.out.trans (hb10.mono R9.out.size))
  have HA := Lib.hid (alive_any w10)
  clear hb10 HSM R9
  go_wp2_with fail
  refine HA.out.mono ?_
  rintro _ w11 ⟨rfl, hb11⟩
  have R11 := Lib.hid (R10.out.trans (hb11.mono R10.out.size))
  clear hb11 HA R10
  go_wp2
  go_ret
  exact ⟨rfl, HBW.out.trans (R11.out.mono HBW.out.size)⟩
end Go.Proofs.Ytnhfeakndofokaa
