/- Package nfa. -/
import Derived.Test.YtnhfeakndofokaaProg
import Derived.Test.YtnhfeakndofokaaN7
import Derived.WalkKit
import Derived.WalkLawsBesides
import Derived.WalkSpells
import Derived.Outline
import Derived.Lib.Walk
import Derived.Lib.Hide
import Derived.Lib.Slices
import Derived.Lib.Strings
import Derived.RegionTactic
import Derived.LoopTactic
import Derived.Below
import Derived.IntWalk
import Derived.Deep.QuietTactic
import Derived.BigQuiet
import Derived.Deep.MidRow
import Derived.Maps.AppendAt
import Derived.Laws.Rows
import Derived.Laws.Tables
import Derived.Deep.WholeRow
import Derived.Deep.Cut
import Derived.Deep.CutRange
namespace Go.Proofs.Ytnhfeakndofokaa
set_option linter.unusedSimpArgs false
set_option linter.unusedVariables false
set_option maxRecDepth 100000
open Go.RowKit
/- goFree. -/
/-- What may be led through: each way leads to a state. -/
def InB (ss : List Nst) : Prop := ∀ s x, x ∈ frOf ss s → 0 ≤ x ∧ x < ss.length
theorem frOf_get {ss : List Nst} {s : Nat} (h : s < ss.length) : frOf ss s = ss[s].fr := by
  unfold frOf; rw [List.getElem?_eq_getElem h]
theorem SV.up {B : Nat} {w0 y : World} {ss : List Nst} {stp : Value} (h : SV (fun b => b < B) w0 ss stp) (hb : Below B w0 y) : SV (fun b => b < B) y ss stp := h.mono (fun b hb => hb) (fun b hB _ => hb.block b hB)
theorem FR.reb {B : Nat} {w0 y : World} {F A n : Nat} {stp sl : Value} {la l : List Nat} (h : FR B w0 y F A stp n la l sl) (hn : l ≠ []) : ∃ g cap cs, sl = .slice (some ⟨g, 0, none⟩) l.length cap ∧ own1 B g cap l cs y := own1_of h.row hn
set_option maxHeartbeats 8000000 in
theorem goFree_any {B : Nat} {w0 y : World} {F A n : Nat} {stp sl : Value} {ss : List Nst} {l0 : List Nat} (h : FR B w0 y F A stp n l0 l0 sl) (hn : n ≤ 4096) (hss : ss.length = n) (hSV : SV (fun b => b < B) w0 ss stp) (hfr : InB ss) (hfl : ∀ s ∈ ss, s.fr.length ≤ 9223372036854775806) (hnd : l0.Nodup) (hl0 : ∀ s ∈ l0, s < n) :
    Calls Try.prog 41 #[.pointer (some ⟨F, 0, none⟩)] y fun e y' => e = .returned (.tuple #[]) ∧ ∃ sl', FR B w0 y' F A stp n (goF ss (n + 1) 0 l0) (goF ss (n + 1) 0 l0) sl' := by
  obtain ⟨R, hR⟩ : ∃ R, goF ss (n + 1) 0 l0 = R := ⟨_, rfl⟩
  rw [hR]
  have HR := Lib.hid hR
  have HN := Lib.hid hnd
  have HL := Lib.hid hl0
  have H := Lib.hid h
  have HSV := Lib.hid hSV
  have HFR := Lib.hid hfr
  have HFL := Lib.hid hfl
  have HSS := Lib.hid hss
  clear hR hnd hl0 h hSV hfr hfl hss
  go_enter Try.func41, Try.ntmps41
  go_wp2_with fail
  go_loopw [2] (fun i wr => ∃ (k j : Nat) (l : List Nat) (sl : Value), i = .int .i64 (j : Nat) ∧ Hid (goF ss k j l = R) ∧ n < j + k ∧ Hid (FR B w0 wr F A stp n l l sl) ∧ Hid l.Nodup ∧ Hid (∀ s ∈ l, s < n) ∧ j ≤ l.length) (fun i _ => n + 1 - (intOf i).toNat)
  case atStart => exact ⟨n + 1, 0, l0, sl, rfl, HR, by omega, H, HN, HL, by omega⟩
  case round =>
    clear HR H HN HL
    obtain ⟨k, j, l, sl, rfl, HR, hk, H, HN, HL, hj⟩ := hrel
    obtain ⟨wo, rfl⟩ : ∃ wo : World, wo = wr := ⟨_, rfl⟩
    have hln : l.length ≤ n := nd_len HN.out HL.out
    obtain ⟨k, rfl⟩ : ∃ k', k = k' + 1 := ⟨k - 1, by omega⟩
    by_cases hlt : j < l.length
    · have hne : l ≠ [] := by intro e; subst e; simp at hlt
      obtain ⟨g, cap, cs, hsl, hown⟩ := H.out.reb hne
      subst hsl
      obtain ⟨s, hs⟩ : ∃ s, l[j] = s := ⟨_, rfl⟩
      have hsn : s < n := HL.out s (hs ▸ List.getElem_mem hlt)
      have hsn' : s < ss.length := by rw [HSS.out]; exact hsn
      have hgo : goF ss k (j + 1) (rchAll l ss[s].fr) = R := by
        rw [← HR.out, goF, List.getElem?_eq_getElem hlt, hs]
        simp only
        rw [frOf_get hsn']
      obtain ⟨q, c, hstp, hSV⟩ := HSV.out
      obtain ⟨b, o, rfl, hDb, hx⟩ := hSV (by intro e; rw [e] at hsn'; simp at hsn')
      obtain ⟨qf, f, hiv, hcell⟩ := hx s hsn'
      rw [HSS.out] at hstp
      have c0 : wo.cell? ⟨F, 0, none⟩ = some (.slice (some ⟨b, o, none⟩) n c) := by rw [← hstp]; exact cell_of_row wo F 0 _ 73 (0, 0) H.out.f
      have c1 : wo.cell? ⟨F, 1, none⟩ = some (.slice (some ⟨g, 0, none⟩) l.length cap) := cell_of_row wo F 1 _ 73 (0, 0) H.out.f
      have cg : wo.cell? ⟨g, j, none⟩ = some (.int .i64 (s : Nat)) := by rw [cell_of_row wo g j _ 3 (0, 0) hown.2.1, hown.2.2.2.2.2 j hlt, hs]
      have cf : wo.cell? ⟨b, o + s * 7 + 5, none⟩ = some (.slice qf (ss[s]).fr.length f) := (cell_same (H.out.bel.block b hDb) _).trans (hcell 5 _ rfl)
      have hfs : ∀ x ∈ (ss[s]).fr, 0 ≤ x ∧ x < n := fun x hx => by have := HFR.out s x (by rw [frOf_get hsn']; exact hx); rw [HSS.out] at this; exact this
      have hfl := HFL.out ss[s] (List.getElem_mem hsn')
      generalize (ss[s]).fr = fr at *
      have HIV : Hid (IV (fun b => b < B) w0 fr (.slice qf fr.length f)) := Lib.hid hiv
      have HGO := Lib.hid hgo
      have HFS := Lib.hid hfs
      have hltI : (j : Int) < (l.length : Int) := by omega
      have hjI : ¬ (j : Int) < 0 := by omega
      have hsI : ¬ (s : Int) < 0 := by omega
      have hsI2 : (s : Int) < (n : Int) := by omega
      clear hiv hgo hfs hcell hx hSV hstp hown hs HR hne
      go_wp2_with fail
      go_quiet (fail)
      refine at_worldQ (fun z => FR B w0 z F A stp n l l (.slice (some ⟨g, 0, none⟩) l.length cap)) ⟨below_drewN H.out.bel _, H.out.f, H.out.a, H.out.row, H.out.hF, H.out.hA, H.out.fa, H.out.sF, H.out.sA, H.out.sz⟩ fun z hz => ?_
      have H2 := Lib.hid hz
      clear hz H c0 c1 cg cf
      go_wp2_with fail
      go_loopw [29] (fun i wr => ∃ (j2 : Nat) (l2 : List Nat) (sl2 : Value), i = .int .i64 (j2 : Nat) ∧ j2 ≤ fr.length ∧ Hid (rchAll l2 (fr.drop j2) = rchAll l fr) ∧ Hid (FR B w0 wr F A stp n l2 l2 sl2) ∧ Hid l2.Nodup ∧ Hid (∀ s ∈ l2, s < n) ∧ l.length ≤ l2.length) (fun i _ => fr.length - (intOf i).toNat)
      case atStart => exact ⟨0, l, _, rfl, by omega, Lib.hid (by simp), H2, HN, HL, Nat.le_refl _⟩
      case round =>
        clear H2 HN HL
        obtain ⟨j2, l2, sl2, rfl, hj2, HRA, H, HN, HL, hll⟩ := hrel
        obtain ⟨wo, rfl⟩ : ∃ wo : World, wo = wr := ⟨_, rfl⟩
        have hln2 : l2.length ≤ n := nd_len HN.out HL.out
        by_cases hlt2 : j2 < fr.length
        · obtain ⟨x, hx⟩ : ∃ x, fr[j2] = x := ⟨_, rfl⟩
          have hx1 := HFS.out x (hx ▸ List.getElem_mem hlt2)
          obtain ⟨m, hm⟩ : ∃ m : Nat, x = (m : Int) := ⟨x.toNat, by omega⟩
          have hmn : m < n := by omega
          have hra : rchAll (rch l2 m) (fr.drop (j2 + 1)) = rchAll l fr := by
            rw [← HRA.out, List.drop_eq_getElem_cons hlt2, rchAll, hx, hm, Int.toNat_natCast]
          obtain ⟨p', c', he, hh⟩ := HIV.out
          cases he
          obtain ⟨bf, of, rfl, hbf, hcf⟩ := hh (by intro e; rw [e] at hlt2; simp at hlt2)
          have cx : wo.cell? ⟨bf, of + j2, none⟩ = some (.int .i64 (m : Nat)) := (cell_same (H.out.bel.block bf hbf) _).trans (by rw [hcf j2 hlt2, hx, hm])
          have hjI2 : ¬ (j2 : Int) < 0 := by omega
          have hltI2 : (j2 : Int) < (fr.length : Int) := by omega
          have HC := Lib.hid (reach_any H.out hmn hn (by omega))
          have HNR := Lib.hid (rch_nd HN.out m)
          have HLR : Hid (∀ s ∈ rch l2 m, s < n) := Lib.hid fun s hs => by
            rcases mem_rch.1 hs with h | rfl
            · exact HL.out s h
            · exact hmn
          have hlr : l.length ≤ (rch l2 m).length := by
            obtain ⟨mm, hmm⟩ := rch_pre l2 m
            rw [hmm, List.length_append]; omega
          have HRA2 := Lib.hid hra
          clear hra hcf hh hx hx1 hm H HN HL HRA
          go_wp2_with fail
          refine HC.out.mono ?_
          rintro _ w5 ⟨rfl, sl5, h5⟩
          have H5 := Lib.hid h5
          clear h5 cx HC
          go_wp2_with fail
          go_roundw
          case rel => exact ⟨j2 + 1, rch l2 m, sl5, by go_num, by omega, HRA2, H5, HNR, HLR, hlr⟩
          case measure => simp [intOf]; omega
        · obtain rfl : j2 = fr.length := by omega
          have hr : l2 = rchAll l fr := by rw [← HRA.out, List.drop_length, rchAll]
          have hgo2 := HGO.out
          rw [← hr] at hgo2
          have HGO2 := Lib.hid hgo2
          have hltI2 : ¬ (fr.length : Int) < (fr.length : Int) := by omega
          clear hr hgo2 HGO HRA
          go_wp2_with fail
          go_roundw
          case rel => exact ⟨k, j + 1, l2, sl2, by go_num, HGO2, by omega, H, HN, HL, by omega⟩
          case measure => simp [intOf]; omega
    · obtain rfl : j = l.length := by omega
      have hr : l = R := by rw [← HR.out, goF, List.getElem?_eq_none (Nat.le_refl _)]
      subst hr
      obtain ⟨p, c, rfl⟩ := row_form H.out.row
      have c1 : wo.cell? ⟨F, 1, none⟩ = some (.slice p l.length c) := cell_of_row wo F 1 _ 73 (0, 0) H.out.f
      have hltI : ¬ (l.length : Int) < (l.length : Int) := by omega
      go_wp2_with fail
      go_end0
      exact ⟨rfl, _, H.out⟩
end Go.Proofs.Ytnhfeakndofokaa
