/- Texts of package regs, one behind the other. -/
import Derived.Test.YthglciccejholaaDoorProg
import Derived.Test.YthglciccejholaaDoorZ2
import Derived.WalkKit
import Derived.WalkLawsBesides
import Derived.WalkSpells
import Derived.Outline
import Derived.Lib.Walk
import Derived.Lib.Hide
import Derived.Lib.Slices
import Derived.Lib.Strings
import Derived.RegionTactic
import Derived.LoopTactic
import Derived.Below
import Derived.IntWalk
import Derived.Deep.QuietTactic
import Derived.BigQuiet
import Derived.Deep.MidRow
import Derived.Maps.AppendAt
import Derived.Laws.Rows
import Derived.Laws.Tables
import Derived.Deep.WholeRow
import Derived.Deep.Cut
import Derived.Deep.CutRange
import Derived.Test.YthglciccejholaaDoorZ1
import Derived.Laws.AppendOwn
import Derived.Laws.OwnMore
import Derived.Laws.Entries
section
/- Package nfa. -/
namespace Go.Proofs.YthglciccejholaaDoor
set_option linter.unusedSimpArgs false
set_option linter.unusedVariables false
set_option maxRecDepth 100000
open Go.RowKit
/- goFree. -/
/-- What may be led through: each way leads to a state. -/
def InB (ss : List Nst) : Prop := ∀ s x, x ∈ frOf ss s → 0 ≤ x ∧ x < ss.length
theorem frOf_get {ss : List Nst} {s : Nat} (h : s < ss.length) : frOf ss s = ss[s].fr := by
  unfold frOf; rw [List.getElem?_eq_getElem h]
theorem SV.up {B : Nat} {w0 y : World} {ss : List Nst} {stp : Value} (h : SV (fun b => b < B) w0 ss stp) (hb : Below B w0 y) : SV (fun b => b < B) y ss stp := h.mono (fun b hb => hb) (fun b hB _ => hb.block b hB)
theorem FR.reb {B : Nat} {w0 y : World} {F A n : Nat} {stp sl : Value} {la l : List Nat} (h : FR B w0 y F A stp n la l sl) (hn : l ≠ []) : ∃ g cap cs, sl = .slice (some ⟨g, 0, none⟩) l.length cap ∧ own1 B g cap l cs y := own1_of h.row hn
set_option maxHeartbeats 8000000 in
theorem goFree_any {B : Nat} {w0 y : World} {F A n : Nat} {stp sl : Value} {ss : List Nst} {l0 : List Nat} (h : FR B w0 y F A stp n l0 l0 sl) (hn : n ≤ 4096) (hss : ss.length = n) (hSV : SV (fun b => b < B) w0 ss stp) (hfr : InB ss) (hfl : ∀ s ∈ ss, s.fr.length ≤ 9223372036854775806) (hnd : l0.Nodup) (hl0 : ∀ s ∈ l0, s < n) :
    Calls Tryd.prog 45 #[.pointer (some ⟨F, 0, none⟩)] y fun e y' => e = .returned (.tuple #[]) ∧ ∃ sl', FR B w0 y' F A stp n (goF ss (n + 1) 0 l0) (goF ss (n + 1) 0 l0) sl' := by
  obtain ⟨R, hR⟩ : ∃ R, goF ss (n + 1) 0 l0 = R := ⟨_, rfl⟩
  rw [hR]
  have HR := Lib.hid hR
  have HN := Lib.hid hnd
  have HL := Lib.hid hl0
  have H := Lib.hid h
  have HSV := Lib.hid hSV
  have HFR := Lib.hid hfr
  have HFL := Lib.hid hfl
  have HSS := Lib.hid hss
  clear hR hnd hl0 h hSV hfr hfl hss
  go_enter Tryd.func45, Tryd.ntmps45
  go_wp2_with fail
  go_loopw [2] (fun i wr => ∃ (k j : Nat) (l : List Nat) (sl : Value), i = .int .i64 (j : Nat) ∧ Hid (goF ss k j l = R) ∧ n < j + k ∧ Hid (FR B w0 wr F A stp n l l sl) ∧ Hid l.Nodup ∧ Hid (∀ s ∈ l, s < n) ∧ j ≤ l.length) (fun i _ => n + 1 - (intOf i).toNat)
  case atStart => exact ⟨n + 1, 0, l0, sl, rfl, HR, by omega, H, HN, HL, by omega⟩
  case round =>
    clear HR H HN HL
    obtain ⟨k, j, l, sl, rfl, HR, hk, H, HN, HL, hj⟩ := hrel
    obtain ⟨wo, rfl⟩ : ∃ wo : World, wo = wr := ⟨_, rfl⟩
    have hln : l.length ≤ n := nd_len HN.out HL.out
    obtain ⟨k, rfl⟩ : ∃ k', k = k' + 1 := ⟨k - 1, by omega⟩
    by_cases hlt : j < l.length
    · have hne : l ≠ [] := by intro e; subst e; simp at hlt
      obtain ⟨g, cap, cs, hsl, hown⟩ := H.out.reb hne
      subst hsl
      obtain ⟨s, hs⟩ : ∃ s, l[j] = s := ⟨_, rfl⟩
      have hsn : s < n := HL.out s (hs ▸ List.getElem_mem hlt)
      have hsn' : s < ss.length := by rw [HSS.out]; exact hsn
      have hgo : goF ss k (j + 1) (rchAll l ss[s].fr) = R := by
        rw [← HR.out, goF, List.getElem?_eq_getElem hlt, hs]
        simp only
        rw [frOf_get hsn']
      obtain ⟨q, c, hstp, hSV⟩ := HSV.out
      obtain ⟨b, o, rfl, hDb, hx⟩ := hSV (by intro e; rw [e] at hsn'; simp at hsn')
      obtain ⟨qf, f, hiv, hcell⟩ := hx s hsn'
      rw [HSS.out] at hstp
      have c0 : wo.cell? ⟨F, 0, none⟩ = some (.slice (some ⟨b, o, none⟩) n c) := by rw [← hstp]; exact cell_of_row wo F 0 _ 84 (0, 0) H.out.f
      have c1 : wo.cell? ⟨F, 1, none⟩ = some (.slice (some ⟨g, 0, none⟩) l.length cap) := cell_of_row wo F 1 _ 84 (0, 0) H.out.f
      have cg : wo.cell? ⟨g, j, none⟩ = some (.int .i64 (s : Nat)) := by rw [cell_of_row wo g j _ 3 (0, 0) hown.2.1, hown.2.2.2.2.2 j hlt, hs]
      have cf : wo.cell? ⟨b, o + s * 7 + 5, none⟩ = some (.slice qf (ss[s]).fr.length f) := (cell_same (H.out.bel.block b hDb) _).trans (hcell 5 _ rfl)
      have hfs : ∀ x ∈ (ss[s]).fr, 0 ≤ x ∧ x < n := fun x hx => by have := HFR.out s x (by rw [frOf_get hsn']; exact hx); rw [HSS.out] at this; exact this
      have hfl := HFL.out ss[s] (List.getElem_mem hsn')
      generalize (ss[s]).fr = fr at *
      have HIV : Hid (IV (fun b => b < B) w0 fr (.slice qf fr.length f)) := Lib.hid hiv
      have HGO := Lib.hid hgo
      have HFS := Lib.hid hfs
      have hltI : (j : Int) < (l.length : Int) := by omega
      have hjI : ¬ (j : Int) < 0 := by omega
      have hsI : ¬ (s : Int) < 0 := by omega
      have hsI2 : (s : Int) < (n : Int) := by omega
      clear hiv hgo hfs hcell hx hSV hstp hown hs HR hne
      go_wp2_with fail
      go_quiet (fail)
      refine at_worldQ (fun z => FR B w0 z F A stp n l l (.slice (some ⟨g, 0, none⟩) l.length cap)) ⟨below_drewN H.out.bel _, H.out.f, H.out.a, H.out.row, H.out.hF, H.out.hA, H.out.fa, H.out.sF, H.out.sA, H.out.sz⟩ fun z hz => ?_
      have H2 := Lib.hid hz
      clear hz H c0 c1 cg cf
      go_wp2_with fail
      go_loopw [29] (fun i wr => ∃ (j2 : Nat) (l2 : List Nat) (sl2 : Value), i = .int .i64 (j2 : Nat) ∧ j2 ≤ fr.length ∧ Hid (rchAll l2 (fr.drop j2) = rchAll l fr) ∧ Hid (FR B w0 wr F A stp n l2 l2 sl2) ∧ Hid l2.Nodup ∧ Hid (∀ s ∈ l2, s < n) ∧ l.length ≤ l2.length) (fun i _ => fr.length - (intOf i).toNat)
      case atStart => exact ⟨0, l, _, rfl, by omega, Lib.hid (by simp), H2, HN, HL, Nat.le_refl _⟩
      case round =>
        clear H2 HN HL
        obtain ⟨j2, l2, sl2, rfl, hj2, HRA, H, HN, HL, hll⟩ := hrel
        obtain ⟨wo, rfl⟩ : ∃ wo : World, wo = wr := ⟨_, rfl⟩
        have hln2 : l2.length ≤ n := nd_len HN.out HL.out
        by_cases hlt2 : j2 < fr.length
        · obtain ⟨x, hx⟩ : ∃ x, fr[j2] = x := ⟨_, rfl⟩
          have hx1 := HFS.out x (hx ▸ List.getElem_mem hlt2)
          obtain ⟨m, hm⟩ : ∃ m : Nat, x = (m : Int) := ⟨x.toNat, by omega⟩
          have hmn : m < n := by omega
          have hra : rchAll (rch l2 m) (fr.drop (j2 + 1)) = rchAll l fr := by
            rw [← HRA.out, List.drop_eq_getElem_cons hlt2, rchAll, hx, hm, Int.toNat_natCast]
          obtain ⟨p', c', he, hh⟩ := HIV.out
          cases he
          obtain ⟨bf, of, rfl, hbf, hcf⟩ := hh (by intro e; rw [e] at hlt2; simp at hlt2)
          have cx : wo.cell? ⟨bf, of + j2, none⟩ = some (.int .i64 (m : Nat)) := (cell_same (H.out.bel.block bf hbf) _).trans (by rw [hcf j2 hlt2, hx, hm])
          have hjI2 : ¬ (j2 : Int) < 0 := by omega
          have hltI2 : (j2 : Int) < (fr.length : Int) := by omega
          have HC := Lib.hid (reach_any H.out hmn hn (by omega))
          have HNR := Lib.hid (rch_nd HN.out m)
          have HLR : Hid (∀ s ∈ rch l2 m, s < n) := Lib.hid fun s hs => by
            rcases mem_rch.1 hs with h | rfl
            · exact HL.out s h
            · exact hmn
          have hlr : l.length ≤ (rch l2 m).length := by
            obtain ⟨mm, hmm⟩ := rch_pre l2 m
            rw [hmm, List.length_append]; omega
          have HRA2 := Lib.hid hra
          clear hra hcf hh hx hx1 hm H HN HL HRA
          go_wp2_with fail
          refine HC.out.mono ?_
          rintro _ w5 ⟨rfl, sl5, h5⟩
          have H5 := Lib.hid h5
          clear h5 cx HC
          go_wp2_with fail
          go_roundw
          case rel => exact ⟨j2 + 1, rch l2 m, sl5, by go_num, by omega, HRA2, H5, HNR, HLR, hlr⟩
          case measure => simp [intOf]; omega
        · obtain rfl : j2 = fr.length := by omega
          have hr : l2 = rchAll l fr := by rw [← HRA.out, List.drop_length, rchAll]
          have hgo2 := HGO.out
          rw [← hr] at hgo2
          have HGO2 := Lib.hid hgo2
          have hltI2 : ¬ (fr.length : Int) < (fr.length : Int) := by omega
          clear hr hgo2 HGO HRA
          go_wp2_with fail
          go_roundw
          case rel => exact ⟨k, j + 1, l2, sl2, by go_num, HGO2, by omega, H, HN, HL, by omega⟩
          case measure => simp [intOf]; omega
    · obtain rfl : j = l.length := by omega
      have hr : l = R := by rw [← HR.out, goF, List.getElem?_eq_none (Nat.le_refl _)]
      subst hr
      obtain ⟨p, c, rfl⟩ := row_form H.out.row
      have c1 : wo.cell? ⟨F, 1, none⟩ = some (.slice p l.length c) := cell_of_row wo F 1 _ 84 (0, 0) H.out.f
      have hltI : ¬ (l.length : Int) < (l.length : Int) := by omega
      go_wp2_with fail
      go_end0
      exact ⟨rfl, _, H.out⟩
end Go.Proofs.YthglciccejholaaDoor
end
section
/- Package nfa, plain. -/
namespace Go.Proofs.YthglciccejholaaDoor
set_option linter.unusedSimpArgs false
set_option linter.unusedVariables false
set_option maxRecDepth 100000
/- One state more, from which a free way leads to the start. -/
def more1 (st : Int) (ss : List Nst) : List Nst := ss ++ [⟨fun _ => 0, -1, [st], -1⟩]
theorem more_lt {st : Int} {ss : List Nst} {s : Nat} (h : s < ss.length) : (more1 st ss)[s]? = ss[s]? := by
  unfold more1; rw [List.getElem?_append_left h]
theorem more_last {st : Int} {ss : List Nst} : (more1 st ss)[ss.length]? = some ⟨fun _ => 0, -1, [st], -1⟩ := by
  unfold more1; simp
theorem more_fr {st : Int} {ss : List Nst} {s : Nat} (h : s < ss.length) : frOf (more1 st ss) s = frOf ss s := by unfold frOf; rw [more_lt h]
theorem more_to {st : Int} {ss : List Nst} {s : Nat} (h : s < ss.length) (has : (Nat → Int) → UInt8 → Bool) (c : UInt8) : toOf has (more1 st ss) c s = toOf has ss c s := by unfold toOf; rw [more_lt h]
theorem more_rl {st : Int} {ss : List Nst} {s : Nat} (h : s < ss.length) : rlOf (more1 st ss) s = rlOf ss s := by unfold rlOf; rw [more_lt h]
theorem more_rt {st : Int} {ss : List Nst} (hf : Fine ss) {a b : Nat} (ha : a < ss.length) : Rt (more1 st ss) a b ↔ Rt ss a b := by
  constructor
  · intro h
    have : Rt ss a b ∧ b < ss.length := by
      induction h with
      | refl => exact ⟨.refl _, ha⟩
      | step _ x hx hc ih =>
        rw [more_fr ih.2] at hx
        have h2 := Rt.step ih.1 x hx hc
        exact ⟨h2, h2.lt hf ha⟩
    exact this.1
  · intro h
    have : Rt (more1 st ss) a b ∧ b < ss.length := by
      induction h with
      | refl => exact ⟨.refl _, ha⟩
      | step h' x hx hc ih =>
        have h2 := (Rt.step h' x hx hc).lt hf ha
        exact ⟨.step ih.1 x (by rw [more_fr ih.2]; exact hx) hc, h2⟩
    exact this.1
theorem Rt.first {ss : List Nst} {a b : Nat} (h : Rt ss a b) : b = a ∨ ∃ x ∈ frOf ss a, Rt ss x.toNat b := by
  induction h with
  | refl => exact .inl rfl
  | step h' x hx hc ih =>
    rcases ih with rfl | ⟨y, hy, hr⟩
    · exact .inr ⟨x, hx, hc ▸ .refl _⟩
    · exact .inr ⟨y, hy, .step hr x hx hc⟩
theorem more_rt0 {st : Int} {ss : List Nst} (hf : Fine ss) (h0 : 0 ≤ st) (h1 : st < ss.length) {b : Nat} : Rt (more1 st ss) ss.length b ↔ b = ss.length ∨ Rt ss st.toNat b := by
  have hfr : frOf (more1 st ss) ss.length = [st] := by unfold frOf; rw [more_last]
  constructor
  · intro h
    rcases h.first with rfl | ⟨x, hx, hr⟩
    · exact .inl rfl
    · rw [hfr] at hx
      simp only [List.mem_singleton] at hx
      subst hx
      exact .inr ((more_rt hf (by omega)).1 hr)
  · rintro (rfl | h)
    · exact .refl _
    · exact Rt.trans (.step (.refl _) st (by rw [hfr]; simp) rfl) ((more_rt hf (by omega)).2 h)
theorem more_acc {has : (Nat → Int) → UInt8 → Bool} {st : Int} {ss : List Nst} (hf : Fine ss) : ∀ (x : List UInt8) {a b : Nat}, a < ss.length → (Acc has (more1 st ss) x a b ↔ Acc has ss x a b)
  | [], a, b, ha => more_rt hf ha
  | c :: r, a, b, ha => by
    constructor
    · rintro ⟨s, t, h1, h2, h3⟩
      have h1' := (more_rt hf ha).1 h1
      have hs := h1'.lt hf ha
      rw [more_to hs] at h2
      exact ⟨s, t, h1', h2, (more_acc hf r (hf.to _ _ _ _ h2)).1 h3⟩
    · rintro ⟨s, t, h1, h2, h3⟩
      have hs := h1.lt hf ha
      exact ⟨s, t, (more_rt hf ha).2 h1, by rw [more_to hs]; exact h2, (more_acc hf r (hf.to _ _ _ _ h2)).2 h3⟩
theorem more_acc0 {has : (Nat → Int) → UInt8 → Bool} {st : Int} {ss : List Nst} (hf : Fine ss) (h0 : 0 ≤ st) (h1 : st < ss.length) : ∀ (x : List UInt8) {b : Nat}, (Acc has (more1 st ss) x ss.length b ↔ (x = [] ∧ b = ss.length) ∨ Acc has ss x st.toNat b)
  | [], b => by
    show Rt _ _ _ ↔ _ ∨ Rt _ _ _
    rw [more_rt0 hf h0 h1]; simp
  | c :: r, b => by
    constructor
    · rintro ⟨s, t, g1, g2, g3⟩
      rcases (more_rt0 hf h0 h1).1 g1 with rfl | g1
      · unfold toOf at g2; rw [more_last] at g2; simp at g2
      · have hs := g1.lt hf (by omega : st.toNat < ss.length)
        rw [more_to hs] at g2
        exact .inr ⟨s, t, g1, g2, (more_acc hf r (hf.to _ _ _ _ g2)).1 g3⟩
    · rintro (⟨h, _⟩ | ⟨s, t, g1, g2, g3⟩)
      · cases h
      · have hs := g1.lt hf (by omega : st.toNat < ss.length)
        exact ⟨s, t, (more_rt0 hf h0 h1).2 (.inr g1), by rw [more_to hs]; exact g2, (more_acc hf r (hf.to _ _ _ _ g2)).2 g3⟩
theorem rules_congr {ss ss' : List Nst} {l l' : List Nat} (h : ∀ r : Nat, (∃ s ∈ l, rlOf ss s = r) ↔ ∃ s ∈ l', rlOf ss' s = r) : rulesOf ss l = rulesOf ss' l' := by
  unfold rulesOf
  congr 1
  refine List.filter_congr fun r _ => ?_
  rw [Bool.eq_iff_iff, List.any_eq_true, List.any_eq_true]
  simp only [decide_eq_true_eq]
  exact h r
theorem Acc.lt {has : (Nat → Int) → UInt8 → Bool} {ss : List Nst} (hf : Fine ss) : ∀ (x : List UInt8) {a b : Nat}, Acc has ss x a b → a < ss.length → b < ss.length
  | [], a, b, h, ha => Rt.lt hf (show Rt ss a b from h) ha
  | c :: r, a, b, ⟨s, t, _, h2, h3⟩, _ => Acc.lt hf r h3 (hf.to _ _ _ _ h2)
theorem more_fine {st : Int} {ss : List Nst} (hf : Fine ss) (h0 : 0 ≤ st) (h1 : st < ss.length) : Fine (more1 st ss) := by
  have hl : (more1 st ss).length = ss.length + 1 := by unfold more1; simp
  refine ⟨fun s x hx => ?_, fun has b s t ht => ?_⟩
  · rw [hl]
    by_cases hs : s < ss.length
    · rw [more_fr hs] at hx; have := hf.fr s x hx; omega
    · by_cases he : s = ss.length
      · subst he
        unfold frOf at hx; rw [more_last] at hx; simp at hx; subst hx; omega
      · unfold frOf at hx; rw [List.getElem?_eq_none (by omega)] at hx; cases hx
  · rw [hl]
    by_cases hs : s < ss.length
    · rw [more_to hs] at ht; have := hf.to _ _ _ _ ht; omega
    · by_cases he : s = ss.length
      · subst he
        unfold toOf at ht; rw [more_last] at ht; simp at ht
      · unfold toOf at ht; rw [List.getElem?_eq_none (by omega)] at ht; cases ht
theorem accL_more {has : (Nat → Int) → UInt8 → Bool} {st : Int} {ss : List Nst} (h : mayN st ss = true) (x : List UInt8) : accL has (ss.length : Nat) (more1 st ss) x = accL has st ss x := by
  obtain ⟨hf, h0, h1⟩ := mayN_fine h
  have hl : (more1 st ss).length = ss.length + 1 := by unfold more1; simp
  unfold accL
  refine rules_congr fun r => ?_
  rw [Int.toNat_natCast]
  constructor
  · rintro ⟨s, hs, hr⟩
    have hs' := (mem_acc (more_fine hf h0 h1) (by omega) x s).1 hs
    rcases (more_acc0 hf h0 h1 x).1 hs' with ⟨_, rfl⟩ | g
    · unfold rlOf at hr; rw [more_last] at hr; simp at hr; try omega
    · exact ⟨s, (mem_acc hf (by omega) x s).2 g, by rw [← hr, more_rl (g.lt hf x (by omega))]⟩
  · rintro ⟨s, hs, hr⟩
    have g := (mem_acc hf (by omega) x s).1 hs
    exact ⟨s, (mem_acc (more_fine hf h0 h1) (by omega) x s).2 ((more_acc0 hf h0 h1 x).2 (.inr g)), by rw [more_rl (g.lt hf x (by omega)), hr]⟩
theorem chkN_more {st : Int} {ss : List Nst} (h : chkN st ss = 0) (hb : ss.length + frees ss ≤ 300) : chkN (ss.length : Nat) (more1 st ss) = 0 := by
  have hm : mayN st ss = true := by
    unfold chkN at h
    split at h
    · cases h
    · split at h
      · assumption
      · cases h
  have hl : (more1 st ss).length = ss.length + 1 := by unfold more1; simp
  have hfr : frees (more1 st ss) = frees ss + 1 := by unfold more1; rw [frees_app]; simp [frees]
  have ht : tooM (more1 st ss) = false := by
    unfold tooM; rw [hl, hfr]; simp; omega
  unfold chkN
  rw [ht]
  unfold mayN at hm ⊢
  simp only [Bool.and_eq_true, decide_eq_true_eq, List.all_eq_true] at hm
  obtain ⟨⟨h1, h2⟩, h3⟩ := hm
  have hall : (more1 st ss).all (stOk (more1 st ss).length) = true := by
    rw [List.all_eq_true, hl]
    intro y hy
    unfold more1 at hy
    rcases List.mem_append.1 hy with hy | hy
    · have := h3 y hy
      unfold stOk at this ⊢
      simp only [Bool.and_eq_true, decide_eq_true_eq, List.all_eq_true] at this ⊢
      exact ⟨by have := this.1; omega, this.2.1, fun x hx => ⟨(this.2.2 x hx).1, by have := (this.2.2 x hx).2; omega⟩⟩
    · simp only [List.mem_singleton] at hy
      subst hy
      unfold stOk
      simp; omega
  rw [hall, hl]
  simp
  omega
end Go.Proofs.YthglciccejholaaDoor
end
section
/- Package nfa, plain. -/
namespace Go.Proofs.YthglciccejholaaDoor
set_option linter.unusedSimpArgs false
set_option linter.unusedVariables false
set_option maxRecDepth 100000
/- NfaBig; the words of a set; the chapter's automaton. -/
def capF (m : Nat) : List Nst → Nat
  | [] => 0
  | s :: r => min s.fr.length (m + 1) + capF m r
theorem capF_app (m : Nat) : ∀ a b : List Nst, capF m (a ++ b) = capF m a + capF m b
  | [], b => by simp [capF]
  | s :: a, b => by simp only [List.cons_append, capF, capF_app m a b]; omega
theorem capF_take (m : Nat) (ss : List Nst) (j : Nat) (h : j < ss.length) : capF m (ss.take (j + 1)) = capF m (ss.take j) + min (ss[j]).fr.length (m + 1) := by
  rw [List.take_add_one, List.getElem?_eq_getElem h, capF_app]
  simp [capF]
theorem capF_take_le (m : Nat) : ∀ (ss : List Nst) (j : Nat), capF m (ss.take j) ≤ capF m ss
  | [], j => by simp [capF]
  | s :: r, 0 => by simp [capF]
  | s :: r, j + 1 => by
    have := capF_take_le m r j
    simp only [List.take_succ_cons, capF]; omega
theorem capF_frees (m : Nat) : ∀ (ss : List Nst), capF m ss ≤ m → capF m ss = frees ss
  | [], _ => rfl
  | s :: r, h => by
    simp only [capF] at h
    have h2 := capF_frees m r (by omega)
    simp only [capF, frees, h2]; omega
theorem capF_le (m : Nat) : ∀ (ss : List Nst), capF m ss ≤ frees ss
  | [] => Nat.le_refl _
  | s :: r => by have := capF_le m r; simp only [capF, frees]; omega
/-- NfaBig's answer. -/
def bigN (m : Nat) (ss : List Nst) : Bool := decide (m < ss.length + capF m ss)
theorem bigN_no {m : Nat} {ss : List Nst} (h : bigN m ss = false) : ss.length + frees ss ≤ m := by
  unfold bigN at h
  simp only [decide_eq_false_iff_not, Nat.not_lt] at h
  rw [← capF_frees m ss (by omega)]; exact h
/-- Is a byte in a set of four words? -/
def hasU (u : Nat → Int) (b : UInt8) : Bool := (u (b.toNat / 64)).toNat.testBit (b.toNat % 64)
def uA : Nat → Int := fun i => if i = 1 then 8589934592 else 0
def uZ : Nat → Int := fun _ => 0
/-- The automaton of the rules a and a*. -/
def ex6 : List Nst := [⟨uZ, -1, [], 0⟩, ⟨uA, 0, [], -1⟩, ⟨uZ, -1, [], 1⟩, ⟨uZ, -1, [2, 4], -1⟩, ⟨uA, 3, [], -1⟩, ⟨uZ, -1, [1, 3], -1⟩]
theorem ex6_ok : chkN 5 ex6 = 0 := by decide
theorem ex6_a : accL hasU 5 ex6 [97] = [0, 1] := by decide
theorem ex6_aa : accL hasU 5 ex6 [97, 97] = [1] := by decide
end Go.Proofs.YthglciccejholaaDoor
end
section
/- How many bits of a word are 1: the sum that goes by pairs, by fours, by eights. No program, no world. -/
namespace Go.Proofs.YthglciccejholaaDoor
set_option linter.unusedSimpArgs false
set_option linter.unusedVariables false
set_option maxRecDepth 100000

/-- How many of the first n numbers are in f. -/
def cntF (f : Nat → Bool) : Nat → Nat
  | 0 => 0
  | n + 1 => cntF f n + (f n).toNat
theorem cnt_add (f : Nat → Bool) (a : Nat) : ∀ b, cntF f (a + b) = cntF f a + cntF (fun k => f (a + k)) b
  | 0 => rfl
  | b + 1 => by
    show cntF f (a + b) + (f (a + b)).toNat = _
    rw [cnt_add f a b]; simp only [cntF]; omega
theorem cnt_congr {f g : Nat → Bool} : ∀ {n : Nat}, (∀ k, k < n → f k = g k) → cntF f n = cntF g n
  | 0, _ => rfl
  | n + 1, h => by
    simp only [cntF]
    rw [cnt_congr (n := n) (fun k hk => h k (by omega)), h n (by omega)]
theorem cnt_le (f : Nat → Bool) : ∀ n, cntF f n ≤ n
  | 0 => Nat.le_refl _
  | n + 1 => by
    have := cnt_le f n
    have h : (f n).toNat ≤ 1 := by cases f n <;> decide
    simp only [cntF]; omega
theorem cnt_or_and (f g : Nat → Bool) : ∀ n, cntF (fun k => f k || g k) n + cntF (fun k => f k && g k) n = cntF f n + cntF g n
  | 0 => rfl
  | n + 1 => by
    have := cnt_or_and f g n
    simp only [cntF]
    cases f n <;> cases g n <;> simp <;> omega
theorem cnt_not (f : Nat → Bool) : ∀ n, cntF f n + cntF (fun k => !f k) n = n
  | 0 => rfl
  | n + 1 => by
    have := cnt_not f n
    simp only [cntF]
    cases f n <;> simp <;> omega

def V : List Nat → Nat
  | [] => 0
  | p :: r => p + 256 * V r
def bytesN : Nat → Nat → List Nat
  | 0, _ => []
  | n + 1, x => x % 256 :: bytesN n (x / 256)
theorem V_bytes : ∀ (n x : Nat), x < 256 ^ n → V (bytesN n x) = x
  | 0, x, h => by simp at h; subst h; rfl
  | n + 1, x, h => by
    simp only [bytesN, V]
    rw [V_bytes n (x / 256) (by rw [Nat.pow_succ] at h; omega)]; omega
theorem bytes_lt : ∀ (n x : Nat), ∀ p ∈ bytesN n x, p < 256
  | 0, x => by simp [bytesN]
  | n + 1, x => by
    intro p hp
    rcases List.mem_cons.1 hp with rfl | hp
    · omega
    · exact bytes_lt n _ p hp
theorem bytes_len : ∀ (n x : Nat), (bytesN n x).length = n
  | 0, x => rfl
  | n + 1, x => by simp [bytesN, bytes_len n]

theorem and_split (u c v d : Nat) (hu : u < 256) (hc : c < 256) : (u + 256 * v) &&& (c + 256 * d) = (u &&& c) + 256 * (v &&& d) := by
  have h1 : ((u + 256 * v) &&& (c + 256 * d)) % 2 ^ 8 = ((u &&& c) + 256 * (v &&& d)) % 2 ^ 8 := by
    rw [Nat.and_mod_two_pow]
    have e1 : (u + 256 * v) % 2 ^ 8 = u := by omega
    have e2 : (c + 256 * d) % 2 ^ 8 = c := by omega
    have e3 : (u &&& c) < 2 ^ 8 := Nat.and_lt_two_pow _ (by omega)
    rw [e1, e2]; omega
  have h2 : ((u + 256 * v) &&& (c + 256 * d)) / 2 ^ 8 = ((u &&& c) + 256 * (v &&& d)) / 2 ^ 8 := by
    rw [Nat.and_div_two_pow]
    have e1 : (u + 256 * v) / 2 ^ 8 = v := by omega
    have e2 : (c + 256 * d) / 2 ^ 8 = d := by omega
    have e3 : (u &&& c) < 2 ^ 8 := Nat.and_lt_two_pow _ (by omega)
    rw [e1, e2]; omega
  have a1 := Nat.div_add_mod ((u + 256 * v) &&& (c + 256 * d)) (2 ^ 8)
  have a2 := Nat.div_add_mod ((u &&& c) + 256 * (v &&& d)) (2 ^ 8)
  rw [h1, h2] at a1
  rw [← a1, a2]

theorem V_add {f g : Nat → Nat} : ∀ l : List Nat, V (l.map f) + V (l.map g) = V (l.map fun p => f p + g p)
  | [] => rfl
  | p :: r => by
    have := V_add (f := f) (g := g) r
    simp only [List.map_cons, V]; omega
theorem V_and (m : Nat) (hm : m < 256) : ∀ l : List Nat, (∀ p ∈ l, p < 256) → V l &&& V (List.replicate l.length m) = V (l.map fun p => p &&& m)
  | [], _ => by simp [V]
  | p :: r, h => by
    have ih := V_and m hm r (fun q hq => h q (List.mem_cons_of_mem _ hq))
    simp only [List.length_cons, List.replicate_succ, V, List.map_cons]
    rw [and_split _ _ _ _ (h p (List.mem_cons_self ..)) hm, ih]

theorem low1 : ∀ p : Fin 256, ∀ z : Fin 2, (p.val / 2 + 128 * z.val) &&& 85 = p.val / 2 &&& 85 := by decide +kernel
theorem low2 : ∀ p : Fin 256, ∀ z : Fin 4, (p.val / 4 + 64 * z.val) &&& 51 = p.val / 4 &&& 51 := by decide +kernel
theorem low3 : ∀ p : Fin 69, ∀ z : Fin 5, (p.val / 16 + 16 * z.val + p.val) &&& 15 = (p.val / 16 + p.val) &&& 15 := by decide +kernel

theorem V_half : ∀ l : List Nat, (∀ p ∈ l, p < 256) → V l / 2 &&& V (List.replicate l.length 85) = V (l.map fun p => p / 2 &&& 85)
  | [], _ => by simp [V]
  | p :: r, h => by
    have ih := V_half r (fun q hq => h q (List.mem_cons_of_mem _ hq))
    have hp := h p (List.mem_cons_self ..)
    simp only [List.length_cons, List.replicate_succ, V, List.map_cons]
    have e : (p + 256 * V r) / 2 = (p / 2 + 128 * (V r % 2)) + 256 * (V r / 2) := by omega
    have := low1 ⟨p, hp⟩ ⟨V r % 2, by omega⟩
    rw [e, and_split _ _ _ _ (by omega) (by omega), ih]
    exact congrArg (· + _) this
theorem V_quart : ∀ l : List Nat, (∀ p ∈ l, p < 256) → V l / 4 &&& V (List.replicate l.length 51) = V (l.map fun p => p / 4 &&& 51)
  | [], _ => by simp [V]
  | p :: r, h => by
    have ih := V_quart r (fun q hq => h q (List.mem_cons_of_mem _ hq))
    have hp := h p (List.mem_cons_self ..)
    simp only [List.length_cons, List.replicate_succ, V, List.map_cons]
    have e : (p + 256 * V r) / 4 = (p / 4 + 64 * (V r % 4)) + 256 * (V r / 4) := by omega
    have := low2 ⟨p, hp⟩ ⟨V r % 4, by omega⟩
    rw [e, and_split _ _ _ _ (by omega) (by omega), ih]
    exact congrArg (· + _) this
theorem V_mod16 : ∀ l : List Nat, (∀ p ∈ l, p ≤ 68 ∧ p % 16 ≤ 4) → V l % 16 ≤ 4
  | [], _ => by simp [V]
  | p :: r, h => by
    have := (h p (List.mem_cons_self ..)).2
    simp only [V]; omega
theorem V_sixt : ∀ l : List Nat, (∀ p ∈ l, p ≤ 68 ∧ p % 16 ≤ 4) → (V l / 16 + V l) &&& V (List.replicate l.length 15) = V (l.map fun p => (p / 16 + p) &&& 15)
  | [], _ => by simp [V]
  | p :: r, h => by
    have hr := fun q hq => h q (List.mem_cons_of_mem _ hq)
    have ih := V_sixt r hr
    have hm := V_mod16 r hr
    have hp := (h p (List.mem_cons_self ..)).1
    simp only [List.length_cons, List.replicate_succ, V, List.map_cons]
    have e : (p + 256 * V r) / 16 + (p + 256 * V r) = (p / 16 + 16 * (V r % 16) + p) + 256 * (V r / 16 + V r) := by omega
    have := low3 ⟨p, by omega⟩ ⟨V r % 16, by omega⟩
    rw [e, and_split _ _ _ _ (by omega) (by omega), ih]
    exact congrArg (· + _) this

def s1 (p : Nat) : Nat := (p / 2 &&& 85) + (p &&& 85)
def s2 (p : Nat) : Nat := (p / 4 &&& 51) + (p &&& 51)
def s3 (p : Nat) : Nat := (p / 16 + p) &&& 15
theorem s1_lt : ∀ p : Fin 256, s1 p.val < 256 := by decide +kernel
theorem s2_le : ∀ p : Fin 256, s2 (s1 p.val) ≤ 68 ∧ s2 (s1 p.val) % 16 ≤ 4 := by decide +kernel
theorem s3_is : ∀ p : Fin 256, s3 (s2 (s1 p.val)) = cntF (Nat.testBit p.val) 8 := by decide +kernel

def o1 (x : Nat) : Nat := (x / 2 &&& 6148914691236517205) + (x &&& 6148914691236517205)
def o2 (x : Nat) : Nat := (x / 4 &&& 3689348814741910323) + (x &&& 3689348814741910323)
def o3 (x : Nat) : Nat := (x / 16 + x) &&& 1085102592571150095

theorem o1_V (l : List Nat) (hl : l.length = 8) (h : ∀ p ∈ l, p < 256) : o1 (V l) = V (l.map s1) := by
  have a := V_half l h
  have b := V_and 85 (by omega) l h
  rw [hl] at a b
  have m : V (List.replicate 8 85) = 6148914691236517205 := by decide
  rw [m] at a b
  unfold o1
  rw [a, b, V_add]; rfl
theorem o2_V (l : List Nat) (hl : l.length = 8) (h : ∀ p ∈ l, p < 256) : o2 (V l) = V (l.map s2) := by
  have a := V_quart l h
  have b := V_and 51 (by omega) l h
  rw [hl] at a b
  have m : V (List.replicate 8 51) = 3689348814741910323 := by decide
  rw [m] at a b
  unfold o2
  rw [a, b, V_add]; rfl
theorem o3_V (l : List Nat) (hl : l.length = 8) (h : ∀ p ∈ l, p ≤ 68 ∧ p % 16 ≤ 4) : o3 (V l) = V (l.map s3) := by
  have a := V_sixt l h
  rw [hl] at a
  have m : V (List.replicate 8 15) = 1085102592571150095 := by decide
  rw [m] at a
  unfold o3
  rw [a]; rfl

theorem test_div (x k : Nat) : Nat.testBit (x / 256) k = Nat.testBit x (8 + k) := by
  rw [show (256 : Nat) = 2 ^ 8 from rfl, Nat.testBit_div_two_pow, Nat.add_comm]
theorem test_mod (x k : Nat) (h : k < 8) : Nat.testBit (x % 256) k = Nat.testBit x k := by
  rw [show (256 : Nat) = 2 ^ 8 from rfl, Nat.testBit_mod_two_pow]; simp [h]
def sumL : List Nat → Nat
  | [] => 0
  | p :: r => p + sumL r
theorem sum_bytes : ∀ (n x : Nat), sumL ((bytesN n x).map fun p => cntF (Nat.testBit p) 8) = cntF (Nat.testBit x) (8 * n)
  | 0, x => rfl
  | n + 1, x => by
    simp only [bytesN, List.map_cons, sumL]
    rw [sum_bytes n (x / 256), show 8 * (n + 1) = 8 + 8 * n by omega, cnt_add]
    rw [cnt_congr (f := Nat.testBit (x % 256)) (g := Nat.testBit x) (fun k hk => test_mod x k hk)]
    rw [cnt_congr (f := Nat.testBit (x / 256)) (g := fun k => Nat.testBit x (8 + k)) (fun k _ => test_div x k)]

def onesN (x : Nat) : Nat :=
  let z := o3 (o2 (o1 x))
  let a := z + z / 256
  let b := a + a / 65536
  (b + b / 4294967296) % 128

/-- What the three steps leave: eight bytes, each how many bits of its byte were 1. -/
theorem ones_V (x : Nat) (h : x < 18446744073709551616) : ∃ a b c d e f g i : Nat, (a ≤ 8 ∧ b ≤ 8 ∧ c ≤ 8 ∧ d ≤ 8 ∧ e ≤ 8 ∧ f ≤ 8 ∧ g ≤ 8 ∧ i ≤ 8) ∧ o3 (o2 (o1 x)) = V [a, b, c, d, e, f, g, i] ∧ a + b + c + d + e + f + g + i = cntF (Nat.testBit x) 64 := by
  have hb := bytes_lt 8 x
  have hl := bytes_len 8 x
  have hv := V_bytes 8 x (by simpa using h)
  have e1 := o1_V _ hl hb
  have b1 : ∀ p ∈ (bytesN 8 x).map s1, p < 256 := by
    intro p hp
    obtain ⟨q, hq, rfl⟩ := List.mem_map.1 hp
    exact s1_lt ⟨q, hb q hq⟩
  have e2 := o2_V _ (by simpa using hl) b1
  have b2 : ∀ p ∈ ((bytesN 8 x).map s1).map s2, p ≤ 68 ∧ p % 16 ≤ 4 := by
    intro p hp
    obtain ⟨q', hq', rfl⟩ := List.mem_map.1 hp
    obtain ⟨q, hq, rfl⟩ := List.mem_map.1 hq'
    exact s2_le ⟨q, hb q hq⟩
  have e3 := o3_V _ (by simpa using hl) b2
  have e4 : (((bytesN 8 x).map s1).map s2).map s3 = (bytesN 8 x).map fun p => cntF (Nat.testBit p) 8 := by
    rw [List.map_map, List.map_map]
    apply List.map_congr_left
    intro p hp
    exact s3_is ⟨p, hb p hp⟩
  have hs := sum_bytes 8 x
  rw [hv] at e1
  rw [e1, e2, e3, e4]
  simp only [bytesN, List.map_cons, List.map_nil, sumL] at hs ⊢
  exact ⟨_, _, _, _, _, _, _, _, ⟨cnt_le _ _, cnt_le _ _, cnt_le _ _, cnt_le _ _, cnt_le _ _, cnt_le _ _, cnt_le _ _, cnt_le _ _⟩, rfl, by rw [← hs]; omega⟩

theorem div_V (p : Nat) (r : List Nat) (h : p < 256) : V (p :: r) / 256 = V r := by simp only [V]; omega
theorem div2_V (p q : Nat) (r : List Nat) (h : p < 256) (h' : q < 256) : V (p :: q :: r) / 65536 = V r := by simp only [V]; omega
theorem div4_V (p q s t : Nat) (r : List Nat) (h : p < 256) (h' : q < 256) (h2 : s < 256) (h3 : t < 256) : V (p :: q :: s :: t :: r) / 4294967296 = V r := by simp only [V]; omega

theorem V_cc {p q : Nat} {r s t : List Nat} (h : V r + V s = V t) : V (p :: r) + V (q :: s) = V ((p + q) :: t) := by simp only [V]; omega
theorem V_cn (r : List Nat) : V r + V [] = V r := rfl
theorem V_lt (m : Nat) : ∀ (l : List Nat), (∀ p ∈ l, p ≤ 255) → V l < 256 ^ l.length
  | [], _ => by simp [V]
  | p :: r, h => by
    have := V_lt m r (fun q hq => h q (List.mem_cons_of_mem _ hq))
    have hp := h p (List.mem_cons_self ..)
    simp only [V, List.length_cons, Nat.pow_succ]; omega

theorem V8 (a b c d e f g i : Nat) (ha : a ≤ 8) (hb : b ≤ 8) (hc : c ≤ 8) (hd : d ≤ 8) (he : e ≤ 8) (hf : f ≤ 8) (hg : g ≤ 8) (hi : i ≤ 8) : V [a, b, c, d, e, f, g, i] < 1152921504606846976 := by
  have := V_lt 0 [b, c, d, e, f, g] (by simp; omega)
  simp only [V] at this ⊢
  simp at this
  omega
theorem V_head (p : Nat) (r : List Nat) (h : p < 128) : V (p :: r) % 128 = p := by simp only [V]; omega

theorem ones_all (x : Nat) (h : x < 18446744073709551616) : ∃ z a b t : Nat, o3 (o2 (o1 x)) = z ∧ z + z / 256 = a ∧ a + a / 65536 = b ∧ b + b / 4294967296 = t ∧ z < 1152921504606846976 ∧ t % 128 = cntF (Nat.testBit x) 64 := by
  obtain ⟨a, b, c, d, e, f, g, i, ⟨ha, hb, hc, hd, he, hf, hg, hi⟩, hV, hs⟩ := ones_V x h
  have h1 : V [a, b, c, d, e, f, g, i] / 256 = V [b, c, d, e, f, g, i] := div_V _ _ (by omega)
  have e1 : V [a, b, c, d, e, f, g, i] + V [b, c, d, e, f, g, i] = V [a + b, b + c, c + d, d + e, e + f, f + g, g + i, i] := V_cc (V_cc (V_cc (V_cc (V_cc (V_cc (V_cc (V_cn _)))))))
  have h2 : V [a + b, b + c, c + d, d + e, e + f, f + g, g + i, i] / 65536 = V [c + d, d + e, e + f, f + g, g + i, i] := div2_V _ _ _ (by omega) (by omega)
  have e2 : V [a + b, b + c, c + d, d + e, e + f, f + g, g + i, i] + V [c + d, d + e, e + f, f + g, g + i, i] = V [a + b + (c + d), b + c + (d + e), c + d + (e + f), d + e + (f + g), e + f + (g + i), f + g + i, g + i, i] := V_cc (V_cc (V_cc (V_cc (V_cc (V_cc (V_cn _))))))
  have h3 : V [a + b + (c + d), b + c + (d + e), c + d + (e + f), d + e + (f + g), e + f + (g + i), f + g + i, g + i, i] / 4294967296 = V [e + f + (g + i), f + g + i, g + i, i] := div4_V _ _ _ _ _ (by omega) (by omega) (by omega) (by omega)
  have e3 : V [a + b + (c + d), b + c + (d + e), c + d + (e + f), d + e + (f + g), e + f + (g + i), f + g + i, g + i, i] + V [e + f + (g + i), f + g + i, g + i, i] = V [a + b + (c + d) + (e + f + (g + i)), b + c + (d + e) + (f + g + i), c + d + (e + f) + (g + i), d + e + (f + g) + i, e + f + (g + i), f + g + i, g + i, i] := V_cc (V_cc (V_cc (V_cc (V_cn _))))
  refine ⟨_, _, _, _, hV, (by rw [h1, e1]), (by rw [h2, e2]), (by rw [h3, e3]), V8 _ _ _ _ _ _ _ _ ha hb hc hd he hf hg hi, ?_⟩
  rw [V_head _ _ (by omega), ← hs]; omega
end Go.Proofs.YthglciccejholaaDoor
end
