/- Texts of package regs, one behind the other. -/
import Derived.Test.YthglciccejholaaDoorProg
import Derived.Test.YthglciccejholaaDoorY2
import Derived.WalkKit
import Derived.WalkLawsBesides
import Derived.WalkSpells
import Derived.Outline
import Derived.Lib.Walk
import Derived.Lib.Hide
import Derived.Lib.Slices
import Derived.Lib.Strings
import Derived.RegionTactic
import Derived.LoopTactic
import Derived.Below
import Derived.IntWalk
import Derived.Deep.QuietTactic
import Derived.BigQuiet
import Derived.Deep.MidRow
import Derived.Maps.AppendAt
import Derived.Laws.Rows
import Derived.Laws.Tables
import Derived.Deep.WholeRow
import Derived.Deep.Cut
import Derived.Deep.CutRange
import Derived.Test.YthglciccejholaaDoorY1
import Derived.Laws.AppendOwn
import Derived.Laws.OwnMore
section
/- Package nfa. -/
namespace Go.Proofs.YthglciccejholaaDoor
set_option linter.unusedSimpArgs false
set_option linter.unusedVariables false
set_option maxRecDepth 100000
open Go.RowKit
/- goFree. -/
/-- What may be led through: each way leads to a state. -/
def InB (ss : List Nst) : Prop := ∀ s x, x ∈ frOf ss s → 0 ≤ x ∧ x < ss.length
theorem frOf_get {ss : List Nst} {s : Nat} (h : s < ss.length) : frOf ss s = ss[s].fr := by
  unfold frOf; rw [List.getElem?_eq_getElem h]
theorem SV.up {B : Nat} {w0 y : World} {ss : List Nst} {stp : Value} (h : SV (fun b => b < B) w0 ss stp) (hb : Below B w0 y) : SV (fun b => b < B) y ss stp := h.mono (fun b hb => hb) (fun b hB _ => hb.block b hB)
theorem FR.reb {B : Nat} {w0 y : World} {F A n : Nat} {stp sl : Value} {la l : List Nat} (h : FR B w0 y F A stp n la l sl) (hn : l ≠ []) : ∃ g cap cs, sl = .slice (some ⟨g, 0, none⟩) l.length cap ∧ own1 B g cap l cs y := own1_of h.row hn
set_option maxHeartbeats 8000000 in
theorem goFree_any {B : Nat} {w0 y : World} {F A n : Nat} {stp sl : Value} {ss : List Nst} {l0 : List Nat} (h : FR B w0 y F A stp n l0 l0 sl) (hn : n ≤ 4096) (hss : ss.length = n) (hSV : SV (fun b => b < B) w0 ss stp) (hfr : InB ss) (hfl : ∀ s ∈ ss, s.fr.length ≤ 9223372036854775806) (hnd : l0.Nodup) (hl0 : ∀ s ∈ l0, s < n) :
    Calls Tryd.prog 45 #[.pointer (some ⟨F, 0, none⟩)] y fun e y' => e = .returned (.tuple #[]) ∧ ∃ sl', FR B w0 y' F A stp n (goF ss (n + 1) 0 l0) (goF ss (n + 1) 0 l0) sl' := by
  obtain ⟨R, hR⟩ : ∃ R, goF ss (n + 1) 0 l0 = R := ⟨_, rfl⟩
  rw [hR]
  have HR := Lib.hid hR
  have HN := Lib.hid hnd
  have HL := Lib.hid hl0
  have H := Lib.hid h
  have HSV := Lib.hid hSV
  have HFR := Lib.hid hfr
  have HFL := Lib.hid hfl
  have HSS := Lib.hid hss
  clear hR hnd hl0 h hSV hfr hfl hss
  go_enter Tryd.func45, Tryd.ntmps45
  go_wp2_with fail
  go_loopw [2] (fun i wr => ∃ (k j : Nat) (l : List Nat) (sl : Value), i = .int .i64 (j : Nat) ∧ Hid (goF ss k j l = R) ∧ n < j + k ∧ Hid (FR B w0 wr F A stp n l l sl) ∧ Hid l.Nodup ∧ Hid (∀ s ∈ l, s < n) ∧ j ≤ l.length) (fun i _ => n + 1 - (intOf i).toNat)
  case atStart => exact ⟨n + 1, 0, l0, sl, rfl, HR, by omega, H, HN, HL, by omega⟩
  case round =>
    clear HR H HN HL
    obtain ⟨k, j, l, sl, rfl, HR, hk, H, HN, HL, hj⟩ := hrel
    obtain ⟨wo, rfl⟩ : ∃ wo : World, wo = wr := ⟨_, rfl⟩
    have hln : l.length ≤ n := nd_len HN.out HL.out
    obtain ⟨k, rfl⟩ : ∃ k', k = k' + 1 := ⟨k - 1, by omega⟩
    by_cases hlt : j < l.length
    · have hne : l ≠ [] := by intro e; subst e; simp at hlt
      obtain ⟨g, cap, cs, hsl, hown⟩ := H.out.reb hne
      subst hsl
      obtain ⟨s, hs⟩ : ∃ s, l[j] = s := ⟨_, rfl⟩
      have hsn : s < n := HL.out s (hs ▸ List.getElem_mem hlt)
      have hsn' : s < ss.length := by rw [HSS.out]; exact hsn
      have hgo : goF ss k (j + 1) (rchAll l ss[s].fr) = R := by
        rw [← HR.out, goF, List.getElem?_eq_getElem hlt, hs]
        simp only
        rw [frOf_get hsn']
      obtain ⟨q, c, hstp, hSV⟩ := HSV.out
      obtain ⟨b, o, rfl, hDb, hx⟩ := hSV (by intro e; rw [e] at hsn'; simp at hsn')
      obtain ⟨qf, f, hiv, hcell⟩ := hx s hsn'
      rw [HSS.out] at hstp
      have c0 : wo.cell? ⟨F, 0, none⟩ = some (.slice (some ⟨b, o, none⟩) n c) := by rw [← hstp]; exact cell_of_row wo F 0 _ 84 (0, 0) H.out.f
      have c1 : wo.cell? ⟨F, 1, none⟩ = some (.slice (some ⟨g, 0, none⟩) l.length cap) := cell_of_row wo F 1 _ 84 (0, 0) H.out.f
      have cg : wo.cell? ⟨g, j, none⟩ = some (.int .i64 (s : Nat)) := by rw [cell_of_row wo g j _ 3 (0, 0) hown.2.1, hown.2.2.2.2.2 j hlt, hs]
      have cf : wo.cell? ⟨b, o + s * 7 + 5, none⟩ = some (.slice qf (ss[s]).fr.length f) := (cell_same (H.out.bel.block b hDb) _).trans (hcell 5 _ rfl)
      have hfs : ∀ x ∈ (ss[s]).fr, 0 ≤ x ∧ x < n := fun x hx => by have := HFR.out s x (by rw [frOf_get hsn']; exact hx); rw [HSS.out] at this; exact this
      have hfl := HFL.out ss[s] (List.getElem_mem hsn')
      generalize (ss[s]).fr = fr at *
      have HIV : Hid (IV (fun b => b < B) w0 fr (.slice qf fr.length f)) := Lib.hid hiv
      have HGO := Lib.hid hgo
      have HFS := Lib.hid hfs
      have hltI : (j : Int) < (l.length : Int) := by omega
      have hjI : ¬ (j : Int) < 0 := by omega
      have hsI : ¬ (s : Int) < 0 := by omega
      have hsI2 : (s : Int) < (n : Int) := by omega
      clear hiv hgo hfs hcell hx hSV hstp hown hs HR hne
      go_wp2_with fail
      go_quiet (fail)
      refine at_worldQ (fun z => FR B w0 z F A stp n l l (.slice (some ⟨g, 0, none⟩) l.length cap)) ⟨below_drewN H.out.bel _, H.out.f, H.out.a, H.out.row, H.out.hF, H.out.hA, H.out.fa, H.out.sF, H.out.sA, H.out.sz⟩ fun z hz => ?_
      have H2 := Lib.hid hz
      clear hz H c0 c1 cg cf
      go_wp2_with fail
      go_loopw [29] (fun i wr => ∃ (j2 : Nat) (l2 : List Nat) (sl2 : Value), i = .int .i64 (j2 : Nat) ∧ j2 ≤ fr.length ∧ Hid (rchAll l2 (fr.drop j2) = rchAll l fr) ∧ Hid (FR B w0 wr F A stp n l2 l2 sl2) ∧ Hid l2.Nodup ∧ Hid (∀ s ∈ l2, s < n) ∧ l.length ≤ l2.length) (fun i _ => fr.length - (intOf i).toNat)
      case atStart => exact ⟨0, l, _, rfl, by omega, Lib.hid (by simp), H2, HN, HL, Nat.le_refl _⟩
      case round =>
        clear H2 HN HL
        obtain ⟨j2, l2, sl2, rfl, hj2, HRA, H, HN, HL, hll⟩ := hrel
        obtain ⟨wo, rfl⟩ : ∃ wo : World, wo = wr := ⟨_, rfl⟩
        have hln2 : l2.length ≤ n := nd_len HN.out HL.out
        by_cases hlt2 : j2 < fr.length
        · obtain ⟨x, hx⟩ : ∃ x, fr[j2] = x := ⟨_, rfl⟩
          have hx1 := HFS.out x (hx ▸ List.getElem_mem hlt2)
          obtain ⟨m, hm⟩ : ∃ m : Nat, x = (m : Int) := ⟨x.toNat, by omega⟩
          have hmn : m < n := by omega
          have hra : rchAll (rch l2 m) (fr.drop (j2 + 1)) = rchAll l fr := by
            rw [← HRA.out, List.drop_eq_getElem_cons hlt2, rchAll, hx, hm, Int.toNat_natCast]
          obtain ⟨p', c', he, hh⟩ := HIV.out
          cases he
          obtain ⟨bf, of, rfl, hbf, hcf⟩ := hh (by intro e; rw [e] at hlt2; simp at hlt2)
          have cx : wo.cell? ⟨bf, of + j2, none⟩ = some (.int .i64 (m : Nat)) := (cell_same (H.out.bel.block bf hbf) _).trans (by rw [hcf j2 hlt2, hx, hm])
          have hjI2 : ¬ (j2 : Int) < 0 := by omega
          have hltI2 : (j2 : Int) < (fr.length : Int) := by omega
          have HC := Lib.hid (reach_any H.out hmn hn (by omega))
          have HNR := Lib.hid (rch_nd HN.out m)
          have HLR : Hid (∀ s ∈ rch l2 m, s < n) := Lib.hid fun s hs => by
            rcases mem_rch.1 hs with h | rfl
            · exact HL.out s h
            · exact hmn
          have hlr : l.length ≤ (rch l2 m).length := by
            obtain ⟨mm, hmm⟩ := rch_pre l2 m
            rw [hmm, List.length_append]; omega
          have HRA2 := Lib.hid hra
          clear hra hcf hh hx hx1 hm H HN HL HRA
          go_wp2_with fail
          refine HC.out.mono ?_
          rintro _ w5 ⟨rfl, sl5, h5⟩
          have H5 := Lib.hid h5
          clear h5 cx HC
          go_wp2_with fail
          go_roundw
          case rel => exact ⟨j2 + 1, rch l2 m, sl5, by go_num, by omega, HRA2, H5, HNR, HLR, hlr⟩
          case measure => simp [intOf]; omega
        · obtain rfl : j2 = fr.length := by omega
          have hr : l2 = rchAll l fr := by rw [← HRA.out, List.drop_length, rchAll]
          have hgo2 := HGO.out
          rw [← hr] at hgo2
          have HGO2 := Lib.hid hgo2
          have hltI2 : ¬ (fr.length : Int) < (fr.length : Int) := by omega
          clear hr hgo2 HGO HRA
          go_wp2_with fail
          go_roundw
          case rel => exact ⟨k, j + 1, l2, sl2, by go_num, HGO2, by omega, H, HN, HL, by omega⟩
          case measure => simp [intOf]; omega
    · obtain rfl : j = l.length := by omega
      have hr : l = R := by rw [← HR.out, goF, List.getElem?_eq_none (Nat.le_refl _)]
      subst hr
      obtain ⟨p, c, rfl⟩ := row_form H.out.row
      have c1 : wo.cell? ⟨F, 1, none⟩ = some (.slice p l.length c) := cell_of_row wo F 1 _ 84 (0, 0) H.out.f
      have hltI : ¬ (l.length : Int) < (l.length : Int) := by omega
      go_wp2_with fail
      go_end0
      exact ⟨rfl, _, H.out⟩
end Go.Proofs.YthglciccejholaaDoor
end
section
/- Package nfa, plain. -/
namespace Go.Proofs.YthglciccejholaaDoor
set_option linter.unusedSimpArgs false
set_option linter.unusedVariables false
set_option maxRecDepth 100000
/- One state more, from which a free way leads to the start. -/
def more1 (st : Int) (ss : List Nst) : List Nst := ss ++ [⟨fun _ => 0, -1, [st], -1⟩]
theorem more_lt {st : Int} {ss : List Nst} {s : Nat} (h : s < ss.length) : (more1 st ss)[s]? = ss[s]? := by
  unfold more1; rw [List.getElem?_append_left h]
theorem more_last {st : Int} {ss : List Nst} : (more1 st ss)[ss.length]? = some ⟨fun _ => 0, -1, [st], -1⟩ := by
  unfold more1; simp
theorem more_fr {st : Int} {ss : List Nst} {s : Nat} (h : s < ss.length) : frOf (more1 st ss) s = frOf ss s := by unfold frOf; rw [more_lt h]
theorem more_to {st : Int} {ss : List Nst} {s : Nat} (h : s < ss.length) (has : (Nat → Int) → UInt8 → Bool) (c : UInt8) : toOf has (more1 st ss) c s = toOf has ss c s := by unfold toOf; rw [more_lt h]
theorem more_rl {st : Int} {ss : List Nst} {s : Nat} (h : s < ss.length) : rlOf (more1 st ss) s = rlOf ss s := by unfold rlOf; rw [more_lt h]
theorem more_rt {st : Int} {ss : List Nst} (hf : Fine ss) {a b : Nat} (ha : a < ss.length) : Rt (more1 st ss) a b ↔ Rt ss a b := by
  constructor
  · intro h
    have : Rt ss a b ∧ b < ss.length := by
      induction h with
      | refl => exact ⟨.refl _, ha⟩
      | step _ x hx hc ih =>
        rw [more_fr ih.2] at hx
        have h2 := Rt.step ih.1 x hx hc
        exact ⟨h2, h2.lt hf ha⟩
    exact this.1
  · intro h
    have : Rt (more1 st ss) a b ∧ b < ss.length := by
      induction h with
      | refl => exact ⟨.refl _, ha⟩
      | step h' x hx hc ih =>
        have h2 := (Rt.step h' x hx hc).lt hf ha
        exact ⟨.step ih.1 x (by rw [more_fr ih.2]; exact hx) hc, h2⟩
    exact this.1
theorem Rt.first {ss : List Nst} {a b : Nat} (h : Rt ss a b) : b = a ∨ ∃ x ∈ frOf ss a, Rt ss x.toNat b := by
  induction h with
  | refl => exact .inl rfl
  | step h' x hx hc ih =>
    rcases ih with rfl | ⟨y, hy, hr⟩
    · exact .inr ⟨x, hx, hc ▸ .refl _⟩
    · exact .inr ⟨y, hy, .step hr x hx hc⟩
theorem more_rt0 {st : Int} {ss : List Nst} (hf : Fine ss) (h0 : 0 ≤ st) (h1 : st < ss.length) {b : Nat} : Rt (more1 st ss) ss.length b ↔ b = ss.length ∨ Rt ss st.toNat b := by
  have hfr : frOf (more1 st ss) ss.length = [st] := by unfold frOf; rw [more_last]
  constructor
  · intro h
    rcases h.first with rfl | ⟨x, hx, hr⟩
    · exact .inl rfl
    · rw [hfr] at hx
      simp only [List.mem_singleton] at hx
      subst hx
      exact .inr ((more_rt hf (by omega)).1 hr)
  · rintro (rfl | h)
    · exact .refl _
    · exact Rt.trans (.step (.refl _) st (by rw [hfr]; simp) rfl) ((more_rt hf (by omega)).2 h)
theorem more_acc {has : (Nat → Int) → UInt8 → Bool} {st : Int} {ss : List Nst} (hf : Fine ss) : ∀ (x : List UInt8) {a b : Nat}, a < ss.length → (Acc has (more1 st ss) x a b ↔ Acc has ss x a b)
  | [], a, b, ha => more_rt hf ha
  | c :: r, a, b, ha => by
    constructor
    · rintro ⟨s, t, h1, h2, h3⟩
      have h1' := (more_rt hf ha).1 h1
      have hs := h1'.lt hf ha
      rw [more_to hs] at h2
      exact ⟨s, t, h1', h2, (more_acc hf r (hf.to _ _ _ _ h2)).1 h3⟩
    · rintro ⟨s, t, h1, h2, h3⟩
      have hs := h1.lt hf ha
      exact ⟨s, t, (more_rt hf ha).2 h1, by rw [more_to hs]; exact h2, (more_acc hf r (hf.to _ _ _ _ h2)).2 h3⟩
theorem more_acc0 {has : (Nat → Int) → UInt8 → Bool} {st : Int} {ss : List Nst} (hf : Fine ss) (h0 : 0 ≤ st) (h1 : st < ss.length) : ∀ (x : List UInt8) {b : Nat}, (Acc has (more1 st ss) x ss.length b ↔ (x = [] ∧ b = ss.length) ∨ Acc has ss x st.toNat b)
  | [], b => by
    show Rt _ _ _ ↔ _ ∨ Rt _ _ _
    rw [more_rt0 hf h0 h1]; simp
  | c :: r, b => by
    constructor
    · rintro ⟨s, t, g1, g2, g3⟩
      rcases (more_rt0 hf h0 h1).1 g1 with rfl | g1
      · unfold toOf at g2; rw [more_last] at g2; simp at g2
      · have hs := g1.lt hf (by omega : st.toNat < ss.length)
        rw [more_to hs] at g2
        exact .inr ⟨s, t, g1, g2, (more_acc hf r (hf.to _ _ _ _ g2)).1 g3⟩
    · rintro (⟨h, _⟩ | ⟨s, t, g1, g2, g3⟩)
      · cases h
      · have hs := g1.lt hf (by omega : st.toNat < ss.length)
        exact ⟨s, t, (more_rt0 hf h0 h1).2 (.inr g1), by rw [more_to hs]; exact g2, (more_acc hf r (hf.to _ _ _ _ g2)).2 g3⟩
theorem rules_congr {ss ss' : List Nst} {l l' : List Nat} (h : ∀ r : Nat, (∃ s ∈ l, rlOf ss s = r) ↔ ∃ s ∈ l', rlOf ss' s = r) : rulesOf ss l = rulesOf ss' l' := by
  unfold rulesOf
  congr 1
  refine List.filter_congr fun r _ => ?_
  rw [Bool.eq_iff_iff, List.any_eq_true, List.any_eq_true]
  simp only [decide_eq_true_eq]
  exact h r
theorem Acc.lt {has : (Nat → Int) → UInt8 → Bool} {ss : List Nst} (hf : Fine ss) : ∀ (x : List UInt8) {a b : Nat}, Acc has ss x a b → a < ss.length → b < ss.length
  | [], a, b, h, ha => Rt.lt hf (show Rt ss a b from h) ha
  | c :: r, a, b, ⟨s, t, _, h2, h3⟩, _ => Acc.lt hf r h3 (hf.to _ _ _ _ h2)
theorem more_fine {st : Int} {ss : List Nst} (hf : Fine ss) (h0 : 0 ≤ st) (h1 : st < ss.length) : Fine (more1 st ss) := by
  have hl : (more1 st ss).length = ss.length + 1 := by unfold more1; simp
  refine ⟨fun s x hx => ?_, fun has b s t ht => ?_⟩
  · rw [hl]
    by_cases hs : s < ss.length
    · rw [more_fr hs] at hx; have := hf.fr s x hx; omega
    · by_cases he : s = ss.length
      · subst he
        unfold frOf at hx; rw [more_last] at hx; simp at hx; subst hx; omega
      · unfold frOf at hx; rw [List.getElem?_eq_none (by omega)] at hx; cases hx
  · rw [hl]
    by_cases hs : s < ss.length
    · rw [more_to hs] at ht; have := hf.to _ _ _ _ ht; omega
    · by_cases he : s = ss.length
      · subst he
        unfold toOf at ht; rw [more_last] at ht; simp at ht
      · unfold toOf at ht; rw [List.getElem?_eq_none (by omega)] at ht; cases ht
theorem accL_more {has : (Nat → Int) → UInt8 → Bool} {st : Int} {ss : List Nst} (h : mayN st ss = true) (x : List UInt8) : accL has (ss.length : Nat) (more1 st ss) x = accL has st ss x := by
  obtain ⟨hf, h0, h1⟩ := mayN_fine h
  have hl : (more1 st ss).length = ss.length + 1 := by unfold more1; simp
  unfold accL
  refine rules_congr fun r => ?_
  rw [Int.toNat_natCast]
  constructor
  · rintro ⟨s, hs, hr⟩
    have hs' := (mem_acc (more_fine hf h0 h1) (by omega) x s).1 hs
    rcases (more_acc0 hf h0 h1 x).1 hs' with ⟨_, rfl⟩ | g
    · unfold rlOf at hr; rw [more_last] at hr; simp at hr; try omega
    · exact ⟨s, (mem_acc hf (by omega) x s).2 g, by rw [← hr, more_rl (g.lt hf x (by omega))]⟩
  · rintro ⟨s, hs, hr⟩
    have g := (mem_acc hf (by omega) x s).1 hs
    exact ⟨s, (mem_acc (more_fine hf h0 h1) (by omega) x s).2 ((more_acc0 hf h0 h1 x).2 (.inr g)), by rw [more_rl (g.lt hf x (by omega)), hr]⟩
theorem chkN_more {st : Int} {ss : List Nst} (h : chkN st ss = 0) (hb : ss.length + frees ss ≤ 300) : chkN (ss.length : Nat) (more1 st ss) = 0 := by
  have hm : mayN st ss = true := by
    unfold chkN at h
    split at h
    · cases h
    · split at h
      · assumption
      · cases h
  have hl : (more1 st ss).length = ss.length + 1 := by unfold more1; simp
  have hfr : frees (more1 st ss) = frees ss + 1 := by unfold more1; rw [frees_app]; simp [frees]
  have ht : tooM (more1 st ss) = false := by
    unfold tooM; rw [hl, hfr]; simp; omega
  unfold chkN
  rw [ht]
  unfold mayN at hm ⊢
  simp only [Bool.and_eq_true, decide_eq_true_eq, List.all_eq_true] at hm
  obtain ⟨⟨h1, h2⟩, h3⟩ := hm
  have hall : (more1 st ss).all (stOk (more1 st ss).length) = true := by
    rw [List.all_eq_true, hl]
    intro y hy
    unfold more1 at hy
    rcases List.mem_append.1 hy with hy | hy
    · have := h3 y hy
      unfold stOk at this ⊢
      simp only [Bool.and_eq_true, decide_eq_true_eq, List.all_eq_true] at this ⊢
      exact ⟨by have := this.1; omega, this.2.1, fun x hx => ⟨(this.2.2 x hx).1, by have := (this.2.2 x hx).2; omega⟩⟩
    · simp only [List.mem_singleton] at hy
      subst hy
      unfold stOk
      simp; omega
  rw [hall, hl]
  simp
  omega
end Go.Proofs.YthglciccejholaaDoor
end
section
/- Package nfa, plain. -/
namespace Go.Proofs.YthglciccejholaaDoor
set_option linter.unusedSimpArgs false
set_option linter.unusedVariables false
set_option maxRecDepth 100000
/- NfaBig; the words of a set; the chapter's automaton. -/
def capF (m : Nat) : List Nst → Nat
  | [] => 0
  | s :: r => min s.fr.length (m + 1) + capF m r
theorem capF_app (m : Nat) : ∀ a b : List Nst, capF m (a ++ b) = capF m a + capF m b
  | [], b => by simp [capF]
  | s :: a, b => by simp only [List.cons_append, capF, capF_app m a b]; omega
theorem capF_take (m : Nat) (ss : List Nst) (j : Nat) (h : j < ss.length) : capF m (ss.take (j + 1)) = capF m (ss.take j) + min (ss[j]).fr.length (m + 1) := by
  rw [List.take_add_one, List.getElem?_eq_getElem h, capF_app]
  simp [capF]
theorem capF_take_le (m : Nat) : ∀ (ss : List Nst) (j : Nat), capF m (ss.take j) ≤ capF m ss
  | [], j => by simp [capF]
  | s :: r, 0 => by simp [capF]
  | s :: r, j + 1 => by
    have := capF_take_le m r j
    simp only [List.take_succ_cons, capF]; omega
theorem capF_frees (m : Nat) : ∀ (ss : List Nst), capF m ss ≤ m → capF m ss = frees ss
  | [], _ => rfl
  | s :: r, h => by
    simp only [capF] at h
    have h2 := capF_frees m r (by omega)
    simp only [capF, frees, h2]; omega
theorem capF_le (m : Nat) : ∀ (ss : List Nst), capF m ss ≤ frees ss
  | [] => Nat.le_refl _
  | s :: r => by have := capF_le m r; simp only [capF, frees]; omega
/-- NfaBig's answer. -/
def bigN (m : Nat) (ss : List Nst) : Bool := decide (m < ss.length + capF m ss)
theorem bigN_no {m : Nat} {ss : List Nst} (h : bigN m ss = false) : ss.length + frees ss ≤ m := by
  unfold bigN at h
  simp only [decide_eq_false_iff_not, Nat.not_lt] at h
  rw [← capF_frees m ss (by omega)]; exact h
/-- Is a byte in a set of four words? -/
def hasU (u : Nat → Int) (b : UInt8) : Bool := (u (b.toNat / 64)).toNat.testBit (b.toNat % 64)
def uA : Nat → Int := fun i => if i = 1 then 8589934592 else 0
def uZ : Nat → Int := fun _ => 0
/-- The automaton of the rules a and a*. -/
def ex6 : List Nst := [⟨uZ, -1, [], 0⟩, ⟨uA, 0, [], -1⟩, ⟨uZ, -1, [], 1⟩, ⟨uZ, -1, [2, 4], -1⟩, ⟨uA, 3, [], -1⟩, ⟨uZ, -1, [1, 3], -1⟩]
theorem ex6_ok : chkN 5 ex6 = 0 := by decide
theorem ex6_a : accL hasU 5 ex6 [97] = [0, 1] := by decide
theorem ex6_aa : accL hasU 5 ex6 [97, 97] = [1] := by decide
end Go.Proofs.YthglciccejholaaDoor
end
