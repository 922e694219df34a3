/- Package nfa. -/
import Derived.Test.YthglciccejholaaDoorProg
import Derived.Test.YthglciccejholaaDoorY5
import Derived.WalkKit
import Derived.WalkLawsBesides
import Derived.WalkSpells
import Derived.Outline
import Derived.Lib.Walk
import Derived.Lib.Hide
import Derived.Lib.Slices
import Derived.Lib.Strings
import Derived.RegionTactic
import Derived.LoopTactic
import Derived.Below
import Derived.IntWalk
import Derived.Deep.QuietTactic
import Derived.BigQuiet
import Derived.Deep.MidRow
import Derived.Maps.AppendAt
import Derived.Laws.Rows
import Derived.Laws.Tables
import Derived.Deep.WholeRow
import Derived.Deep.Cut
import Derived.Deep.CutRange
import Derived.Lib.SliceRun
namespace Go.Proofs.YthglciccejholaaDoor
set_option linter.unusedSimpArgs false
set_option linter.unusedVariables false
set_option maxRecDepth 100000
open Go.RowKit
/- goBy. -/
theorem infoBool : (Tryd.prog.info? 4).map (fun i => (i.zero, i.size)) = some (some (.bool false), 1) := by kernel_rfl
theorem zeroBool (w : World) : (zeroValue 4).run Tryd.prog w = .ok (.bool false) w := (zero_of_info infoBool).1 w
theorem clr_all {B : Nat} {w0 w : World} {A n : Nat} {la : List Nat} (h : w.heap[A]? = some (.cells (mkb n la) 4)) (hb : Below B w0 w) (hA : B ≤ A) : (w.setCells A 0 (List.replicate n (.bool false))).heap[A]? = some (.cells (mkb n []) 4) ∧ Below B w0 (w.setCells A 0 (List.replicate n (.bool false))) ∧ (w.setCells A 0 (List.replicate n (.bool false))).heap.size = w.heap.size ∧ ∀ b, b ≠ A → (w.setCells A 0 (List.replicate n (.bool false))).heap[b]? = w.heap[b]? := by
  refine ⟨?_, setCells_below hA _ _ _ hb, setCells_size _ _ _, fun b hb => setCells_other hb _ _ _⟩
  rw [setCells_heap _ 0 w _ h]
  congr 2
  apply Array.ext_getElem?
  intro i
  rw [putA_get _ _ _ _ (by simp [mkb_size])]
  by_cases hi : i < n
  · rw [if_pos (by simp; exact hi), mkb_get hi]; simp [hi]
  · rw [if_neg (by simp; omega), Array.getElem?_eq_none (by rw [mkb_size]; omega), Array.getElem?_eq_none (by rw [mkb_size]; omega)]
theorem toOf_get {ss : List Nst} {s : Nat} (h : s < ss.length) (has : (Nat → Int) → UInt8 → Bool) (b : UInt8) : toOf has ss b s = if 0 ≤ ss[s].to ∧ has ss[s].u b = true then some ss[s].to.toNat else none := by
  unfold toOf; rw [List.getElem?_eq_getElem h]
theorem FG.up {B : Nat} {w0 y z : World} {F A n : Nat} {stp : Value} {la l : List Nat} {g cap : Nat} {cs : Array Value} (h : FG B w0 y F A stp n la l g cap cs) (hb : Below y.heap.size y z) : FG B w0 z F A stp n la l g cap cs :=
  ⟨h.bel.trans (hb.mono h.sz), (hb.block F (Array.getElem?_eq_some_iff.1 h.f).1).trans h.f, (hb.block A (Array.getElem?_eq_some_iff.1 h.a).1).trans h.a, (hb.block g (Array.getElem?_eq_some_iff.1 h.r).1).trans h.r, h.ln, h.max, h.new, h.hF, h.hA, h.hg, h.fa, h.fg, h.ag, Nat.le_trans h.sz hb.size⟩
set_option maxHeartbeats 8000000 in
theorem goBy_any {B : Nat} {w0 y : World} {F A n : Nat} {stp : Value} {ss : List Nst} {l : List Nat} {g cap : Nat} {cs : Array Value} (b : UInt8) (h : FG B w0 y F A stp n l l g cap cs) (hne : l ≠ []) (hlen : l.length ≤ 4096) (hn : n ≤ 4096) (hss : ss.length = n) (hSV : SV (fun b => b < B) w0 ss stp) (hto : ∀ s ∈ ss, s.to < n) (hok : ∀ s ∈ ss, okW s.u) (hl : ∀ s ∈ l, s < n) :
    Calls Tryd.prog 46 #[.pointer (some ⟨F, 0, none⟩), .int .u8 b.toNat] y fun e y' => e = .returned (.tuple #[]) ∧ ∃ cs', FG B w0 y' F A stp n (goB hasU ss b l []) (goB hasU ss b l []) g cap cs' := by
  obtain ⟨R, hR⟩ : ∃ R, goB hasU ss b l [] = R := ⟨_, rfl⟩
  rw [hR]
  have HR := Lib.hid hR
  have HL := Lib.hid hl
  have HSV := Lib.hid hSV
  have HTO := Lib.hid hto
  have HOK := Lib.hid hok
  have HSS := Lib.hid hss
  have hll : 0 < l.length := List.length_pos_iff.2 hne
  have hlc := h.len
  have HNEW := Lib.hid h.new
  have c1 : y.cell? ⟨F, 1, none⟩ = some (.slice (some ⟨g, 0, none⟩) l.length cap) := cell_of_row y F 1 _ 84 (0, 0) h.f
  have f1 : y.frozen? ⟨F, 1, none⟩ = false := frozen_of_row y F 1 _ 84 h.f
  have hn0 : 0 < n := by
    have := hl (l[0]) (List.getElem_mem hll); omega
  have H1 : Hid (FG B w0 (y.setCell ⟨F, 1, none⟩ (.slice (some ⟨g, 0, none⟩) 0 cap)) F A stp n l [] g cap cs) := Lib.hid ⟨h.bel.setCell (p := ⟨F, 1, none⟩) h.hF _, heap_setCell_same y F 1 _ 84 _ h.f, (heap_setCell_other y _ A _ (fun e => h.fa e.symm)).trans h.a, (heap_setCell_other y _ g _ (fun e => h.fg e.symm)).trans h.r, h.ln, h.max, fun i hi => by simp at hi, h.hF, h.hA, h.hg, h.fa, h.fg, h.ag, by simpa using h.sz⟩
  clear hR hl hSV hto hok hss h hne
  go_enter Tryd.func46, Tryd.ntmps46
  go_upto_region 2 with fail
  refine at_world (fun z => FG B w0 z F A stp n l [] g cap cs) H1.out fun z hz => ?_
  have H2 := Lib.hid hz
  have c2 : z.cell? ⟨F, 2, none⟩ = some (.slice (some ⟨A, 0, none⟩) n n) := cell_of_row z F 2 _ 84 (0, 0) hz.f
  have hcl := fun ty => Lib.run_clear_slice (P := Tryd.prog) z 69 4 ty (.bool false) Tryd.underlying69 zeroBool rfl rfl A 0 n n hn0 (fun j hj => by rw [Nat.zero_add, cell_of_row z A j _ 4 (0, 0) hz.a, mkb_get hj]; rfl) (fun j hj => frozen_of_row z A _ _ 4 hz.a)
  have hca := clr_all hz.a hz.bel hz.hA
  have H3 : Hid (FG B w0 (z.setCells A 0 (List.replicate n (.bool false))) F A stp n [] [] g cap cs) := Lib.hid ⟨hca.2.1, (hca.2.2.2 F hz.fa).trans hz.f, hca.1, (hca.2.2.2 g (fun e => hz.ag e.symm)).trans hz.r, hz.ln, hz.max, fun i hi => by simp at hi, hz.hF, hz.hA, hz.hg, hz.fa, hz.fg, hz.ag, by rw [hca.2.2.1]; exact hz.sz⟩
  clear hz hca c1 f1 H1 H2
  go_upto_region 3 with (simp only [hcl])
  refine at_world (fun z => FG B w0 z F A stp n [] [] g cap cs) H3.out fun z2 hz => ?_
  have H4 := Lib.hid hz
  clear hz H3 hcl c2
  go_wp2_with fail
  go_loopw [23] (fun i wr => ∃ (j : Nat) (nl : List Nat) (cs : Array Value), i = .int .i64 (j : Nat) ∧ j ≤ l.length ∧ Hid (goB hasU ss b (l.drop j) nl = R) ∧ Hid (FG B w0 wr F A stp n nl nl g cap cs) ∧ Hid (∀ i, j ≤ i → ∀ h : i < l.length, cs[i]? = some (.int .i64 (l[i] : Nat))) ∧ nl.length ≤ j) (fun i _ => l.length - (intOf i).toNat)
  case atStart => exact ⟨0, [], cs, rfl, by omega, HR, H4, Lib.hid fun i _ h => HNEW.out i h, by simp⟩
  case round =>
    clear HR H4 HNEW
    obtain ⟨j, nl, cs, rfl, hj, HR, H, HO, hnl⟩ := hrel
    obtain ⟨wo, rfl⟩ : ∃ wo : World, wo = wr := ⟨_, rfl⟩
    by_cases hlt : j < l.length
    · obtain ⟨s, hs⟩ : ∃ s, l[j] = s := ⟨_, rfl⟩
      have hsn : s < n := HL.out s (hs ▸ List.getElem_mem hlt)
      have hsn' : s < ss.length := by rw [HSS.out]; exact hsn
      have hgo : goB hasU ss b (l.drop (j + 1)) (match toOf hasU ss b s with | some t => rch nl t | none => nl) = R := by
        rw [← HR.out, List.drop_eq_getElem_cons hlt, goB, hs]
        generalize toOf hasU ss b s = z
        cases z <;> rfl
      rw [toOf_get hsn'] at hgo
      obtain ⟨q, c, hstp, hSV⟩ := HSV.out
      obtain ⟨bb, o, rfl, hDb, hx⟩ := hSV (by intro e; rw [e] at hsn'; simp at hsn')
      obtain ⟨qf, f, hiv, hcell⟩ := hx s hsn'
      rw [HSS.out] at hstp
      have c0 : wo.cell? ⟨F, 0, none⟩ = some (.slice (some ⟨bb, o, none⟩) n c) := by rw [← hstp]; exact cell_of_row wo F 0 _ 84 (0, 0) H.out.f
      have cg : wo.cell? ⟨g, j, none⟩ = some (.int .i64 (s : Nat)) := by rw [cell_of_row wo g j _ 3 (0, 0) H.out.r, HO.out j (Nat.le_refl _) hlt, hs]
      have ce : ∀ i y, (stC (ss[s]).u (ss[s]).to (.slice qf (ss[s]).fr.length f) (ss[s]).rl)[i]? = some y → wo.cell? ⟨bb, o + s * 7 + i, none⟩ = some y := fun i y hy => (cell_same (H.out.bel.block bb hDb) _).trans (hcell i y hy)
      have ht := HTO.out ss[s] (List.getElem_mem hsn')
      have hu := HOK.out ss[s] (List.getElem_mem hsn')
      generalize (ss[s]).fr.length = frl at *
      generalize (ss[s]).rl = rl at *
      obtain ⟨tg, hto⟩ : ∃ tg, (ss[s]).to = tg := ⟨_, rfl⟩
      obtain ⟨u, huu⟩ : ∃ u, (ss[s]).u = u := ⟨_, rfl⟩
      rw [hto, huu] at hgo ce
      rw [hto] at ht
      rw [huu] at hu
      clear hto huu
      have d0 : wo.cell? ⟨bb, o + s * 7, none⟩ = some (.int .u64 (u 0)) := ce 0 _ rfl
      have d1 : wo.cell? ⟨bb, o + s * 7 + 1, none⟩ = some (.int .u64 (u 1)) := ce 1 _ rfl
      have d2 : wo.cell? ⟨bb, o + s * 7 + 2, none⟩ = some (.int .u64 (u 2)) := ce 2 _ rfl
      have d3 : wo.cell? ⟨bb, o + s * 7 + 3, none⟩ = some (.int .u64 (u 3)) := ce 3 _ rfl
      have d4 : wo.cell? ⟨bb, o + s * 7 + 4, none⟩ = some (.int .i64 tg) := ce 4 _ rfl
      have hltI : (j : Int) < (l.length : Int) := by omega
      have hjI : ¬ (j : Int) < 0 := by omega
      have hsI : ¬ (s : Int) < 0 := by omega
      have hsI2 : (s : Int) < (n : Int) := by omega
      have HO2 : Hid (∀ i, j + 1 ≤ i → ∀ h : i < l.length, cs[i]? = some (.int .i64 (l[i] : Nat))) := Lib.hid fun i hi h => HO.out i (by omega) h
      have hlc2 := H.out.len
      have HH := Lib.hid (hasU_any hu b wo)
      unfold uV at HH
      generalize hasU u b = hb at *
      clear hx hSV hstp hcell hiv hs HR HO ce hu
      by_cases h0 : 0 ≤ tg
      · obtain ⟨m, hm⟩ : ∃ m : Nat, tg = (m : Int) := ⟨tg.toNat, by omega⟩
        subst hm
        have hmn : m < n := by omega
        have h0' : ¬ (m : Int) < 0 := by omega
        cases hb
        · rw [if_neg (by simp)] at hgo
          have HGO := Lib.hid hgo
          clear hgo
          go_wp2_with fail
          refine HH.out.mono ?_
          rintro _ w5 ⟨rfl, hbl⟩
          have H5 := Lib.hid (H.out.up hbl)
          clear hbl HH H c0 cg d0 d1 d2 d3 d4
          go_wp2_with fail
          go_roundw
          case rel => exact ⟨j + 1, nl, cs, by go_num, by omega, HGO, H5, HO2, by omega⟩
          case measure => simp [intOf]; omega
        · rw [if_pos ⟨h0, rfl⟩, Int.toNat_natCast] at hgo
          have HGO := Lib.hid hgo
          clear hgo
          go_wp2_with fail
          refine HH.out.mono ?_
          rintro _ w5 ⟨rfl, hbl⟩
          have H5 := Lib.hid (H.out.up hbl)
          have d4 : w5.cell? ⟨bb, o + s * 7 + 4, none⟩ = some (.int .i64 (m : Nat)) := (cell_same (hbl.block bb (blk_lt d4)) _).trans d4
          have HC := Lib.hid (reachG_any H5.out hmn hn (by omega))
          clear hbl HH H c0 cg d0 d1 d2 d3
          go_wp2_with fail
          refine HC.out.mono ?_
          rintro _ w6 ⟨rfl, cs6, h6, hk⟩
          have H6 := Lib.hid h6
          have HO6 : Hid (∀ i, j + 1 ≤ i → ∀ h : i < l.length, cs6[i]? = some (.int .i64 (l[i] : Nat))) := Lib.hid fun i hi h => (hk i (by omega)).trans (HO2.out i hi h)
          have hnl2 : (rch nl m).length ≤ j + 1 := by unfold rch; split <;> (try simp only [List.length_append, List.length_singleton]) <;> omega
          clear h6 hk HC H5 d4 HO2
          go_wp2_with fail
          go_roundw
          case rel => exact ⟨j + 1, rch nl m, cs6, by go_num, by omega, HGO, H6, HO6, hnl2⟩
          case measure => simp [intOf]; omega
      · rw [if_neg (fun h => h0 h.1)] at hgo
        have HGO := Lib.hid hgo
        clear hgo
        go_wp2_with fail
        go_roundw
        case rel => exact ⟨j + 1, nl, cs, by go_num, by omega, HGO, H, HO2, by omega⟩
        case measure => simp [intOf]; omega
    · obtain rfl : j = l.length := by omega
      have hr : nl = R := by rw [← HR.out, List.drop_length, goB]
      subst hr
      have hltI : ¬ (l.length : Int) < (l.length : Int) := by omega
      clear HR HO
      go_wp2_with fail
      go_end0
      exact ⟨rfl, cs, H.out⟩
end Go.Proofs.YthglciccejholaaDoor
