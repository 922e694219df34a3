/- Texts of package regs, one behind the other. -/
import Derived.Test.YthglciccejholaaDoorProg
import Derived.Test.YthglciccejholaaDoorZ4
import Derived.WalkKit
import Derived.WalkLawsBesides
import Derived.WalkSpells
import Derived.Outline
import Derived.Lib.Walk
import Derived.Lib.Hide
import Derived.Lib.Slices
import Derived.Lib.Strings
import Derived.RegionTactic
import Derived.LoopTactic
import Derived.Below
import Derived.IntWalk
import Derived.Deep.QuietTactic
import Derived.BigQuiet
import Derived.Deep.MidRow
import Derived.Maps.AppendAt
import Derived.Laws.Rows
import Derived.Laws.Tables
import Derived.Deep.WholeRow
import Derived.Deep.Cut
import Derived.Deep.CutRange
import Derived.Lib.SliceRun
section
/- Package nfa. -/
namespace Go.Proofs.YthglciccejholaaDoor
set_option linter.unusedSimpArgs false
set_option linter.unusedVariables false
set_option maxRecDepth 100000
open Go.RowKit
/- goBy. -/
theorem infoBool : (Tryd.prog.info? 4).map (fun i => (i.zero, i.size)) = some (some (.bool false), 1) := by kernel_rfl
theorem zeroBool (w : World) : (zeroValue 4).run Tryd.prog w = .ok (.bool false) w := (zero_of_info infoBool).1 w
theorem clr_all {B : Nat} {w0 w : World} {A n : Nat} {la : List Nat} (h : w.heap[A]? = some (.cells (mkb n la) 4)) (hb : Below B w0 w) (hA : B ≤ A) : (w.setCells A 0 (List.replicate n (.bool false))).heap[A]? = some (.cells (mkb n []) 4) ∧ Below B w0 (w.setCells A 0 (List.replicate n (.bool false))) ∧ (w.setCells A 0 (List.replicate n (.bool false))).heap.size = w.heap.size ∧ ∀ b, b ≠ A → (w.setCells A 0 (List.replicate n (.bool false))).heap[b]? = w.heap[b]? := by
  refine ⟨?_, setCells_below hA _ _ _ hb, setCells_size _ _ _, fun b hb => setCells_other hb _ _ _⟩
  rw [setCells_heap _ 0 w _ h]
  congr 2
  apply Array.ext_getElem?
  intro i
  rw [putA_get _ _ _ _ (by simp [mkb_size])]
  by_cases hi : i < n
  · rw [if_pos (by simp; exact hi), mkb_get hi]; simp [hi]
  · rw [if_neg (by simp; omega), Array.getElem?_eq_none (by rw [mkb_size]; omega), Array.getElem?_eq_none (by rw [mkb_size]; omega)]
theorem toOf_get {ss : List Nst} {s : Nat} (h : s < ss.length) (has : (Nat → Int) → UInt8 → Bool) (b : UInt8) : toOf has ss b s = if 0 ≤ ss[s].to ∧ has ss[s].u b = true then some ss[s].to.toNat else none := by
  unfold toOf; rw [List.getElem?_eq_getElem h]
theorem FG.up {B : Nat} {w0 y z : World} {F A n : Nat} {stp : Value} {la l : List Nat} {g cap : Nat} {cs : Array Value} (h : FG B w0 y F A stp n la l g cap cs) (hb : Below y.heap.size y z) : FG B w0 z F A stp n la l g cap cs :=
  ⟨h.bel.trans (hb.mono h.sz), (hb.block F (Array.getElem?_eq_some_iff.1 h.f).1).trans h.f, (hb.block A (Array.getElem?_eq_some_iff.1 h.a).1).trans h.a, (hb.block g (Array.getElem?_eq_some_iff.1 h.r).1).trans h.r, h.ln, h.max, h.new, h.hF, h.hA, h.hg, h.fa, h.fg, h.ag, Nat.le_trans h.sz hb.size⟩
set_option maxHeartbeats 8000000 in
theorem goBy_any {B : Nat} {w0 y : World} {F A n : Nat} {stp : Value} {ss : List Nst} {l : List Nat} {g cap : Nat} {cs : Array Value} (b : UInt8) (h : FG B w0 y F A stp n l l g cap cs) (hne : l ≠ []) (hlen : l.length ≤ 4096) (hn : n ≤ 4096) (hss : ss.length = n) (hSV : SV (fun b => b < B) w0 ss stp) (hto : ∀ s ∈ ss, s.to < n) (hok : ∀ s ∈ ss, okW s.u) (hl : ∀ s ∈ l, s < n) :
    Calls Tryd.prog 46 #[.pointer (some ⟨F, 0, none⟩), .int .u8 b.toNat] y fun e y' => e = .returned (.tuple #[]) ∧ ∃ cs', FG B w0 y' F A stp n (goB hasU ss b l []) (goB hasU ss b l []) g cap cs' := by
  obtain ⟨R, hR⟩ : ∃ R, goB hasU ss b l [] = R := ⟨_, rfl⟩
  rw [hR]
  have HR := Lib.hid hR
  have HL := Lib.hid hl
  have HSV := Lib.hid hSV
  have HTO := Lib.hid hto
  have HOK := Lib.hid hok
  have HSS := Lib.hid hss
  have hll : 0 < l.length := List.length_pos_iff.2 hne
  have hlc := h.len
  have HNEW := Lib.hid h.new
  have c1 : y.cell? ⟨F, 1, none⟩ = some (.slice (some ⟨g, 0, none⟩) l.length cap) := cell_of_row y F 1 _ 84 (0, 0) h.f
  have f1 : y.frozen? ⟨F, 1, none⟩ = false := frozen_of_row y F 1 _ 84 h.f
  have hn0 : 0 < n := by
    have := hl (l[0]) (List.getElem_mem hll); omega
  have H1 : Hid (FG B w0 (y.setCell ⟨F, 1, none⟩ (.slice (some ⟨g, 0, none⟩) 0 cap)) F A stp n l [] g cap cs) := Lib.hid ⟨h.bel.setCell (p := ⟨F, 1, none⟩) h.hF _, heap_setCell_same y F 1 _ 84 _ h.f, (heap_setCell_other y _ A _ (fun e => h.fa e.symm)).trans h.a, (heap_setCell_other y _ g _ (fun e => h.fg e.symm)).trans h.r, h.ln, h.max, fun i hi => by simp at hi, h.hF, h.hA, h.hg, h.fa, h.fg, h.ag, by simpa using h.sz⟩
  clear hR hl hSV hto hok hss h hne
  go_enter Tryd.func46, Tryd.ntmps46
  go_upto_region 2 with fail
  refine at_world (fun z => FG B w0 z F A stp n l [] g cap cs) H1.out fun z hz => ?_
  have H2 := Lib.hid hz
  have c2 : z.cell? ⟨F, 2, none⟩ = some (.slice (some ⟨A, 0, none⟩) n n) := cell_of_row z F 2 _ 84 (0, 0) hz.f
  have hcl := fun ty => Lib.run_clear_slice (P := Tryd.prog) z 69 4 ty (.bool false) Tryd.underlying69 zeroBool rfl rfl A 0 n n hn0 (fun j hj => by rw [Nat.zero_add, cell_of_row z A j _ 4 (0, 0) hz.a, mkb_get hj]; rfl) (fun j hj => frozen_of_row z A _ _ 4 hz.a)
  have hca := clr_all hz.a hz.bel hz.hA
  have H3 : Hid (FG B w0 (z.setCells A 0 (List.replicate n (.bool false))) F A stp n [] [] g cap cs) := Lib.hid ⟨hca.2.1, (hca.2.2.2 F hz.fa).trans hz.f, hca.1, (hca.2.2.2 g (fun e => hz.ag e.symm)).trans hz.r, hz.ln, hz.max, fun i hi => by simp at hi, hz.hF, hz.hA, hz.hg, hz.fa, hz.fg, hz.ag, by rw [hca.2.2.1]; exact hz.sz⟩
  clear hz hca c1 f1 H1 H2
  go_upto_region 3 with (simp only [hcl])
  refine at_world (fun z => FG B w0 z F A stp n [] [] g cap cs) H3.out fun z2 hz => ?_
  have H4 := Lib.hid hz
  clear hz H3 hcl c2
  go_wp2_with fail
  go_loopw [23] (fun i wr => ∃ (j : Nat) (nl : List Nat) (cs : Array Value), i = .int .i64 (j : Nat) ∧ j ≤ l.length ∧ Hid (goB hasU ss b (l.drop j) nl = R) ∧ Hid (FG B w0 wr F A stp n nl nl g cap cs) ∧ Hid (∀ i, j ≤ i → ∀ h : i < l.length, cs[i]? = some (.int .i64 (l[i] : Nat))) ∧ nl.length ≤ j) (fun i _ => l.length - (intOf i).toNat)
  case atStart => exact ⟨0, [], cs, rfl, by omega, HR, H4, Lib.hid fun i _ h => HNEW.out i h, by simp⟩
  case round =>
    clear HR H4 HNEW
    obtain ⟨j, nl, cs, rfl, hj, HR, H, HO, hnl⟩ := hrel
    obtain ⟨wo, rfl⟩ : ∃ wo : World, wo = wr := ⟨_, rfl⟩
    by_cases hlt : j < l.length
    · obtain ⟨s, hs⟩ : ∃ s, l[j] = s := ⟨_, rfl⟩
      have hsn : s < n := HL.out s (hs ▸ List.getElem_mem hlt)
      have hsn' : s < ss.length := by rw [HSS.out]; exact hsn
      have hgo : goB hasU ss b (l.drop (j + 1)) (match toOf hasU ss b s with | some t => rch nl t | none => nl) = R := by
        rw [← HR.out, List.drop_eq_getElem_cons hlt, goB, hs]
        generalize toOf hasU ss b s = z
        cases z <;> rfl
      rw [toOf_get hsn'] at hgo
      obtain ⟨q, c, hstp, hSV⟩ := HSV.out
      obtain ⟨bb, o, rfl, hDb, hx⟩ := hSV (by intro e; rw [e] at hsn'; simp at hsn')
      obtain ⟨qf, f, hiv, hcell⟩ := hx s hsn'
      rw [HSS.out] at hstp
      have c0 : wo.cell? ⟨F, 0, none⟩ = some (.slice (some ⟨bb, o, none⟩) n c) := by rw [← hstp]; exact cell_of_row wo F 0 _ 84 (0, 0) H.out.f
      have cg : wo.cell? ⟨g, j, none⟩ = some (.int .i64 (s : Nat)) := by rw [cell_of_row wo g j _ 3 (0, 0) H.out.r, HO.out j (Nat.le_refl _) hlt, hs]
      have ce : ∀ i y, (stC (ss[s]).u (ss[s]).to (.slice qf (ss[s]).fr.length f) (ss[s]).rl)[i]? = some y → wo.cell? ⟨bb, o + s * 7 + i, none⟩ = some y := fun i y hy => (cell_same (H.out.bel.block bb hDb) _).trans (hcell i y hy)
      have ht := HTO.out ss[s] (List.getElem_mem hsn')
      have hu := HOK.out ss[s] (List.getElem_mem hsn')
      generalize (ss[s]).fr.length = frl at *
      generalize (ss[s]).rl = rl at *
      obtain ⟨tg, hto⟩ : ∃ tg, (ss[s]).to = tg := ⟨_, rfl⟩
      obtain ⟨u, huu⟩ : ∃ u, (ss[s]).u = u := ⟨_, rfl⟩
      rw [hto, huu] at hgo ce
      rw [hto] at ht
      rw [huu] at hu
      clear hto huu
      have d0 : wo.cell? ⟨bb, o + s * 7, none⟩ = some (.int .u64 (u 0)) := ce 0 _ rfl
      have d1 : wo.cell? ⟨bb, o + s * 7 + 1, none⟩ = some (.int .u64 (u 1)) := ce 1 _ rfl
      have d2 : wo.cell? ⟨bb, o + s * 7 + 2, none⟩ = some (.int .u64 (u 2)) := ce 2 _ rfl
      have d3 : wo.cell? ⟨bb, o + s * 7 + 3, none⟩ = some (.int .u64 (u 3)) := ce 3 _ rfl
      have d4 : wo.cell? ⟨bb, o + s * 7 + 4, none⟩ = some (.int .i64 tg) := ce 4 _ rfl
      have hltI : (j : Int) < (l.length : Int) := by omega
      have hjI : ¬ (j : Int) < 0 := by omega
      have hsI : ¬ (s : Int) < 0 := by omega
      have hsI2 : (s : Int) < (n : Int) := by omega
      have HO2 : Hid (∀ i, j + 1 ≤ i → ∀ h : i < l.length, cs[i]? = some (.int .i64 (l[i] : Nat))) := Lib.hid fun i hi h => HO.out i (by omega) h
      have hlc2 := H.out.len
      have HH := Lib.hid (hasU_any hu b wo)
      unfold uV at HH
      generalize hasU u b = hb at *
      clear hx hSV hstp hcell hiv hs HR HO ce hu
      by_cases h0 : 0 ≤ tg
      · obtain ⟨m, hm⟩ : ∃ m : Nat, tg = (m : Int) := ⟨tg.toNat, by omega⟩
        subst hm
        have hmn : m < n := by omega
        have h0' : ¬ (m : Int) < 0 := by omega
        cases hb
        · rw [if_neg (by simp)] at hgo
          have HGO := Lib.hid hgo
          clear hgo
          go_wp2_with fail
          refine HH.out.mono ?_
          rintro _ w5 ⟨rfl, hbl⟩
          have H5 := Lib.hid (H.out.up hbl)
          clear hbl HH H c0 cg d0 d1 d2 d3 d4
          go_wp2_with fail
          go_roundw
          case rel => exact ⟨j + 1, nl, cs, by go_num, by omega, HGO, H5, HO2, by omega⟩
          case measure => simp [intOf]; omega
        · rw [if_pos ⟨h0, rfl⟩, Int.toNat_natCast] at hgo
          have HGO := Lib.hid hgo
          clear hgo
          go_wp2_with fail
          refine HH.out.mono ?_
          rintro _ w5 ⟨rfl, hbl⟩
          have H5 := Lib.hid (H.out.up hbl)
          have d4 : w5.cell? ⟨bb, o + s * 7 + 4, none⟩ = some (.int .i64 (m : Nat)) := (cell_same (hbl.block bb (blk_lt d4)) _).trans d4
          have HC := Lib.hid (reachG_any H5.out hmn hn (by omega))
          clear hbl HH H c0 cg d0 d1 d2 d3
          go_wp2_with fail
          refine HC.out.mono ?_
          rintro _ w6 ⟨rfl, cs6, h6, hk⟩
          have H6 := Lib.hid h6
          have HO6 : Hid (∀ i, j + 1 ≤ i → ∀ h : i < l.length, cs6[i]? = some (.int .i64 (l[i] : Nat))) := Lib.hid fun i hi h => (hk i (by omega)).trans (HO2.out i hi h)
          have hnl2 : (rch nl m).length ≤ j + 1 := by unfold rch; split <;> (try simp only [List.length_append, List.length_singleton]) <;> omega
          clear h6 hk HC H5 d4 HO2
          go_wp2_with fail
          go_roundw
          case rel => exact ⟨j + 1, rch nl m, cs6, by go_num, by omega, HGO, H6, HO6, hnl2⟩
          case measure => simp [intOf]; omega
      · rw [if_neg (fun h => h0 h.1)] at hgo
        have HGO := Lib.hid hgo
        clear hgo
        go_wp2_with fail
        go_roundw
        case rel => exact ⟨j + 1, nl, cs, by go_num, by omega, HGO, H, HO2, by omega⟩
        case measure => simp [intOf]; omega
    · obtain rfl : j = l.length := by omega
      have hr : nl = R := by rw [← HR.out, List.drop_length, goB]
      subst hr
      have hltI : ¬ (l.length : Int) < (l.length : Int) := by omega
      clear HR HO
      go_wp2_with fail
      go_end0
      exact ⟨rfl, cs, H.out⟩
end Go.Proofs.YthglciccejholaaDoor
end
section
/- Package nfa. -/
namespace Go.Proofs.YthglciccejholaaDoor
set_option linter.unusedSimpArgs false
set_option linter.unusedVariables false
set_option maxRecDepth 100000
open Go.RowKit
/- rules. -/
/-- A row of 48 truths. -/
def r48 (f : Nat → Bool) : Array Value := Array.ofFn (n := 48) fun i => .bool (f i.val)
theorem r48_size (f : Nat → Bool) : (r48 f).size = 48 := by simp [r48]
theorem r48_get {f : Nat → Bool} {i : Nat} (h : i < 48) : (r48 f)[i]? = some (.bool (f i)) := by
  simp [r48, Array.getElem?_ofFn, h]
theorem r48_set (f : Nat → Bool) (r : Nat) : (r48 f).setIfInBounds r (.bool true) = r48 (fun i => f i || i == r) := by
  apply Array.ext_getElem?
  intro i
  rw [Array.getElem?_setIfInBounds]
  by_cases hi : i < 48
  · rw [r48_get hi, r48_get hi]
    by_cases h : r = i
    · subst h; simp [r48_size, hi]
    · rw [if_neg h]; simp [Ne.symm h]
  · rw [Array.getElem?_eq_none (by rw [r48_size]; omega), Array.getElem?_eq_none (by rw [r48_size]; omega)]
    by_cases h : r = i
    · subst h; rw [if_pos rfl, if_neg (by rw [r48_size]; omega)]
    · rw [if_neg h]
theorem index48 (f : Nat → Bool) (r : Nat) (h : r < 48) (w : World) : (Instr.index 129 (.agg (r48 f)) (.int .i64 (r : Nat))).run Tryd.prog w = .ok (.bool (f r)) w := by
  have hg := r48_get (f := f) h
  simp [Instr.index, run_underlying Tryd.underlying129, asIntOf, part, go_sem, Tryd.sizeOf4, h, hg]
theorem info93 : (Tryd.prog.info? 129).map (fun i => (i.zero, i.size)) = some (some (.agg (r48 fun _ => false)), 48) := by kernel_rfl
theorem zero93 (w : World) : (zeroValue 129).run Tryd.prog w = .ok (.agg (r48 fun _ => false)) w := (zero_of_info info93).1 w
theorem size93 : (Tryd.prog.info? 129).map (·.size) = some 48 := (zero_of_info info93).2
/-- The numbers below k of which f is so. -/
def ru (f : Nat → Bool) (k : Nat) : List Nat := (List.range k).filter f
theorem ru_succ (f : Nat → Bool) (k : Nat) : ru f (k + 1) = if f k = true then ru f k ++ [k] else ru f k := by
  unfold ru
  rw [List.range_succ, List.filter_append]
  by_cases h : f k = true
  · rw [if_pos h]; simp [h]
  · rw [if_neg h]; simp [h]
theorem ru_len (f : Nat → Bool) (k : Nat) : (ru f k).length ≤ k := by
  unfold ru
  have := List.length_filter_le f (List.range k)
  simpa using this
theorem iv_row {B : Nat} {y : World} {l : List Nat} {sl : Value} (h : y.ownsRow B 3 1 sl l.length (ints l)) : IV (fun b => B ≤ b ∧ b < y.heap.size) y (l.map fun (r : Nat) => (r : Int)) sl := by
  by_cases hn : l = []
  · subst hn
    obtain ⟨p, c, rfl⟩ := row_form h
    exact IV.nil _ _ _ _
  · obtain ⟨g, cap, cs, rfl, h1, h2, h3, h4, h5, h6⟩ := own1_of h hn
    have hg := (Array.getElem?_eq_some_iff.1 h2).1
    refine ⟨some ⟨g, 0, none⟩, cap, by simp, fun _ => ⟨g, 0, rfl, ⟨h1, hg⟩, fun i hi => ?_⟩⟩
    have hi' : i < l.length := by simpa using hi
    rw [Nat.zero_add, cell_of_row y g i _ 3 (0, 0) h2, h6 i hi']
    simp
/-- Does a rule end at one of them? -/
def anyR (ss : List Nst) (l : List Nat) (r : Nat) : Bool := l.any fun s => decide (rlOf ss s = (r : Int))
theorem rlOf_get {ss : List Nst} {s : Nat} (h : s < ss.length) : rlOf ss s = ss[s].rl := by
  unfold rlOf; rw [List.getElem?_eq_getElem h]
theorem anyR_succ (ss : List Nst) (l : List Nat) (j : Nat) (h : j < l.length) (r : Nat) : anyR ss (l.take (j + 1)) r = (anyR ss (l.take j) r || decide (rlOf ss l[j] = (r : Int))) := by
  unfold anyR
  rw [List.take_add_one, List.getElem?_eq_getElem h, List.any_append]
  simp
set_option maxHeartbeats 8000000 in
theorem rules_any {B : Nat} {w0 y : World} {F A n : Nat} {stp sl : Value} {ss : List Nst} {l : List Nat} (h : FR B w0 y F A stp n l l sl) (hn : n ≤ 4096) (hlen : l.length ≤ 4096) (hss : ss.length = n) (hSV : SV (fun b => b < B) w0 ss stp) (hrl : ∀ s ∈ ss, s.rl < 48) (hl : ∀ s ∈ l, s < n) :
    Calls Tryd.prog 47 #[.pointer (some ⟨F, 0, none⟩)] y fun e y' => (∃ v, e = .returned v ∧ IV (fun b => y.heap.size ≤ b ∧ b < y'.heap.size) y' (rulesOf ss l) v) ∧ Below y.heap.size y y' := by
  obtain ⟨i0, hi, hz0, hz1, hz2⟩ := info_parts info3
  obtain ⟨p, c, rfl⟩ := row_form h.row
  have H := Lib.hid h
  have HL := Lib.hid hl
  have HSV := Lib.hid hSV
  have HRL := Lib.hid hrl
  have HSS := Lib.hid hss
  have hFlt : F < y.heap.size := (Array.getElem?_eq_some_iff.1 h.f).1
  have hz := zero93
  have S0 := Lib.hid ((Sb.start y).alloc (.cells (r48 fun _ => false) 129))
  have HC1 : Hid (∀ z, Below y.heap.size y z → z.cell? ⟨F, 1, none⟩ = some (.slice p l.length c)) := Lib.hid fun z hb => (cell_same (hb.block F hFlt) 1).trans (cell_of_row y F 1 _ 84 (0, 0) h.f)
  have c1 : (y.alloc (.cells (r48 fun _ => false) 129)).cell? ⟨F, 1, none⟩ = some (.slice p l.length c) := HC1.out _ S0.out.1
  clear h hl hSV hrl hss
  go_enter Tryd.func47, Tryd.ntmps47
  go_upto_region 3 with fail
  refine at_world (fun z => Sb y z [(y.heap.size, .cells (r48 fun _ => false) 129)]) S0.out fun z hz => ?_
  have S1 := Lib.hid hz
  clear hz S0 c1
  go_loopw [15] (fun i wr => ∃ (j : Nat) (f : Nat → Bool), i = .int .i64 (j : Nat) ∧ j ≤ l.length ∧ Hid (∀ r, r < 48 → f r = anyR ss (l.take j) r) ∧ Hid (Sb y wr [(y.heap.size, .cells (r48 f) 129)])) (fun i _ => l.length - (intOf i).toNat)
  case atStart => exact ⟨0, fun _ => false, rfl, by omega, Lib.hid fun r _ => by simp [anyR], S1⟩
  case round =>
    clear S1
    obtain ⟨j, f, rfl, hj, HF, HS⟩ := hrel
    obtain ⟨wo, rfl⟩ : ∃ wo : World, wo = wr := ⟨_, rfl⟩
    by_cases hlt : j < l.length
    · have hne : l ≠ [] := by intro e; subst e; simp at hlt
      obtain ⟨g, cap, cs, hsl, hown⟩ := H.out.reb hne
      cases hsl
      obtain ⟨s, hs⟩ : ∃ s, l[j] = s := ⟨_, rfl⟩
      have hsn : s < n := HL.out s (hs ▸ List.getElem_mem hlt)
      have hsn' : s < ss.length := by rw [HSS.out]; exact hsn
      have hglt : g < y.heap.size := (Array.getElem?_eq_some_iff.1 hown.2.1).1
      obtain ⟨q, cq, hstp, hSV⟩ := HSV.out
      obtain ⟨bb, o, rfl, hDb, hx⟩ := hSV (by intro e; rw [e] at hsn'; simp at hsn')
      obtain ⟨qf, ff, hiv, hcell⟩ := hx s hsn'
      rw [HSS.out] at hstp
      have hb := HS.out.1
      have c0 : wo.cell? ⟨F, 0, none⟩ = some (.slice (some ⟨bb, o, none⟩) n cq) := by rw [← hstp]; exact (cell_same (hb.block F hFlt) 0).trans (cell_of_row y F 0 _ 84 (0, 0) H.out.f)
      have cg : wo.cell? ⟨g, j, none⟩ = some (.int .i64 (s : Nat)) := (cell_same (hb.block g hglt) j).trans (by rw [cell_of_row y g j _ 3 (0, 0) hown.2.1, hown.2.2.2.2.2 j hlt, hs])
      have hbl := H.out.bel
      have d6 : wo.cell? ⟨bb, o + s * 7 + 6, none⟩ = some (.int .i64 (ss[s]).rl) := (cell_same ((hb.block bb (by have := H.out.sz; omega)).trans (hbl.block bb hDb)) _).trans (hcell 6 _ rfl)
      have hr := HRL.out ss[s] (List.getElem_mem hsn')
      have hany : ∀ r, anyR ss (l.take (j + 1)) r = (anyR ss (l.take j) r || decide ((ss[s]).rl = (r : Int))) := fun r => by rw [anyR_succ ss l j hlt r, hs, rlOf_get hsn']
      generalize (ss[s]).rl = rl at *
      have HANY := Lib.hid hany
      have hltI : (j : Int) < (l.length : Int) := by omega
      have hjI : ¬ (j : Int) < 0 := by omega
      have hsI : ¬ (s : Int) < 0 := by omega
      have hsI2 : (s : Int) < (n : Int) := by omega
      clear hx hSV hstp hcell hiv hs hown hb hbl hany
      by_cases h0 : 0 ≤ rl
      · obtain ⟨m, hm⟩ : ∃ m : Nat, rl = (m : Int) := ⟨rl.toNat, by omega⟩
        subst hm
        have hm48 : m < 48 := by omega
        have hmI : ¬ (m : Int) < 0 := by omega
        have cE : wo.cell? ⟨y.heap.size, m, none⟩ = some (.bool (f m)) := by rw [HS.out.cell m, r48_get hm48]
        have fE : wo.frozen? ⟨y.heap.size, m, none⟩ = false := HS.out.free m
        have HS2 := Lib.hid (by have h9 := HS.out.set (i := m) (.bool true) (by simp); rw [r48_set] at h9; exact h9 : Sb y (wo.setCell ⟨y.heap.size, m, none⟩ (.bool true)) [(y.heap.size, .cells (r48 fun i => f i || i == m) 129)])
        have HF2 : Hid (∀ r, r < 48 → (fun i => f i || i == m) r = anyR ss (l.take (j + 1)) r) := Lib.hid fun r hr => by
          rw [HANY.out r, ← HF.out r hr]
          show (f r || r == m) = (f r || decide ((m : Int) = (r : Int)))
          have e : (r == m) = decide ((m : Int) = (r : Int)) := by rw [Bool.eq_iff_iff, beq_iff_eq, decide_eq_true_eq]; omega
          rw [e]
        clear HS HF HANY
        go_wp2_with fail
        go_roundw
        case rel => exact ⟨j + 1, _, by go_num, by omega, HF2, HS2⟩
        case measure => simp [intOf]; omega
      · have HF2 : Hid (∀ r, r < 48 → f r = anyR ss (l.take (j + 1)) r) := Lib.hid fun r hr => by
          rw [HANY.out r, ← HF.out r hr]
          rw [show decide (rl = (r : Int)) = false by simp; omega]; simp
        clear HF HANY
        go_wp2_with fail
        go_roundw
        case rel => exact ⟨j + 1, f, by go_num, by omega, HF2, HS⟩
        case measure => simp [intOf]; omega
    · obtain rfl : j = l.length := by omega
      have hltI : ¬ (l.length : Int) < (l.length : Int) := by omega
      have hE := Lib.hid HS.out.heap
      have hbel := Lib.hid HS.out.1
      have hylt : y.heap.size < wo.heap.size := HS.out.lt
      have hRU : Hid ((ru f 48).map (fun (r : Nat) => (r : Int)) = rulesOf ss l) := Lib.hid (by
        unfold rulesOf ru
        congr 1
        refine List.filter_congr fun r hr => ?_
        have := HF.out r (List.mem_range.1 hr)
        rw [List.take_length] at this
        exact this)
      have hrow0 : Hid (wo.ownsRow y.heap.size 3 1 (.slice none 0 0) (ru f 0).length (ints (ru f 0))) := Lib.hid ⟨by simp [ru, ints], .inl ⟨rfl, by simp [ru]⟩⟩
      have hix : ∀ k w, k < 48 → (Instr.index 129 (.agg (r48 f)) (.int .i64 (k : Nat))).run Tryd.prog w = .ok (.bool (f k)) w := fun k w h => index48 f k h w
      have HIX := Lib.hid hix
      clear HF HS hix
      go_wp2_with (refine wpList_load_row rfl 129 (.tmp 3) rfl y.heap.size rfl 129 (r48 f) (0, 0) _ hE.out Tryd.underlying129 rfl (by rw [size93, r48_size]) ?_)
      go_loopw [7, 33] (fun a i wr => ∃ (k : Nat), i = .int .i64 (k : Nat) ∧ k ≤ 48 ∧ Hid (wr.ownsRow y.heap.size 3 1 a (ru f k).length (ints (ru f k))) ∧ Hid (Below y.heap.size y wr) ∧ y.heap.size < wr.heap.size) (fun _ i _ => 48 - (intOf i).toNat)
      case atStart => exact ⟨0, rfl, by omega, hrow0, hbel, hylt⟩
      case round =>
        clear hE hbel hylt hrow0
        obtain ⟨k, rfl, hk, HR, HB, hlt⟩ := hrel
        obtain ⟨wk, rfl⟩ : ∃ wk : World, wk = wr := ⟨_, rfl⟩
        obtain ⟨p2, c2, hu⟩ := row_form HR.out
        subst hu
        have hlk := ru_len f k
        by_cases hk48 : k < 48
        · have hk2 : (k : Int) < 48 := by omega
          have hix := fun w => HIX.out k w hk48
          have hru := ru_succ f k
          cases hf : f k
          · rw [hf] at hix hru
            rw [if_neg (by simp)] at hru
            have HR2 : Hid (wk.ownsRow y.heap.size 3 1 (.slice p2 (ru f k).length c2) (ru f (k + 1)).length (ints (ru f (k + 1)))) := Lib.hid (by rw [hru]; exact HR.out)
            clear hru hf HR
            go_wp2_with (simp only [hix])
            go_roundw
            case rel => exact ⟨k + 1, by go_num, by omega, HR2, HB, hlt⟩
            case measure => simp [intOf]; omega
          · rw [hf] at hix hru
            rw [if_pos rfl] at hru
            have HRU2 := Lib.hid hru
            have X4 := Lib.hid (World.ownsRow.alloc HR.out (.cells #[.int .i64 (k : Nat)] 3))
            have HYA := Lib.hid (show (wk.alloc (.cells #[.int .i64 (k : Nat)] 3)).heap.size = wk.heap.size + 1 by simp)
            clear hru hf HR
            go_wp2_with (first | (simp only [hix]) | (at_builtin; refine wpList_append_own_at _ rfl (.tmp 38) (.tmp 40) 39 rfl y.heap.size 3 i0 (.int .i64 0) 1 8 Tryd.underlying39 hi hz0 hz1 hz2 rfl (by decide) (.slice p2 (ru f k).length c2) (ru f k).length (ints (ru f k)) rfl ?c0 ⟨wk.heap.size, 0, none⟩ 1 1 [.int .i64 (k : Nat)] rfl rfl ?c1 ?c2 ?c3 ?c4 ?c5 ?_))
            case c0 => exact X4.out
            case c1 => exact cell_one_new _ _ _
            case c2 => simp [Value.oneCell']
            case c3 => unfold maxLen; omega
            case c4 => omega
            case c5 => have := HYA.out; omega
            intro v' w7 hown7 hgrow7 _ hat7
            obtain ⟨p7, c7, rfl⟩ := row_form hown7
            have hya := HYA.out
            have hint : ints (ru f (k + 1)) = ints (ru f k) ++ [.int .i64 (k : Nat)] := by rw [HRU2.out]; simp [ints]
            have hle : (ru f (k + 1)).length = (ru f k).length + 1 := by rw [HRU2.out]; simp
            have HR2 : Hid (w7.ownsRow y.heap.size 3 1 (.slice p7 ((ru f k).length + 1) c7) (ru f (k + 1)).length (ints (ru f (k + 1)))) := Lib.hid (by rw [hint, hle]; exact hown7)
            have HB2 := Lib.hid (below_grown (HB.out.alloc (by omega) (.cells #[.int .i64 (k : Nat)] 3)) hgrow7 (fun g hg => (World.ownsRow.lt X4.out g hg).1) (by omega))
            have hlt2 : y.heap.size < w7.heap.size := by have := hgrow7.size; omega
            clear hown7 hgrow7 hat7 hint hle X4 HB
            go_wp2_with fail
            go_roundw
            case rel => exact ⟨k + 1, by go_num, by omega, HR2, HB2, hlt2⟩
            case measure => simp [intOf]; omega
        · obtain rfl : k = 48 := by omega
          have hv := iv_row HR.out
          rw [hRU.out] at hv
          have HV := Lib.hid hv
          have hk2 : ¬ ((48 : Nat) : Int) < 48 := by omega
          clear HR hv
          go_wp2_with fail
          go_ret
          exact ⟨⟨_, rfl, HV.out⟩, HB.out⟩
end Go.Proofs.YthglciccejholaaDoor
end
