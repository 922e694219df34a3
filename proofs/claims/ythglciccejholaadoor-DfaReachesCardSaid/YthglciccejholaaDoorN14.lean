/- Package nfa. -/
import Derived.Test.YthglciccejholaaDoorProg
import Derived.Test.YthglciccejholaaDoorZ7
import Derived.WalkKit
import Derived.WalkLawsBesides
import Derived.WalkSpells
import Derived.Outline
import Derived.Lib.Walk
import Derived.Lib.Hide
import Derived.Lib.Slices
import Derived.Lib.Strings
import Derived.RegionTactic
import Derived.LoopTactic
import Derived.Below
import Derived.IntWalk
import Derived.Deep.QuietTactic
import Derived.BigQuiet
import Derived.Deep.MidRow
import Derived.Maps.AppendAt
import Derived.Laws.Rows
import Derived.Laws.Tables
import Derived.Deep.WholeRow
import Derived.Deep.Cut
import Derived.Deep.CutRange
import Derived.Lib.SliceRun
import Derived.Laws.MakeOwn
namespace Go.Proofs.YthglciccejholaaDoor
set_option linter.unusedSimpArgs false
set_option linter.unusedVariables false
set_option maxRecDepth 100000
open Go.RowKit
/- Accepts. -/
theorem info4b : (Tryd.prog.info? 4).map (fun i => (i.zero, i.size, i.bytes)) = some (some (.bool false), 1, 1) := by kernel_rfl
theorem made_b (n : Nat) : madeCells #[Value.bool false] n = mkb n [] := by
  apply Array.ext_getElem?
  intro i
  by_cases hi : i < n
  · rw [mkb_get hi]
    simp [madeCells, hi, Nat.mod_one]
  · rw [Array.getElem?_eq_none (by simp [madeCells]; omega), Array.getElem?_eq_none (by rw [mkb_size]; omega)]
theorem make_b (n : Nat) (hn : n ≤ 4096) (w : World) : (Instr.makeSlice 69 (.int .i64 (n : Nat)) (.int .i64 (n : Nat))).run Tryd.prog w = .ok (.slice (some ⟨w.heap.size, 0, none⟩) n n) (w.alloc (.cells (mkb n []) 4)) := by
  obtain ⟨i0, hi, hz0, hz1, hz2⟩ := info_parts info4b
  have h := run_makeSlice (P := Tryd.prog) w 69 4 i0 (.bool false) Tryd.underlying69 hi hz0 .i64 .i64 (n : Int) (n : Int) (by omega) (by omega) (by rw [hz1]; omega) (by rw [hz2]; omega) (by omega)
  rw [h, hz1]
  have e : madeCells (Value.bool false).cells ((n : Int).toNat * 1) = mkb n [] := by
    rw [Int.toNat_natCast, Nat.mul_one]; exact made_b n
  rw [e, Int.toNat_natCast]
theorem bfront (sl am : Value) (hs : ∃ p n c, sl = .slice p n c) (ha : ∃ p n c, am = .slice p n c) : Tryd.prog.built 84 [(0, sl), (2, am)] = some #[sl, .slice none 0 0, am] := by
  obtain ⟨p, n, c, rfl⟩ := hs
  obtain ⟨p', n', c', rfl⟩ := ha
  kernel_rfl
theorem info73 : (Tryd.prog.info? 84).map (fun i => (i.zero, i.size)) = some (some (.agg #[.slice none 0 0, .slice none 0 0, .slice none 0 0]), 3) := by kernel_rfl
theorem zero73 (w : World) : (zeroValue 84).run Tryd.prog w = .ok (.agg #[.slice none 0 0, .slice none 0 0, .slice none 0 0]) w := (zero_of_info info73).1 w
set_option maxHeartbeats 8000000 in
theorem acc_err {D : Nat → Prop} {w : World} {st : Int} {ss : List Nst} {q : Option Addr} {c : Nat} {s : ByteArray} (hD : ∀ b, D b → b < w.heap.size) (hSV : SV D w ss (.slice q ss.length c)) (hfl : ∀ s ∈ ss, s.fr.length ≤ 9223372036854775806) (hln : ss.length ≤ 9223372036854775806) (hch : chkN st ss ≠ 0) :
    Calls Tryd.prog 15 #[nV st q ss.length c, .string s] w fun e w' => e = .returned (.tuple #[.slice none 0 0, .int .i64 (chkN st ss)]) ∧ Below w.heap.size w w' := by
  have S0 := Lib.hid ((Sb.start w).alloc (.cells #[.int .i64 st, .slice q ss.length c] 33))
  have HT := Lib.hid fun z (hb : Below w.heap.size w z) => check_any (w := z) (st := st) (fun b h => Nat.lt_of_lt_of_le (hD b h) hb.size) (hSV.mono (fun b h => h) (fun b h _ => hb.block b (hD b h))) hfl hln
  unfold nV at HT
  unfold nV
  have hne : (chkN st ss != 0) = true := by simpa using hch
  generalize chkN st ss = k at *
  clear hSV hD hfl hch
  go_enter Tryd.func15, Tryd.ntmps15
  go_wp2_with fail
  refine (HT.out _ S0.out.1).mono ?_
  rintro _ w3 ⟨rfl, hb3⟩
  have S3 := Lib.hid (S0.out.up hb3)
  clear hb3 S0
  go_wp2_with fail
  exact bodyPost_ret (v := .tuple #[.slice none 0 0, .int .i64 k]) (by simp [results, Tryd.results15, go_sem]) rfl ⟨rfl, S3.out.1⟩
theorem FR.fg {B : Nat} {w0 y : World} {F A n : Nat} {stp sl : Value} {la l : List Nat} (h : FR B w0 y F A stp n la l sl) (hn : l ≠ []) : ∃ g cap cs, sl = .slice (some ⟨g, 0, none⟩) l.length cap ∧ FG B w0 y F A stp n la l g cap cs := by
  obtain ⟨g, cap, cs, rfl, h1, h2, h3, h4, h5, h6⟩ := h.reb hn
  exact ⟨g, cap, cs, rfl, ⟨h.bel, h.f, h.a, h2, h5, h4, h6, h.hF, h.hA, h1, h.fa, fun e => h.sF (by simp [Value.ownBlock, e]), fun e => h.sA (by simp [Value.ownBlock, e]), h.sz⟩⟩
theorem chk_ok {st : Int} {ss : List Nst} (h : chkN st ss = 0) : mayN st ss = true ∧ tooM ss = false := by
  unfold chkN at h
  by_cases h1 : tooM ss = true
  · rw [if_pos h1] at h; cases h
  · rw [if_neg h1] at h
    by_cases h2 : mayN st ss = true
    · exact ⟨h2, by simpa using h1⟩
    · rw [if_neg h2] at h; cases h
theorem mayN_each {st : Int} {ss : List Nst} (h : mayN st ss = true) : InB ss ∧ (∀ s ∈ ss, s.to < ss.length) ∧ (∀ s ∈ ss, s.rl < 48) := by
  unfold mayN at h
  simp only [Bool.and_eq_true, List.all_eq_true] at h
  have h3 := h.2
  have g : ∀ s ∈ ss, s.to < ss.length ∧ s.rl < 48 ∧ ∀ x ∈ s.fr, 0 ≤ x ∧ x < ss.length := fun s hs => by
    have := h3 s hs
    unfold stOk at this
    simp only [Bool.and_eq_true, decide_eq_true_eq, List.all_eq_true] at this
    exact ⟨this.1, this.2.1, fun x hx => this.2.2 x hx⟩
  refine ⟨fun s x hx => ?_, fun s hs => (g s hs).1, fun s hs => (g s hs).2.1⟩
  unfold frOf at hx
  cases hs : ss[s]? with
  | none => rw [hs] at hx; cases hx
  | some y => rw [hs] at hx; exact (g y (List.mem_of_getElem? hs)).2.2 x hx
set_option maxHeartbeats 8000000 in
theorem acc_ok {D : Nat → Prop} {w : World} {st : Int} {ss : List Nst} {q : Option Addr} {c : Nat} {s : ByteArray} (hD : ∀ b, D b → b < w.heap.size) (hSV : SV D w ss (.slice q ss.length c)) (hfl : ∀ s ∈ ss, s.fr.length ≤ 9223372036854775806) (hln : ss.length ≤ 4096) (hok : ∀ s ∈ ss, okW s.u) (hs : s.size ≤ 9223372036854775806) (hch : chkN st ss = 0) :
    Calls Tryd.prog 15 #[nV st q ss.length c, .string s] w fun e w' => (∃ v, e = .returned (.tuple #[v, .int .i64 0]) ∧ IV (fun b => w.heap.size ≤ b ∧ b < w'.heap.size) w' (accL hasU st ss s.data.toList) v) ∧ Below w.heap.size w w' := by
  obtain ⟨hmay, -⟩ := chk_ok hch
  obtain ⟨hfine, hst0, hst1⟩ := mayN_fine hmay
  obtain ⟨m, rfl⟩ : ∃ m : Nat, st = (m : Int) := ⟨st.toNat, by omega⟩
  have hmn : m < ss.length := by omega
  obtain ⟨R, hR⟩ : ∃ R, runB hasU ss s.data.toList (goF ss (ss.length + 1) 0 [m]) = R := ⟨_, rfl⟩
  have hacc : accL hasU (m : Nat) ss s.data.toList = rulesOf ss R := by unfold accL; rw [Int.toNat_natCast, hR]
  rw [hacc]
  have HR := Lib.hid hR
  have HFI := Lib.hid hfine
  have HME := Lib.hid (mayN_each hmay)
  have HOK := Lib.hid hok
  have HFL := Lib.hid hfl
  clear hacc hR hmay hst0 hst1
  have S0 := Lib.hid ((Sb.start w).alloc (.cells #[.int .i64 (m : Nat), .slice q ss.length c] 33))
  have HT := Lib.hid fun z (hb : Below w.heap.size w z) => check_any (w := z) (st := (m : Nat)) (fun b h => Nat.lt_of_lt_of_le (hD b h) hb.size) (hSV.mono (fun b h => h) (fun b h _ => hb.block b (hD b h))) hfl (by omega)
  unfold nV at HT
  unfold nV
  rw [hch] at HT
  have hmk := fun w => make_b ss.length hln w
  have hz := zero73
  go_enter Tryd.func15, Tryd.ntmps15
  go_wp2_with fail
  refine (HT.out _ S0.out.1).mono ?_
  rintro _ w3 ⟨rfl, hb3⟩
  have S3 := Lib.hid (S0.out.up hb3)
  clear hb3 S0 HT
  have c0 : w3.cell? ⟨w.heap.size, 0, none⟩ = some (.int .i64 (m : Nat)) := S3.out.cell 0
  have c1 : w3.cell? ⟨w.heap.size, 1, none⟩ = some (.slice q ss.length c) := S3.out.cell 1
  have hlt3 : w.heap.size < w3.heap.size := S3.out.lt
  have HSV3 : Hid (SV (fun b => b < w3.heap.size) w3 ss (.slice q ss.length c)) := Lib.hid (hSV.mono (fun b h => by have := hD b h; omega) (fun b h _ => S3.out.1.block b (hD b h)))
  have ca : ∀ o, (w3.alloc o).cell? ⟨w.heap.size, 1, none⟩ = some (.slice q ss.length c) := fun o => (cell_same (heap_alloc_old w3 o hlt3) 1).trans c1
  have cb : ∀ o o', ((w3.alloc o).alloc o').cell? ⟨w.heap.size, 1, none⟩ = some (.slice q ss.length c) := fun o o' => (cell_same (heap_alloc_old _ o' (by simp; omega)) 1).trans (ca o)
  go_upto_region 4 with fail
  go_region
  · have hz9 : FR w3.heap.size w3 (((w3.alloc (.cells (mkb ss.length []) 4)).alloc (.cells #[.slice q ss.length c, .slice none 0 0, .slice (some ⟨w3.heap.size, 0, none⟩) ss.length ss.length] 84)).drew) (w3.heap.size + 1) w3.heap.size (.slice q ss.length c) ss.length [] [] (.slice none 0 0) := ⟨below_drewN (((Below.refl w3.heap.size w3).alloc (Nat.le_refl _) _).alloc (by simp) _) 1, by
        have h9 := heap_alloc_last (w3.alloc (.cells (mkb ss.length []) 4)) (.cells #[.slice q ss.length c, .slice none 0 0, .slice (some ⟨w3.heap.size, 0, none⟩) ss.length ss.length] 84); rw [show (w3.alloc (.cells (mkb ss.length []) 4)).heap.size = w3.heap.size + 1 by simp] at h9; exact h9, by
        exact (heap_alloc_old (w3.alloc (.cells (mkb ss.length []) 4)) (.cells #[.slice q ss.length c, .slice none 0 0, .slice (some ⟨w3.heap.size, 0, none⟩) ss.length ss.length] 84) (by simp)).trans (heap_alloc_last w3 (.cells (mkb ss.length []) 4)), ⟨rfl, .inl ⟨rfl, rfl⟩⟩, by omega, by omega, by omega, by simp [Value.ownBlock], by simp [Value.ownBlock], by simp [World.drew]; omega⟩
    refine at_worldQ (fun z => FR w3.heap.size w3 z (w3.heap.size + 1) w3.heap.size (.slice q ss.length c) ss.length [] [] (.slice none 0 0)) hz9 fun z hz => ?_
    have H1 := Lib.hid hz
    have c0 : z.cell? ⟨w.heap.size, 0, none⟩ = some (.int .i64 (m : Nat)) := (cell_same (hz.bel.block _ hlt3) 0).trans c0
    have HC := Lib.hid (reach_any (s := m) hz hmn hln (by simp))
    rw [show rch [] m = [m] by simp [rch]] at HC
    clear hz hz9 ca cb c1
    go_wp2_with fail
    refine HC.out.mono ?_
    rintro _ z1 ⟨rfl, sl1, h1⟩
    have H2 := Lib.hid h1
    have hl1 : ∀ s ∈ [m], s < ss.length := fun s hs => by simp at hs; omega
    have HC2 := Lib.hid (goFree_any h1 hln rfl HSV3.out HME.out.1 HFL.out (by simp) hl1)
    have n2 := goF_all HFI.out (l := [m]) (by simp) hl1
    have HND := Lib.hid n2.1
    have HLT := Lib.hid (goF_lt HFI.out (by simp) hl1)
    clear h1 HC H1 n2 c0
    go_wp2_with fail
    refine HC2.out.mono ?_
    rintro _ z2 ⟨rfl, sl2, h2⟩
    have H3 : Hid (∃ sl, FR w3.heap.size w3 z2 (w3.heap.size + 1) w3.heap.size (.slice q ss.length c) ss.length (goF ss (ss.length + 1) 0 [m]) (goF ss (ss.length + 1) 0 [m]) sl) := Lib.hid ⟨_, h2⟩
    clear h2 HC2 H2
    generalize goF ss (ss.length + 1) 0 [m] = l0 at *
    go_wp2_with fail
    go_loopw [8] (fun i wr => ∃ (j : Nat) (l : List Nat), i = .int .i64 (j : Nat) ∧ j ≤ s.size ∧ Hid (runB hasU ss (s.data.toList.drop j) l = R) ∧ Hid (∃ sl, FR w3.heap.size w3 wr (w3.heap.size + 1) w3.heap.size (.slice q ss.length c) ss.length l l sl) ∧ Hid l.Nodup ∧ Hid (∀ s ∈ l, s < ss.length)) (fun i _ => s.size - (intOf i).toNat)
    case atStart => exact ⟨0, l0, rfl, by omega, Lib.hid (by rw [List.drop_zero]; exact HR.out), H3, HND, HLT⟩
    case round =>
    clear HR H3 HND HLT
    obtain ⟨j, l, rfl, hj, HR, HE, HND, HLT⟩ := hrel
    obtain ⟨wo, rfl⟩ : ∃ wo : World, wo = wr := ⟨_, rfl⟩
    obtain ⟨sl, hfr⟩ := HE.out
    have H := Lib.hid hfr
    obtain ⟨p1, cc1, rfl⟩ := row_form hfr.row
    have cF : wo.cell? ⟨(w3.heap.size + 1), 1, none⟩ = some (.slice p1 l.length cc1) := cell_of_row wo _ 1 _ 84 (0, 0) hfr.f
    have hll : l.length ≤ ss.length := nd_len HND.out HLT.out
    clear hfr HE
    by_cases hend : j < s.size ∧ l ≠ []
    · obtain ⟨hlt, hne⟩ := hend
      have hlp : 0 < l.length := List.length_pos_iff.2 hne
      have hlt' : j < s.data.toList.length := by simpa using hlt
      obtain ⟨b, hb⟩ : ∃ b, s.data.toList[j] = b := ⟨_, rfl⟩
      have hg : ∀ h, s[j]'h = b := fun h => hb
      have hltI : (j : Int) < (s.size : Int) := by omega
      have hlpI : (0 : Int) < (l.length : Int) := by omega
      have hrun : runB hasU ss (s.data.toList.drop (j + 1)) (goF ss (ss.length + 1) 0 (goB hasU ss b l [])) = R := by
        rw [← HR.out, List.drop_eq_getElem_cons hlt', hb, runB, if_neg hne]
      have HRUN := Lib.hid hrun
      obtain ⟨g, cap, cs, hsl, hfg⟩ := H.out.fg hne
      cases hsl
      have HC := Lib.hid (goBy_any b hfg hne (by omega) hln rfl HSV3.out HME.out.2.1 HOK.out HLT.out)
      clear hb hrun hfg HR
      go_wp2_with fail
      refine HC.out.mono ?_
      rintro _ z3 ⟨rfl, cs3, h3⟩
      have n1 : (goB hasU ss b l []).Nodup := goB_nd (by simp)
      have n2 : ∀ t ∈ goB hasU ss b l [], t < ss.length := fun t ht => by
        rcases mem_goB.1 ht with h | ⟨s, _, h⟩
        · cases h
        · exact HFI.out.to _ _ _ _ h
      have HC2 := Lib.hid (goFree_any h3.fr hln rfl HSV3.out HME.out.1 HFL.out n1 n2)
      have HND2 := Lib.hid (goF_all HFI.out n1 n2).1
      have HLT2 := Lib.hid (goF_lt HFI.out n1 n2)
      clear h3 n1 n2 HC H cF
      go_wp2_with fail
      refine HC2.out.mono ?_
      rintro _ z4 ⟨rfl, sl4, h4⟩
      have H4 : Hid (∃ sl, FR w3.heap.size w3 z4 (w3.heap.size + 1) w3.heap.size (.slice q ss.length c) ss.length (goF ss (ss.length + 1) 0 (goB hasU ss b l [])) (goF ss (ss.length + 1) 0 (goB hasU ss b l [])) sl) := Lib.hid ⟨_, h4⟩
      clear h4 HC2
      go_wp2_with fail
      go_roundw
      case rel => exact ⟨j + 1, _, by go_num, by omega, HRUN, H4, HND2, HLT2⟩
      case measure => simp [intOf]; omega
    · have hr : l = R := by
        rw [← HR.out]
        by_cases hlt : j < s.size
        · have hl0 : l = [] := Classical.byContradiction fun h => hend ⟨hlt, h⟩
          have hlt' : j < s.data.toList.length := by simpa using hlt
          rw [List.drop_eq_getElem_cons hlt', runB, if_pos hl0, hl0]
        · rw [List.drop_of_length_le (by simp; omega), runB]
      subst hr
      have HC := Lib.hid (rules_any H.out hln (by omega) rfl HSV3.out HME.out.2.2 HLT.out)
      have HB := Lib.hid (S3.out.1.trans (H.out.bel.mono S3.out.1.size))
      have hsz4 := H.out.bel.size
      have hcond : (decide ((j : Int) < (s.size : Int)) && decide ((0 : Int) < (l.length : Int))) = false := by
        by_cases hlt : j < s.size
        · have hl0 : l = [] := Classical.byContradiction fun h => hend ⟨hlt, h⟩
          subst hl0; simp
        · rw [show decide ((j : Int) < (s.size : Int)) = false by simp; omega]; rfl
      clear HR H
      by_cases hlt : j < s.size
      · have hltI : (j : Int) < (s.size : Int) := by omega
        have hl0 : ¬ (0 : Int) < (l.length : Int) := by intro h; exact hend ⟨hlt, fun e => by subst e; simp at h⟩
        clear hend hcond
        go_wp2_with fail
        refine HC.out.mono ?_
        rintro _ z5 ⟨⟨v, rfl, hv⟩, hb5⟩
        have HV := Lib.hid hv
        have HB5 := Lib.hid (HB.out.trans (hb5.mono HB.out.size))
        clear hv hb5 HC HB
        have hsz5 : w.heap.size ≤ wo.heap.size := by omega
        go_wp2_with fail
        exact bodyPost_ret (v := .tuple #[v, .int .i64 0]) (by simp [results, Tryd.results15, go_sem]) rfl ⟨⟨_, rfl, HV.out.mono (fun b h => ⟨by omega, h.2⟩) (fun b h _ => rfl)⟩, HB5.out⟩
      · have hltI : ¬ (j : Int) < (s.size : Int) := by omega
        clear hend hcond
        go_wp2_with fail
        refine HC.out.mono ?_
        rintro _ z5 ⟨⟨v, rfl, hv⟩, hb5⟩
        have HV := Lib.hid hv
        have HB5 := Lib.hid (HB.out.trans (hb5.mono HB.out.size))
        clear hv hb5 HC HB
        have hsz5 : w.heap.size ≤ wo.heap.size := by omega
        go_wp2_with fail
        exact bodyPost_ret (v := .tuple #[v, .int .i64 0]) (by simp [results, Tryd.results15, go_sem]) rfl ⟨⟨_, rfl, HV.out.mono (fun b h => ⟨by omega, h.2⟩) (fun b h _ => rfl)⟩, HB5.out⟩
  · have hz9 : FR w3.heap.size w3 (((w3.alloc (.cells #[.slice q ss.length c, .slice none 0 0, .slice (some ⟨(w3.heap.size + 1), 0, none⟩) ss.length ss.length] 84)).alloc (.cells (mkb ss.length []) 4)).drew) w3.heap.size (w3.heap.size + 1) (.slice q ss.length c) ss.length [] [] (.slice none 0 0) := ⟨below_drewN (((Below.refl w3.heap.size w3).alloc (Nat.le_refl _) _).alloc (by simp) _) 1, by
        exact (heap_alloc_old (w3.alloc (.cells #[.slice q ss.length c, .slice none 0 0, .slice (some ⟨(w3.heap.size + 1), 0, none⟩) ss.length ss.length] 84)) (.cells (mkb ss.length []) 4) (by simp)).trans (heap_alloc_last w3 (.cells #[.slice q ss.length c, .slice none 0 0, .slice (some ⟨(w3.heap.size + 1), 0, none⟩) ss.length ss.length] 84)), by
        have h9 := heap_alloc_last (w3.alloc (.cells #[.slice q ss.length c, .slice none 0 0, .slice (some ⟨(w3.heap.size + 1), 0, none⟩) ss.length ss.length] 84)) (.cells (mkb ss.length []) 4); rw [show (w3.alloc (.cells #[.slice q ss.length c, .slice none 0 0, .slice (some ⟨(w3.heap.size + 1), 0, none⟩) ss.length ss.length] 84)).heap.size = w3.heap.size + 1 by simp] at h9; exact h9, ⟨rfl, .inl ⟨rfl, rfl⟩⟩, by omega, by omega, by omega, by simp [Value.ownBlock], by simp [Value.ownBlock], by simp [World.drew]; omega⟩
    refine at_worldQ (fun z => FR w3.heap.size w3 z w3.heap.size (w3.heap.size + 1) (.slice q ss.length c) ss.length [] [] (.slice none 0 0)) hz9 fun z hz => ?_
    have H1 := Lib.hid hz
    have c0 : z.cell? ⟨w.heap.size, 0, none⟩ = some (.int .i64 (m : Nat)) := (cell_same (hz.bel.block _ hlt3) 0).trans c0
    have HC := Lib.hid (reach_any (s := m) hz hmn hln (by simp))
    rw [show rch [] m = [m] by simp [rch]] at HC
    clear hz hz9 ca cb c1
    go_wp2_with fail
    refine HC.out.mono ?_
    rintro _ z1 ⟨rfl, sl1, h1⟩
    have H2 := Lib.hid h1
    have hl1 : ∀ s ∈ [m], s < ss.length := fun s hs => by simp at hs; omega
    have HC2 := Lib.hid (goFree_any h1 hln rfl HSV3.out HME.out.1 HFL.out (by simp) hl1)
    have n2 := goF_all HFI.out (l := [m]) (by simp) hl1
    have HND := Lib.hid n2.1
    have HLT := Lib.hid (goF_lt HFI.out (by simp) hl1)
    clear h1 HC H1 n2 c0
    go_wp2_with fail
    refine HC2.out.mono ?_
    rintro _ z2 ⟨rfl, sl2, h2⟩
    have H3 : Hid (∃ sl, FR w3.heap.size w3 z2 w3.heap.size (w3.heap.size + 1) (.slice q ss.length c) ss.length (goF ss (ss.length + 1) 0 [m]) (goF ss (ss.length + 1) 0 [m]) sl) := Lib.hid ⟨_, h2⟩
    clear h2 HC2 H2
    generalize goF ss (ss.length + 1) 0 [m] = l0 at *
    go_wp2_with fail
    go_loopw [8] (fun i wr => ∃ (j : Nat) (l : List Nat), i = .int .i64 (j : Nat) ∧ j ≤ s.size ∧ Hid (runB hasU ss (s.data.toList.drop j) l = R) ∧ Hid (∃ sl, FR w3.heap.size w3 wr w3.heap.size (w3.heap.size + 1) (.slice q ss.length c) ss.length l l sl) ∧ Hid l.Nodup ∧ Hid (∀ s ∈ l, s < ss.length)) (fun i _ => s.size - (intOf i).toNat)
    case atStart => exact ⟨0, l0, rfl, by omega, Lib.hid (by rw [List.drop_zero]; exact HR.out), H3, HND, HLT⟩
    case round =>
    clear HR H3 HND HLT
    obtain ⟨j, l, rfl, hj, HR, HE, HND, HLT⟩ := hrel
    obtain ⟨wo, rfl⟩ : ∃ wo : World, wo = wr := ⟨_, rfl⟩
    obtain ⟨sl, hfr⟩ := HE.out
    have H := Lib.hid hfr
    obtain ⟨p1, cc1, rfl⟩ := row_form hfr.row
    have cF : wo.cell? ⟨w3.heap.size, 1, none⟩ = some (.slice p1 l.length cc1) := cell_of_row wo _ 1 _ 84 (0, 0) hfr.f
    have hll : l.length ≤ ss.length := nd_len HND.out HLT.out
    clear hfr HE
    by_cases hend : j < s.size ∧ l ≠ []
    · obtain ⟨hlt, hne⟩ := hend
      have hlp : 0 < l.length := List.length_pos_iff.2 hne
      have hlt' : j < s.data.toList.length := by simpa using hlt
      obtain ⟨b, hb⟩ : ∃ b, s.data.toList[j] = b := ⟨_, rfl⟩
      have hg : ∀ h, s[j]'h = b := fun h => hb
      have hltI : (j : Int) < (s.size : Int) := by omega
      have hlpI : (0 : Int) < (l.length : Int) := by omega
      have hrun : runB hasU ss (s.data.toList.drop (j + 1)) (goF ss (ss.length + 1) 0 (goB hasU ss b l [])) = R := by
        rw [← HR.out, List.drop_eq_getElem_cons hlt', hb, runB, if_neg hne]
      have HRUN := Lib.hid hrun
      obtain ⟨g, cap, cs, hsl, hfg⟩ := H.out.fg hne
      cases hsl
      have HC := Lib.hid (goBy_any b hfg hne (by omega) hln rfl HSV3.out HME.out.2.1 HOK.out HLT.out)
      clear hb hrun hfg HR
      go_wp2_with fail
      refine HC.out.mono ?_
      rintro _ z3 ⟨rfl, cs3, h3⟩
      have n1 : (goB hasU ss b l []).Nodup := goB_nd (by simp)
      have n2 : ∀ t ∈ goB hasU ss b l [], t < ss.length := fun t ht => by
        rcases mem_goB.1 ht with h | ⟨s, _, h⟩
        · cases h
        · exact HFI.out.to _ _ _ _ h
      have HC2 := Lib.hid (goFree_any h3.fr hln rfl HSV3.out HME.out.1 HFL.out n1 n2)
      have HND2 := Lib.hid (goF_all HFI.out n1 n2).1
      have HLT2 := Lib.hid (goF_lt HFI.out n1 n2)
      clear h3 n1 n2 HC H cF
      go_wp2_with fail
      refine HC2.out.mono ?_
      rintro _ z4 ⟨rfl, sl4, h4⟩
      have H4 : Hid (∃ sl, FR w3.heap.size w3 z4 w3.heap.size (w3.heap.size + 1) (.slice q ss.length c) ss.length (goF ss (ss.length + 1) 0 (goB hasU ss b l [])) (goF ss (ss.length + 1) 0 (goB hasU ss b l [])) sl) := Lib.hid ⟨_, h4⟩
      clear h4 HC2
      go_wp2_with fail
      go_roundw
      case rel => exact ⟨j + 1, _, by go_num, by omega, HRUN, H4, HND2, HLT2⟩
      case measure => simp [intOf]; omega
    · have hr : l = R := by
        rw [← HR.out]
        by_cases hlt : j < s.size
        · have hl0 : l = [] := Classical.byContradiction fun h => hend ⟨hlt, h⟩
          have hlt' : j < s.data.toList.length := by simpa using hlt
          rw [List.drop_eq_getElem_cons hlt', runB, if_pos hl0, hl0]
        · rw [List.drop_of_length_le (by simp; omega), runB]
      subst hr
      have HC := Lib.hid (rules_any H.out hln (by omega) rfl HSV3.out HME.out.2.2 HLT.out)
      have HB := Lib.hid (S3.out.1.trans (H.out.bel.mono S3.out.1.size))
      have hsz4 := H.out.bel.size
      have hcond : (decide ((j : Int) < (s.size : Int)) && decide ((0 : Int) < (l.length : Int))) = false := by
        by_cases hlt : j < s.size
        · have hl0 : l = [] := Classical.byContradiction fun h => hend ⟨hlt, h⟩
          subst hl0; simp
        · rw [show decide ((j : Int) < (s.size : Int)) = false by simp; omega]; rfl
      clear HR H
      by_cases hlt : j < s.size
      · have hltI : (j : Int) < (s.size : Int) := by omega
        have hl0 : ¬ (0 : Int) < (l.length : Int) := by intro h; exact hend ⟨hlt, fun e => by subst e; simp at h⟩
        clear hend hcond
        go_wp2_with fail
        refine HC.out.mono ?_
        rintro _ z5 ⟨⟨v, rfl, hv⟩, hb5⟩
        have HV := Lib.hid hv
        have HB5 := Lib.hid (HB.out.trans (hb5.mono HB.out.size))
        clear hv hb5 HC HB
        have hsz5 : w.heap.size ≤ wo.heap.size := by omega
        go_wp2_with fail
        exact bodyPost_ret (v := .tuple #[v, .int .i64 0]) (by simp [results, Tryd.results15, go_sem]) rfl ⟨⟨_, rfl, HV.out.mono (fun b h => ⟨by omega, h.2⟩) (fun b h _ => rfl)⟩, HB5.out⟩
      · have hltI : ¬ (j : Int) < (s.size : Int) := by omega
        clear hend hcond
        go_wp2_with fail
        refine HC.out.mono ?_
        rintro _ z5 ⟨⟨v, rfl, hv⟩, hb5⟩
        have HV := Lib.hid hv
        have HB5 := Lib.hid (HB.out.trans (hb5.mono HB.out.size))
        clear hv hb5 HC HB
        have hsz5 : w.heap.size ≤ wo.heap.size := by omega
        go_wp2_with fail
        exact bodyPost_ret (v := .tuple #[v, .int .i64 0]) (by simp [results, Tryd.results15, go_sem]) rfl ⟨⟨_, rfl, HV.out.mono (fun b h => ⟨by omega, h.2⟩) (fun b h _ => rfl)⟩, HB5.out⟩
end Go.Proofs.YthglciccejholaaDoor
