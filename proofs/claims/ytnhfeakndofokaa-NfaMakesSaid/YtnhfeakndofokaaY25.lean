/- Texts of package regs, one behind the other. -/
import Derived.Test.YtnhfeakndofokaaProg
import Derived.Test.YtnhfeakndofokaaY24
import Derived.WalkKit
import Derived.WalkLawsBesides
import Derived.WalkSpells
import Derived.Outline
import Derived.Lib.Walk
import Derived.Lib.Hide
import Derived.Lib.Slices
import Derived.Lib.Strings
import Derived.RegionTactic
import Derived.LoopTactic
import Derived.Below
import Derived.IntWalk
import Derived.Deep.QuietTactic
import Derived.BigQuiet
import Derived.Deep.MidRow
import Derived.Maps.AppendAt
import Derived.Laws.Rows
import Derived.Laws.Tables
import Derived.Deep.WholeRow
import Derived.Deep.Cut
import Derived.Deep.CutRange
import Derived.Lib.SliceRun
import Derived.Laws.MakeOwn
import Derived.Deep.RegionLaw
import Derived.Deep.RegionLawGrows
import Derived.Deep.RegionHeld3
import Derived.RegionCalls
import Derived.Deep.RegionWith
import Derived.Deep.Light
section
/- Package nfa. -/
namespace Go.Proofs.Ytnhfeakndofokaa
set_option linter.unusedSimpArgs false
set_option linter.unusedVariables false
set_option maxRecDepth 100000
open Go.RowKit
/- The document's Go. -/
theorem Acc.snoc {has : (Nat → Int) → UInt8 → Bool} {ss : List Nst} {b : UInt8} : ∀ {x : List UInt8} {m s : Nat}, Acc has ss (x ++ [b]) m s ↔ ∃ a t, Acc has ss x m a ∧ toOf has ss b a = some t ∧ Rt ss t s
  | [], m, s => Iff.rfl
  | c :: r, m, s => by
    constructor
    · rintro ⟨a, t, h1, h2, h3⟩
      obtain ⟨a', t', h4, h5, h6⟩ := Acc.snoc.1 h3
      exact ⟨a', t', ⟨a, t, h1, h2, h4⟩, h5, h6⟩
    · rintro ⟨a', t', ⟨a, t, h1, h2, h4⟩, h5, h6⟩
      exact ⟨a, t, h1, h2, Acc.snoc.2 ⟨a', t', h4, h5, h6⟩⟩
def Gi (ss : List Nst) (b : UInt8) (f h : Nat → Bool) (j : Nat) : Prop := ∀ t, t < ss.length → (h t = true ↔ ∃ i, i < j ∧ f i = true ∧ toOf hasU ss b i = some t)
theorem Gi.none {ss : List Nst} {b : UInt8} {f h : Nat → Bool} {j : Nat} (g : Gi ss b f h j) (hn : f j = false ∨ toOf hasU ss b j = Option.none) : Gi ss b f h (j + 1) := fun t ht => by
  rw [g t ht]
  constructor
  · rintro ⟨i, h1, h2⟩; exact ⟨i, by omega, h2⟩
  · rintro ⟨i, h1, h2, h3⟩
    by_cases e : i = j
    · subst e
      rcases hn with hn | hn
      · rw [hn] at h2; cases h2
      · rw [hn] at h3; cases h3
    · exact ⟨i, by omega, h2, h3⟩
theorem Gi.some {ss : List Nst} {b : UInt8} {f h : Nat → Bool} {j t : Nat} (g : Gi ss b f h j) (hf : f j = true) (ht : toOf hasU ss b j = some t) : Gi ss b f (upd h t) (j + 1) := fun s hs => by
  unfold upd
  simp only [Bool.or_eq_true, beq_iff_eq]
  rw [g s hs]
  constructor
  · rintro (⟨i, h1, h2⟩ | rfl)
    · exact ⟨i, by omega, h2⟩
    · exact ⟨j, by omega, hf, ht⟩
  · rintro ⟨i, h1, h2, h3⟩
    by_cases e : i = j
    · subst e
      rw [ht] at h3
      exact .inr (Option.some.inj h3).symm
    · exact .inl ⟨i, by omega, h2, h3⟩
theorem ft_new {w y : World} {box : Obj} {n : Nat} (h : Sb w y [(w.heap.size + 1, .cells (mkb n []) 4), (w.heap.size, box)]) : FT w box (w.heap.size + 1) n (fun _ => false) y :=
  ⟨h.1, h.tl.heap, by omega, mkb n [], h.heap, by rw [mkb_size]; exact Nat.le_refl _, fun i hi => by rw [mkb_get hi]; simp⟩
theorem FT.bv' {w : World} {box : Obj} {g n cap : Nat} {f : Nat → Bool} {y : World} (h : FT w box g n f y) : BV (fun b => b < y.heap.size) y n f (.slice (some ⟨g, 0, none⟩) n cap) := by
  obtain ⟨b, o, c, e, hb, hc⟩ := h.bv (cap := cap)
  exact ⟨b, o, c, e, hb.2, hc⟩
set_option maxHeartbeats 16000000 in
theorem rgo_any {D E : Nat → Prop} {w : World} {m : Nat} {ss : List Nst} {q : Option Addr} {c : Nat} {f : Nat → Bool} {vin : Value} {x : List UInt8} (b : UInt8) (hm : m < ss.length) (hln : ss.length ≤ 4096) (hD : ∀ b, D b → b < w.heap.size) (hE : ∀ b, E b → b < w.heap.size) (hSV : SV D w ss (.slice q ss.length c)) (hfi : Fine ss) (hin : InB ss) (hfl : ∀ s ∈ ss, s.fr.length ≤ 1000000) (hok : ∀ s ∈ ss, okW s.u) (hto : ∀ s ∈ ss, s.to < ss.length) (hV : BV E w ss.length f vin) (hL : Leads ss m x f) :
    Calls Try.prog 46 #[nV (m : Nat) q ss.length c, vin, .int .u8 b.toNat] w fun e w' => (∃ v f', e = .returned v ∧ Leads ss m (x ++ [b]) f' ∧ BV (fun b => w.heap.size ≤ b ∧ b < w'.heap.size) w' ss.length f' v) ∧ Below w.heap.size w w' := by
  have hn0 : 0 < ss.length := by omega
  have hs0 := ((Sb.start w).alloc (.cells #[.int .i64 (m : Nat), .slice q ss.length c] 24)).alloc (.cells (mkb ss.length []) 4)
  have hs1 : (w.alloc (.cells #[.int .i64 (m : Nat), .slice q ss.length c] 24)).heap.size = w.heap.size + 1 := by simp
  rw [hs1] at hs0
  have S0 := Lib.hid (ft_new hs0)
  have HF := Lib.hid fun (z : World) (h : Nat → Bool) (ht : FT w (.cells #[.int .i64 (m : Nat), .slice q ss.length c] 24) (w.heap.size + 1) ss.length h z) => rfree_any (D := D) (E := fun b => b < z.heap.size) (w := z) (st := (m : Nat)) (f0 := h) (vin := .slice (some ⟨w.heap.size + 1, 0, none⟩) ss.length ss.length) (by omega) hln (fun b h => Nat.lt_of_lt_of_le (hD b h) ht.1.size) (fun b h => h) (hSV.mono (fun b h => h) (fun b h _ => ht.1.block b (hD b h))) hfi hin hfl ht.bv'
  unfold nV at HF
  have hmk := fun w => make_b ss.length hln w
  obtain ⟨bi, oi, ci, rfl, hEi, hci⟩ := hV
  obtain ⟨q', c', he, hSV2⟩ := id hSV
  cases he
  obtain ⟨bb, o, rfl, hDb, hx⟩ := hSV2 (by intro e; subst e; simp at hn0)
  have hbw := hD bb hDb
  have hiw := hE bi hEi
  have HX := Lib.hid hx
  have HCI := Lib.hid hci
  have HOK := Lib.hid hok
  have HTO := Lib.hid hto
  have HG0 : Hid (Gi ss b f (fun _ => false) 0) := Lib.hid fun t ht => ⟨fun h => (by cases h), fun ⟨i, h, _⟩ => (by omega)⟩
  have HLD := Lib.hid hL
  have hz := zero49
  clear hs0 hSV hD hE hin hfl hok hto hSV2 hx hci hDb hEi hs1 hL
  unfold nV
  go_enter Try.func46, Try.ntmps46
  go_wp2_with (simp only [hmk])
  go_loopw [8] (fun i wr => ∃ (j : Nat) (h : Nat → Bool), i = .int .i64 (j : Nat) ∧ j ≤ ss.length ∧ Hid (FT w (.cells #[.int .i64 (m : Nat), .slice (some ⟨bb, o, none⟩) ss.length c] 24) (w.heap.size + 1) ss.length h wr) ∧ Hid (Gi ss b f h j)) (fun i _ => ss.length - (intOf i).toNat)
  case atStart => exact ⟨0, _, rfl, by omega, S0, HG0⟩
  case round =>
  clear S0 HG0
  obtain ⟨j, h, rfl, hj, HT, HG⟩ := hrel
  obtain ⟨wo, rfl⟩ : ∃ wo : World, wo = wr := ⟨_, rfl⟩
  by_cases hlt : j < ss.length
  · obtain ⟨qf, ff, hiv, hcell⟩ := HX.out j hlt
    have kb : wo.cell? ⟨w.heap.size, 1, none⟩ = some (.slice (some ⟨bb, o, none⟩) ss.length c) := cell_of_row wo _ 1 _ 24 (0, 0) HT.out.2.1
    have de : ∀ i y, (stC (ss[j]).u (ss[j]).to (.slice qf (ss[j]).fr.length ff) (ss[j]).rl)[i]? = some y → wo.cell? ⟨bb, o + j * 7 + i, none⟩ = some y := fun i y hy => (cell_same (HT.out.1.block bb hbw) _).trans (hcell i y hy)
    have cin : wo.cell? ⟨bi, oi + j, none⟩ = some (.bool (f j)) := (cell_same (HT.out.1.block bi hiw) _).trans (HCI.out j hlt)
    have hok := HOK.out ss[j] (List.getElem_mem hlt)
    have hto := HTO.out ss[j] (List.getElem_mem hlt)
    have htoOf : toOf hasU ss b j = if 0 ≤ (ss[j]).to ∧ hasU (ss[j]).u b = true then some (ss[j]).to.toNat else none := by unfold toOf; rw [List.getElem?_eq_getElem hlt]
    have HHAS : Hid (∀ z, Calls Try.prog 61 #[uV (ss[j]).u, .int .u8 b.toNat] z fun e w' => e = .returned (.bool (hasU (ss[j]).u b)) ∧ Below z.heap.size z w') := Lib.hid fun z => refhas_any hok b z
    generalize ss[j] = s at *
    obtain ⟨u, tg, fr, rl⟩ := s
    simp only at de hto htoOf hok hiv
    unfold uV at HHAS
    generalize hasU u b = hub at *
    obtain ⟨frl, hfrl⟩ : ∃ frl, fr.length = frl := ⟨_, rfl⟩
    rw [hfrl] at de
    have d0 : wo.cell? ⟨bb, o + j * 7, none⟩ = some (.int .u64 (u 0)) := de 0 _ rfl
    have d1 : wo.cell? ⟨bb, o + j * 7 + 1, none⟩ = some (.int .u64 (u 1)) := de 1 _ rfl
    have d2 : wo.cell? ⟨bb, o + j * 7 + 2, none⟩ = some (.int .u64 (u 2)) := de 2 _ rfl
    have d3 : wo.cell? ⟨bb, o + j * 7 + 3, none⟩ = some (.int .u64 (u 3)) := de 3 _ rfl
    have d4 : wo.cell? ⟨bb, o + j * 7 + 4, none⟩ = some (.int .i64 tg) := de 4 _ rfl
    have d5 : wo.cell? ⟨bb, o + j * 7 + 5, none⟩ = some (.slice qf frl ff) := de 5 _ rfl
    have d6 : wo.cell? ⟨bb, o + j * 7 + 6, none⟩ = some (.int .i64 rl) := de 6 _ rfl
    have hltI : (j : Int) < (ss.length : Int) := by omega
    have hjI : ¬ (j : Int) < 0 := by omega
    have HTF := Lib.hid htoOf
    clear hcell hiv de htoOf hok hfrl
    have HT2 : Hid (FT w (.cells #[.int .i64 (m : Nat), .slice (some ⟨bb, o, none⟩) ss.length c] 24) (w.heap.size + 1) ss.length h (wo.alloc (.cells #[.int .u64 (u 0), .int .u64 (u 1), .int .u64 (u 2), .int .u64 (u 3), .int .i64 tg, .slice qf frl ff, .int .i64 rl] 49))) := Lib.hid (HT.out.up ((Below.refl wo.heap.size wo).alloc (Nat.le_refl _) (.cells #[.int .u64 (u 0), .int .u64 (u 1), .int .u64 (u 2), .int .u64 (u 3), .int .i64 tg, .slice qf frl ff, .int .i64 rl] 49)))
    have hbl : (wo.alloc (.cells #[.int .u64 (u 0), .int .u64 (u 1), .int .u64 (u 2), .int .u64 (u 3), .int .i64 tg, .slice qf frl ff, .int .i64 rl] 49)).heap[wo.heap.size]? = some (.cells #[.int .u64 (u 0), .int .u64 (u 1), .int .u64 (u 2), .int .u64 (u 3), .int .i64 tg, .slice qf frl ff, .int .i64 rl] 49) := heap_alloc_last wo _
    have hcin : ∀ y : World, Below w.heap.size w y → y.cell? ⟨bi, oi + j, none⟩ = some (.bool (f j)) := fun y hy => (cell_same (hy.block bi hiw) _).trans (HCI.out j hlt)
    have hzw : w.heap.size + 1 < wo.heap.size := by
      obtain ⟨_, _, _, cs, h1, _⟩ := HT.out
      exact (Array.getElem?_eq_some_iff.1 h1).1
    obtain ⟨X, hX⟩ : ∃ X, wo.heap.size = X := ⟨_, rfl⟩
    go_upto_region 6 with fail
    rw [hX] at hbl hzw
    refine at_world (fun y => FT w (.cells #[.int .i64 (m : Nat), .slice (some ⟨bb, o, none⟩) ss.length c] 24) (w.heap.size + 1) ss.length h y ∧ y.heap[X]? = some (.cells #[.int .u64 (u 0), .int .u64 (u 1), .int .u64 (u 2), .int .u64 (u 3), .int .i64 tg, .slice qf frl ff, .int .i64 rl] 49)) ⟨HT2.out, hbl⟩ fun y hy => ?_
    have HY := Lib.hid hy.1
    have cin := hcin y hy.1.1
    have e0 : y.cell? ⟨X, 0, none⟩ = some (.int .u64 (u 0)) := cell_of_row y X 0 _ 49 (0, 0) hy.2
    have e1 : y.cell? ⟨X, 1, none⟩ = some (.int .u64 (u 1)) := cell_of_row y X 1 _ 49 (0, 0) hy.2
    have e2 : y.cell? ⟨X, 2, none⟩ = some (.int .u64 (u 2)) := cell_of_row y X 2 _ 49 (0, 0) hy.2
    have e3 : y.cell? ⟨X, 3, none⟩ = some (.int .u64 (u 3)) := cell_of_row y X 3 _ 49 (0, 0) hy.2
    have e4 : y.cell? ⟨X, 4, none⟩ = some (.int .i64 tg) := cell_of_row y X 4 _ 49 (0, 0) hy.2
    have hXl : X < y.heap.size := (Array.getElem?_eq_some_iff.1 hy.2).1
    clear HT HT2 hbl hcin hX kb d0 d1 d2 d3 d4 d5 d6 hy
    obtain ⟨fj, hfj⟩ : ∃ fj, f j = fj := ⟨_, rfl⟩
    rw [hfj] at cin
    have HFJ := Lib.hid hfj
    clear hfj
    cases fj with
    | false =>
      have HG2 := Lib.hid (HG.out.none (.inl HFJ.out))
      clear HG HFJ HTF e0 e1 e2 e3 e4
      go_wp2_with fail
      go_roundw
      case rel => exact ⟨j + 1, h, by go_num, by omega, HY, HG2⟩
      case measure => simp [intOf]; omega
    | true =>
      by_cases htg : 0 ≤ tg
      · have htgI : ¬ tg < 0 := by omega
        obtain ⟨t, rfl⟩ : ∃ t : Nat, tg = (t : Nat) := ⟨tg.toNat, by omega⟩
        have htn : t < ss.length := by omega
        have htI : (t : Int) < (ss.length : Int) := by omega
        have HC := Lib.hid (HHAS.out y)
        clear HHAS
        cases hub with
        | false =>
          have HG2 := Lib.hid (HG.out.none (.inr (by rw [HTF.out]; simp)))
          clear HG HFJ HTF
          go_wp2_with fail
          refine HC.out.mono ?_
          rintro _ y2 ⟨rfl, hb2⟩
          have HY2 := Lib.hid (HY.out.up hb2)
          clear HY HC hb2 e0 e1 e2 e3 e4 cin
          go_wp2_with fail
          go_roundw
          case rel => exact ⟨j + 1, h, by go_num, by omega, HY2, HG2⟩
          case measure => simp [intOf]; omega
        | true =>
          have HG2 := Lib.hid (HG.out.some (t := t) HFJ.out (by rw [HTF.out]; simp))
          clear HG HFJ HTF
          go_wp2_with fail
          refine HC.out.mono ?_
          rintro _ y2 ⟨rfl, hb2⟩
          have HY2 := Lib.hid (HY.out.up hb2)
          have e4 : y2.cell? ⟨X, 4, none⟩ = some (.int .i64 (t : Nat)) := (cell_same (hb2.block X hXl) 4).trans e4
          have cg : y2.cell? ⟨w.heap.size + 1, t, none⟩ = some (.bool (h t)) := HY2.out.cell htn
          have cf : y2.frozen? ⟨w.heap.size + 1, t, none⟩ = false := HY2.out.free t
          have HY3 := Lib.hid (HY2.out.set htn)
          clear HY HY2 HC hb2 e0 e1 e2 e3 cin
          go_wp2_with fail
          go_roundw
          case rel => exact ⟨j + 1, _, by go_num, by omega, HY3, HG2⟩
          case measure => simp [intOf]; omega
      · have htgI : tg < 0 := by omega
        have HG2 := Lib.hid (HG.out.none (.inr (by rw [HTF.out, if_neg (fun h => htg h.1)])))
        clear HG HFJ HTF HHAS e0 e1 e2 e3
        go_wp2_with fail
        go_roundw
        case rel => exact ⟨j + 1, h, by go_num, by omega, HY, HG2⟩
        case measure => simp [intOf]; omega
  · obtain rfl : j = ss.length := by omega
    have hltI : ¬ (ss.length : Int) < (ss.length : Int) := by omega
    have HC := Lib.hid (HF.out wo h HT.out)
    have HB := Lib.hid HT.out.1
    have c0 : wo.cell? ⟨w.heap.size, 0, none⟩ = some (.int .i64 (m : Nat)) := cell_of_row wo _ 0 _ 24 (0, 0) HT.out.2.1
    have c1 : wo.cell? ⟨w.heap.size, 1, none⟩ = some (.slice (some ⟨bb, o, none⟩) ss.length c) := cell_of_row wo _ 1 _ 24 (0, 0) HT.out.2.1
    clear HT HF
    go_wp2_with fail
    refine HC.out.mono ?_
    rintro _ w3 ⟨⟨v, f', rfl, hf, hbv⟩, hb3⟩
    have HBV := Lib.hid hbv
    have HFF : Hid (Leads ss m (x ++ [b]) f') := Lib.hid fun s hs => by
      rw [hf s hs, Acc.snoc]
      constructor
      · rintro ⟨a, ha, h1, hr⟩
        obtain ⟨i, hi, hfi, hti⟩ := (HG.out a ha).1 h1
        exact ⟨i, a, (HLD.out i hi).1 hfi, hti, hr⟩
      · rintro ⟨i, a, h1, h2, hr⟩
        have hi := h1.lt hfi x hm
        have ha := hfi.to _ _ _ _ h2
        exact ⟨a, ha, (HG.out a ha).2 ⟨i, hi, (HLD.out i hi).2 h1, h2⟩, hr⟩
    have HB3 := Lib.hid (HB.out.trans (hb3.mono HB.out.size))
    have HSZ := Lib.hid HB.out.size
    clear hbv hf hb3 HC HB c0 c1 HG
    go_wp2_with fail
    go_ret
    exact ⟨⟨_, _, rfl, HFF.out, HBV.out.mono (by omega) (fun b h => ⟨Nat.le_trans HSZ.out h.1, h.2⟩) (fun b _ _ => rfl)⟩, HB3.out⟩
end Go.Proofs.Ytnhfeakndofokaa
end
section
/- Package nfa. -/
namespace Go.Proofs.Ytnhfeakndofokaa
set_option linter.unusedSimpArgs false
set_option linter.unusedVariables false
set_option maxRecDepth 100000
open Go.RowKit
/- The document's Rules. -/
def anyB (ss : List Nst) (f : Nat → Bool) (r : Nat) : Nat → Bool
  | 0 => false
  | j + 1 => anyB ss f r j || (f j && decide (rlOf ss j = (r : Int)))
theorem anyB_iff (ss : List Nst) (f : Nat → Bool) (r : Nat) : ∀ n, anyB ss f r n = true ↔ ∃ i, i < n ∧ f i = true ∧ rlOf ss i = (r : Int)
  | 0 => ⟨fun h => (by cases h), fun ⟨i, h, _⟩ => (by omega)⟩
  | n + 1 => by
    rw [anyB, Bool.or_eq_true, Bool.and_eq_true, decide_eq_true_eq, anyB_iff ss f r n]
    constructor
    · rintro (⟨i, h1, h2⟩ | h)
      · exact ⟨i, by omega, h2⟩
      · exact ⟨n, by omega, h⟩
    · rintro ⟨i, h1, h2⟩
      by_cases e : i = n
      · subst e; exact .inr h2
      · exact .inl ⟨i, by omega, h2⟩
theorem rules_ru {ss : List Nst} {f : Nat → Bool} {l : List Nat} (h : ∀ s, s ∈ l ↔ s < ss.length ∧ f s = true) : (ru (fun r => anyB ss f r ss.length) 48).map (fun (r : Nat) => (r : Int)) = rulesOf ss l := by
  unfold ru rulesOf
  congr 1
  refine List.filter_congr fun r _ => ?_
  rw [Bool.eq_iff_iff, anyB_iff, List.any_eq_true]
  simp only [decide_eq_true_eq]
  constructor
  · rintro ⟨i, h1, h2, h3⟩; exact ⟨i, (h i).2 ⟨h1, h2⟩, h3⟩
  · rintro ⟨i, h1, h2⟩
    have := (h i).1 h1
    exact ⟨i, this.1, this.2, h2⟩
theorem rl_eqI {a : Int} {k : Nat} : (a == (k : Int)) = decide (a = (k : Int)) := by
  rw [Bool.eq_iff_iff]; simp
set_option maxHeartbeats 16000000 in
theorem rrules_any {D E : Nat → Prop} {w : World} {st : Int} {ss : List Nst} {q : Option Addr} {c : Nat} {f : Nat → Bool} {vin : Value} (hn0 : 0 < ss.length) (hln : ss.length ≤ 4096) (hD : ∀ b, D b → b < w.heap.size) (hE : ∀ b, E b → b < w.heap.size) (hSV : SV D w ss (.slice q ss.length c)) (hV : BV E w ss.length f vin) :
    Calls Try.prog 47 #[nV st q ss.length c, vin] w fun e w' => (∃ v, e = .returned v ∧ IV (fun b => w.heap.size ≤ b ∧ b < w'.heap.size) w' ((ru (fun r => anyB ss f r ss.length) 48).map fun (r : Nat) => (r : Int)) v) ∧ Below w.heap.size w w' := by
  obtain ⟨i0, hi, hz0, hz1, hz2⟩ := info_parts info3
  obtain ⟨bi, oi, ci, rfl, hEi, hci⟩ := hV
  obtain ⟨q', c', he, hSV2⟩ := id hSV
  cases he
  obtain ⟨bb, o, rfl, hDb, hx⟩ := hSV2 (by intro e; subst e; simp at hn0)
  have hbw := hD bb hDb
  have hiw := hE bi hEi
  have HX := Lib.hid hx
  have HCI := Lib.hid hci
  have hs0 := (Sb.start w).alloc (.cells #[.int .i64 st, .slice (some ⟨bb, o, none⟩) ss.length c] 24)
  have S0 := Lib.hid hs0
  obtain ⟨A, hA⟩ : ∃ A : Nat → Bool, (fun r => anyB ss f r ss.length) = A := ⟨_, rfl⟩
  rw [hA]
  have HA : Hid (∀ r, anyB ss f r ss.length = A r) := Lib.hid fun r => congrFun hA r
  have HR0 : Hid ((w.alloc (.cells #[.int .i64 st, .slice (some ⟨bb, o, none⟩) ss.length c] 24)).ownsRow (w.heap.size + 1) 3 1 (.slice none 0 0) (ru A 0).length (ints (ru A 0))) := Lib.hid ⟨by simp [ru, ints], .inl ⟨rfl, rfl⟩⟩
  clear hs0 hSV hD hE hSV2 hx hci hDb hEi hA
  unfold nV
  go_enter Try.func47, Try.ntmps47
  go_wp2_with fail
  go_loopw [5, 6] (fun v i wr => ∃ (k : Nat), i = .int .i64 (k : Nat) ∧ k ≤ 48 ∧ Hid (wr.ownsRow (w.heap.size + 1) 3 1 v (ru A k).length (ints (ru A k))) ∧ Hid (Sb w wr [(w.heap.size, .cells #[.int .i64 st, .slice (some ⟨bb, o, none⟩) ss.length c] 24)])) (fun _ i _ => 48 - (intOf i).toNat)
  case atStart => exact ⟨0, rfl, by omega, HR0, S0⟩
  case round =>
  clear HR0 S0
  obtain ⟨k, rfl, hk, HR, HS⟩ := hrel
  obtain ⟨wo, rfl⟩ : ∃ wo : World, wo = wr := ⟨_, rfl⟩
  obtain ⟨p2, c2, rfl⟩ := row_form HR.out
  by_cases hk48 : k < 48
  · have hkI : (k : Int) < 48 := by omega
    have H0 : Hid (anyB ss f k 0 = false) := Lib.hid rfl
    go_wp2_with fail
    go_loopw [7, 8] (fun b i wr => ∃ (j : Nat) (t : Bool), i = .int .i64 (j : Nat) ∧ b = .bool t ∧ j ≤ ss.length ∧ Hid (anyB ss f k j = t) ∧ Hid (wr.ownsRow (w.heap.size + 1) 3 1 (.slice p2 (ru A k).length c2) (ru A k).length (ints (ru A k))) ∧ Hid (Sb w wr [(w.heap.size, .cells #[.int .i64 st, .slice (some ⟨bb, o, none⟩) ss.length c] 24)])) (fun _ i _ => ss.length - (intOf i).toNat)
    case atStart => exact ⟨0, false, rfl, rfl, by omega, H0, HR, HS⟩
    case round =>
    clear H0 HR HS
    obtain ⟨j, t, rfl, rfl, hj, HT, HR, HS⟩ := hrel
    obtain ⟨wv, rfl⟩ : ∃ wv : World, wv = wr := ⟨_, rfl⟩
    by_cases hlt : j < ss.length
    · have hltI : (j : Int) < (ss.length : Int) := by omega
      have hjI : ¬ (j : Int) < 0 := by omega
      have hstep : anyB ss f k (j + 1) = (anyB ss f k j || (f j && decide (rlOf ss j = (k : Int)))) := rfl
      rw [HT.out] at hstep
      have cin : wv.cell? ⟨bi, oi + j, none⟩ = some (.bool (f j)) := (cell_same (HS.out.1.block bi hiw) _).trans (HCI.out j hlt)
      obtain ⟨qf, ff, hiv, hcell⟩ := HX.out j hlt
      have kb : wv.cell? ⟨w.heap.size, 1, none⟩ = some (.slice (some ⟨bb, o, none⟩) ss.length c) := HS.out.cell 1
      have d6 : wv.cell? ⟨bb, o + j * 7 + 6, none⟩ = some (.int .i64 (ss[j]).rl) := (cell_same (HS.out.1.block bb hbw) _).trans (hcell 6 (.int .i64 (ss[j]).rl) rfl)
      have hrl : rlOf ss j = (ss[j]).rl := by unfold rlOf; rw [List.getElem?_eq_getElem hlt]
      rw [hrl] at hstep
      generalize (ss[j]).rl = rl at *
      obtain ⟨fj, hfj⟩ : ∃ fj, f j = fj := ⟨_, rfl⟩
      rw [hfj] at cin hstep
      clear hcell hiv hrl hfj
      cases t with
      | true =>
        rw [Bool.true_or] at hstep
        have HST := Lib.hid hstep
        clear hstep cin kb d6 HT
        go_wp2_with fail
        go_roundw
        case rel => exact ⟨j + 1, true, by go_num, rfl, by omega, HST, HR, HS⟩
        case measure => simp [intOf]; omega
      | false =>
        cases fj with
        | false =>
          rw [Bool.false_or, Bool.false_and] at hstep
          have HST := Lib.hid hstep
          clear hstep kb d6 HT
          go_wp2_with fail
          go_roundw
          case rel => exact ⟨j + 1, false, by go_num, rfl, by omega, HST, HR, HS⟩
          case measure => simp [intOf]; omega
        | true =>
          rw [Bool.false_or, Bool.true_and, ← rl_eqI] at hstep
          have HST := Lib.hid hstep
          clear hstep HT
          go_wp2_with fail
          go_roundw
          case rel => exact ⟨j + 1, _, by go_num, rfl, by omega, HST, HR, HS⟩
          case measure => simp [intOf]; omega
    · obtain rfl : j = ss.length := by omega
      have hltI : ¬ (ss.length : Int) < (ss.length : Int) := by omega
      have ht : A k = t := by rw [← HA.out k]; exact HT.out
      have hru := ru_succ A k
      clear HT
      cases t with
      | false =>
        rw [ht, if_neg (by simp)] at hru
        have HR2 : Hid (wv.ownsRow (w.heap.size + 1) 3 1 (.slice p2 (ru A k).length c2) (ru A (k + 1)).length (ints (ru A (k + 1)))) := Lib.hid (by rw [hru]; exact HR.out)
        clear hru ht HR
        go_wp2_with fail
        go_roundw
        case rel => exact ⟨k + 1, by go_num, by omega, HR2, HS⟩
        case measure => simp [intOf]; omega
      | true =>
        rw [ht, if_pos rfl] at hru
        have HRU2 := Lib.hid hru
        have X4 := Lib.hid (World.ownsRow.alloc HR.out (.cells #[.int .i64 (k : Nat)] 3))
        have HYA := Lib.hid (show (wv.alloc (.cells #[.int .i64 (k : Nat)] 3)).heap.size = wv.heap.size + 1 by simp)
        have hks := HS.out.lt
        have hrl := ru_len A k
        have HN : Hid (∀ j v, [Value.int .i64 (k : Nat)][j]? = some v → (wv.alloc (.cells #[.int .i64 (k : Nat)] 3)).cell? ⟨wv.heap.size, 0 + j, none⟩ = some v) := Lib.hid fun j v hj => by
          rw [cell_of_row _ wv.heap.size (0 + j) _ 3 (0, 0) (heap_alloc_last wv _), Nat.zero_add]
          rw [← hj]; simp
        clear hru ht HR
        go_wp2_with (at_builtin; refine wpList_append_own_at _ rfl (.tmp 37) (.tmp 39) 39 rfl (w.heap.size + 1) 3 i0 (.int .i64 0) 1 8 Try.underlying39 hi hz0 hz1 hz2 rfl (by decide) (.slice p2 (ru A k).length c2) (ru A k).length (ints (ru A k)) rfl ?c0 ⟨wv.heap.size, 0, none⟩ 1 1 [.int .i64 (k : Nat)] rfl rfl ?c1 ?c2 ?c3 ?c4 ?c5 ?_)
        case c0 => exact X4.out
        case c2 => simp [Value.oneCell']
        case c3 => unfold maxLen; omega
        case c4 => omega
        case c5 => have := HYA.out; omega
        intro v' w7 hown7 hgrow7 _ hat7
        obtain ⟨p7, c7, rfl⟩ := row_form hown7
        have hya := HYA.out
        have hint : ints (ru A (k + 1)) = ints (ru A k) ++ [.int .i64 (k : Nat)] := by rw [HRU2.out]; simp [ints]
        have hle : (ru A (k + 1)).length = (ru A k).length + 1 := by rw [HRU2.out]; simp
        have HR2 : Hid (w7.ownsRow (w.heap.size + 1) 3 1 (.slice p7 ((ru A k).length + 1) c7) (ru A (k + 1)).length (ints (ru A (k + 1)))) := Lib.hid (by rw [hint, hle]; exact hown7)
        have HS2 : Hid (Sb w w7 [(w.heap.size, .cells #[.int .i64 st, .slice (some ⟨bb, o, none⟩) ss.length c] 24)]) := Lib.hid ((HS.out.alloc (.cells #[.int .i64 (k : Nat)] 3)).tl.grown hgrow7 (fun g hg => by
          have h1 := (World.ownsRow.lt X4.out g hg).1
          exact ⟨by omega, fun x hx => by
            simp only [List.mem_cons, List.mem_nil_iff, or_false] at hx
            subst hx
            show w.heap.size ≠ g
            omega⟩))
        clear hown7 hgrow7 hat7 hint hle X4 HS HN
        go_wp2_with fail
        go_roundw
        case rel => exact ⟨k + 1, by go_num, by omega, HR2, HS2⟩
        case measure => simp [intOf]; omega
  · obtain rfl : k = 48 := by omega
    have hv := iv_row HR.out
    have HV := Lib.hid (hv.mono (E := fun b => w.heap.size ≤ b ∧ b < wo.heap.size) (fun b h => ⟨by omega, h.2⟩) (fun b _ _ => rfl))
    have hk2 : ¬ ((48 : Nat) : Int) < 48 := by omega
    clear HR hv
    go_wp2_with fail
    go_ret
    exact ⟨⟨_, rfl, HV.out⟩, HS.out.1⟩
end Go.Proofs.Ytnhfeakndofokaa
end
