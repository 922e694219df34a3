/- Package nfa. -/
import Derived.Test.YtnhfeakndofokaaProg
import Derived.Test.YtnhfeakndofokaaX30
import Derived.WalkKit
import Derived.WalkLawsBesides
import Derived.WalkSpells
import Derived.Outline
import Derived.Lib.Walk
import Derived.Lib.Hide
import Derived.Lib.Slices
import Derived.Lib.Strings
import Derived.RegionTactic
import Derived.LoopTactic
import Derived.Below
import Derived.IntWalk
import Derived.Deep.QuietTactic
import Derived.BigQuiet
import Derived.Deep.MidRow
import Derived.Maps.AppendAt
import Derived.Laws.Rows
import Derived.Laws.Tables
import Derived.Deep.WholeRow
import Derived.Deep.Cut
import Derived.Deep.CutRange
import Derived.Lib.SliceRun
import Derived.Laws.MakeOwn
import Derived.Deep.RegionLaw
import Derived.Deep.RegionLawGrows
import Derived.Deep.RegionHeld3
import Derived.RegionCalls
import Derived.Deep.RegionWith
import Derived.Deep.Light
namespace Go.Proofs.Ytnhfeakndofokaa
set_option linter.unusedSimpArgs false
set_option linter.unusedVariables false
set_option maxRecDepth 100000
open Go.RowKit
/- The document's Go. -/
theorem Acc.snoc {has : (Nat → Int) → UInt8 → Bool} {ss : List Nst} {b : UInt8} : ∀ {x : List UInt8} {m s : Nat}, Acc has ss (x ++ [b]) m s ↔ ∃ a t, Acc has ss x m a ∧ toOf has ss b a = some t ∧ Rt ss t s
  | [], m, s => Iff.rfl
  | c :: r, m, s => by
    constructor
    · rintro ⟨a, t, h1, h2, h3⟩
      obtain ⟨a', t', h4, h5, h6⟩ := Acc.snoc.1 h3
      exact ⟨a', t', ⟨a, t, h1, h2, h4⟩, h5, h6⟩
    · rintro ⟨a', t', ⟨a, t, h1, h2, h4⟩, h5, h6⟩
      exact ⟨a, t, h1, h2, Acc.snoc.2 ⟨a', t', h4, h5, h6⟩⟩
def Gi (ss : List Nst) (b : UInt8) (f h : Nat → Bool) (j : Nat) : Prop := ∀ t, t < ss.length → (h t = true ↔ ∃ i, i < j ∧ f i = true ∧ toOf hasU ss b i = some t)
theorem Gi.none {ss : List Nst} {b : UInt8} {f h : Nat → Bool} {j : Nat} (g : Gi ss b f h j) (hn : f j = false ∨ toOf hasU ss b j = Option.none) : Gi ss b f h (j + 1) := fun t ht => by
  rw [g t ht]
  constructor
  · rintro ⟨i, h1, h2⟩; exact ⟨i, by omega, h2⟩
  · rintro ⟨i, h1, h2, h3⟩
    by_cases e : i = j
    · subst e
      rcases hn with hn | hn
      · rw [hn] at h2; cases h2
      · rw [hn] at h3; cases h3
    · exact ⟨i, by omega, h2, h3⟩
theorem Gi.some {ss : List Nst} {b : UInt8} {f h : Nat → Bool} {j t : Nat} (g : Gi ss b f h j) (hf : f j = true) (ht : toOf hasU ss b j = some t) : Gi ss b f (upd h t) (j + 1) := fun s hs => by
  unfold upd
  simp only [Bool.or_eq_true, beq_iff_eq]
  rw [g s hs]
  constructor
  · rintro (⟨i, h1, h2⟩ | rfl)
    · exact ⟨i, by omega, h2⟩
    · exact ⟨j, by omega, hf, ht⟩
  · rintro ⟨i, h1, h2, h3⟩
    by_cases e : i = j
    · subst e
      rw [ht] at h3
      exact .inr (Option.some.inj h3).symm
    · exact .inl ⟨i, by omega, h2, h3⟩
theorem ft_new {w y : World} {box : Obj} {n : Nat} (h : Sb w y [(w.heap.size + 1, .cells (mkb n []) 4), (w.heap.size, box)]) : FT w box (w.heap.size + 1) n (fun _ => false) y :=
  ⟨h.1, h.tl.heap, by omega, mkb n [], h.heap, by rw [mkb_size]; exact Nat.le_refl _, fun i hi => by rw [mkb_get hi]; simp⟩
theorem FT.bv' {w : World} {box : Obj} {g n cap : Nat} {f : Nat → Bool} {y : World} (h : FT w box g n f y) : BV (fun b => b < y.heap.size) y n f (.slice (some ⟨g, 0, none⟩) n cap) := by
  obtain ⟨b, o, c, e, hb, hc⟩ := h.bv (cap := cap)
  exact ⟨b, o, c, e, hb.2, hc⟩
set_option maxHeartbeats 16000000 in
theorem rgo_any {D E : Nat → Prop} {w : World} {m : Nat} {ss : List Nst} {q : Option Addr} {c : Nat} {f : Nat → Bool} {vin : Value} {x : List UInt8} (b : UInt8) (hm : m < ss.length) (hln : ss.length ≤ 4096) (hD : ∀ b, D b → b < w.heap.size) (hE : ∀ b, E b → b < w.heap.size) (hSV : SV D w ss (.slice q ss.length c)) (hfi : Fine ss) (hin : InB ss) (hfl : ∀ s ∈ ss, s.fr.length ≤ 1000000) (hok : ∀ s ∈ ss, okW s.u) (hto : ∀ s ∈ ss, s.to < ss.length) (hV : BV E w ss.length f vin) (hL : Leads ss m x f) :
    Calls Try.prog 46 #[nV (m : Nat) q ss.length c, vin, .int .u8 b.toNat] w fun e w' => (∃ v f', e = .returned v ∧ Leads ss m (x ++ [b]) f' ∧ BV (fun b => w.heap.size ≤ b ∧ b < w'.heap.size) w' ss.length f' v) ∧ Below w.heap.size w w' := by
  have hn0 : 0 < ss.length := by omega
  have hs0 := ((Sb.start w).alloc (.cells #[.int .i64 (m : Nat), .slice q ss.length c] 24)).alloc (.cells (mkb ss.length []) 4)
  have hs1 : (w.alloc (.cells #[.int .i64 (m : Nat), .slice q ss.length c] 24)).heap.size = w.heap.size + 1 := by simp
  rw [hs1] at hs0
  have S0 := Lib.hid (ft_new hs0)
  have HF := Lib.hid fun (z : World) (h : Nat → Bool) (ht : FT w (.cells #[.int .i64 (m : Nat), .slice q ss.length c] 24) (w.heap.size + 1) ss.length h z) => rfree_any (D := D) (E := fun b => b < z.heap.size) (w := z) (st := (m : Nat)) (f0 := h) (vin := .slice (some ⟨w.heap.size + 1, 0, none⟩) ss.length ss.length) (by omega) hln (fun b h => Nat.lt_of_lt_of_le (hD b h) ht.1.size) (fun b h => h) (hSV.mono (fun b h => h) (fun b h _ => ht.1.block b (hD b h))) hfi hin hfl ht.bv'
  unfold nV at HF
  have hmk := fun w => make_b ss.length hln w
  obtain ⟨bi, oi, ci, rfl, hEi, hci⟩ := hV
  obtain ⟨q', c', he, hSV2⟩ := id hSV
  cases he
  obtain ⟨bb, o, rfl, hDb, hx⟩ := hSV2 (by intro e; subst e; simp at hn0)
  have hbw := hD bb hDb
  have hiw := hE bi hEi
  have HX := Lib.hid hx
  have HCI := Lib.hid hci
  have HOK := Lib.hid hok
  have HTO := Lib.hid hto
  have HG0 : Hid (Gi ss b f (fun _ => false) 0) := Lib.hid fun t ht => ⟨fun h => (by cases h), fun ⟨i, h, _⟩ => (by omega)⟩
  have HLD := Lib.hid hL
  have hz := zero49
  clear hs0 hSV hD hE hin hfl hok hto hSV2 hx hci hDb hEi hs1 hL
  unfold nV
  go_enter Try.func46, Try.ntmps46
  go_wp2_with (simp only [hmk])
  go_loopw [8] (fun i wr => ∃ (j : Nat) (h : Nat → Bool), i = .int .i64 (j : Nat) ∧ j ≤ ss.length ∧ Hid (FT w (.cells #[.int .i64 (m : Nat), .slice (some ⟨bb, o, none⟩) ss.length c] 24) (w.heap.size + 1) ss.length h wr) ∧ Hid (Gi ss b f h j)) (fun i _ => ss.length - (intOf i).toNat)
  case atStart => exact ⟨0, _, rfl, by omega, S0, HG0⟩
  case round =>
  clear S0 HG0
  obtain ⟨j, h, rfl, hj, HT, HG⟩ := hrel
  obtain ⟨wo, rfl⟩ : ∃ wo : World, wo = wr := ⟨_, rfl⟩
  by_cases hlt : j < ss.length
  · obtain ⟨qf, ff, hiv, hcell⟩ := HX.out j hlt
    have kb : wo.cell? ⟨w.heap.size, 1, none⟩ = some (.slice (some ⟨bb, o, none⟩) ss.length c) := cell_of_row wo _ 1 _ 24 (0, 0) HT.out.2.1
    have de : ∀ i y, (stC (ss[j]).u (ss[j]).to (.slice qf (ss[j]).fr.length ff) (ss[j]).rl)[i]? = some y → wo.cell? ⟨bb, o + j * 7 + i, none⟩ = some y := fun i y hy => (cell_same (HT.out.1.block bb hbw) _).trans (hcell i y hy)
    have cin : wo.cell? ⟨bi, oi + j, none⟩ = some (.bool (f j)) := (cell_same (HT.out.1.block bi hiw) _).trans (HCI.out j hlt)
    have hok := HOK.out ss[j] (List.getElem_mem hlt)
    have hto := HTO.out ss[j] (List.getElem_mem hlt)
    have htoOf : toOf hasU ss b j = if 0 ≤ (ss[j]).to ∧ hasU (ss[j]).u b = true then some (ss[j]).to.toNat else none := by unfold toOf; rw [List.getElem?_eq_getElem hlt]
    have HHAS : Hid (∀ z, Calls Try.prog 61 #[uV (ss[j]).u, .int .u8 b.toNat] z fun e w' => e = .returned (.bool (hasU (ss[j]).u b)) ∧ Below z.heap.size z w') := Lib.hid fun z => refhas_any hok b z
    generalize ss[j] = s at *
    obtain ⟨u, tg, fr, rl⟩ := s
    simp only at de hto htoOf hok hiv
    unfold uV at HHAS
    generalize hasU u b = hub at *
    obtain ⟨frl, hfrl⟩ : ∃ frl, fr.length = frl := ⟨_, rfl⟩
    rw [hfrl] at de
    have d0 : wo.cell? ⟨bb, o + j * 7, none⟩ = some (.int .u64 (u 0)) := de 0 _ rfl
    have d1 : wo.cell? ⟨bb, o + j * 7 + 1, none⟩ = some (.int .u64 (u 1)) := de 1 _ rfl
    have d2 : wo.cell? ⟨bb, o + j * 7 + 2, none⟩ = some (.int .u64 (u 2)) := de 2 _ rfl
    have d3 : wo.cell? ⟨bb, o + j * 7 + 3, none⟩ = some (.int .u64 (u 3)) := de 3 _ rfl
    have d4 : wo.cell? ⟨bb, o + j * 7 + 4, none⟩ = some (.int .i64 tg) := de 4 _ rfl
    have d5 : wo.cell? ⟨bb, o + j * 7 + 5, none⟩ = some (.slice qf frl ff) := de 5 _ rfl
    have d6 : wo.cell? ⟨bb, o + j * 7 + 6, none⟩ = some (.int .i64 rl) := de 6 _ rfl
    have hltI : (j : Int) < (ss.length : Int) := by omega
    have hjI : ¬ (j : Int) < 0 := by omega
    have HTF := Lib.hid htoOf
    clear hcell hiv de htoOf hok hfrl
    have HT2 : Hid (FT w (.cells #[.int .i64 (m : Nat), .slice (some ⟨bb, o, none⟩) ss.length c] 24) (w.heap.size + 1) ss.length h (wo.alloc (.cells #[.int .u64 (u 0), .int .u64 (u 1), .int .u64 (u 2), .int .u64 (u 3), .int .i64 tg, .slice qf frl ff, .int .i64 rl] 49))) := Lib.hid (HT.out.up ((Below.refl wo.heap.size wo).alloc (Nat.le_refl _) (.cells #[.int .u64 (u 0), .int .u64 (u 1), .int .u64 (u 2), .int .u64 (u 3), .int .i64 tg, .slice qf frl ff, .int .i64 rl] 49)))
    have hbl : (wo.alloc (.cells #[.int .u64 (u 0), .int .u64 (u 1), .int .u64 (u 2), .int .u64 (u 3), .int .i64 tg, .slice qf frl ff, .int .i64 rl] 49)).heap[wo.heap.size]? = some (.cells #[.int .u64 (u 0), .int .u64 (u 1), .int .u64 (u 2), .int .u64 (u 3), .int .i64 tg, .slice qf frl ff, .int .i64 rl] 49) := heap_alloc_last wo _
    have hcin : ∀ y : World, Below w.heap.size w y → y.cell? ⟨bi, oi + j, none⟩ = some (.bool (f j)) := fun y hy => (cell_same (hy.block bi hiw) _).trans (HCI.out j hlt)
    have hzw : w.heap.size + 1 < wo.heap.size := by
      obtain ⟨_, _, _, cs, h1, _⟩ := HT.out
      exact (Array.getElem?_eq_some_iff.1 h1).1
    obtain ⟨X, hX⟩ : ∃ X, wo.heap.size = X := ⟨_, rfl⟩
    go_upto_region 6 with fail
    rw [hX] at hbl hzw
    refine at_world (fun y => FT w (.cells #[.int .i64 (m : Nat), .slice (some ⟨bb, o, none⟩) ss.length c] 24) (w.heap.size + 1) ss.length h y ∧ y.heap[X]? = some (.cells #[.int .u64 (u 0), .int .u64 (u 1), .int .u64 (u 2), .int .u64 (u 3), .int .i64 tg, .slice qf frl ff, .int .i64 rl] 49)) ⟨HT2.out, hbl⟩ fun y hy => ?_
    have HY := Lib.hid hy.1
    have cin := hcin y hy.1.1
    have e0 : y.cell? ⟨X, 0, none⟩ = some (.int .u64 (u 0)) := cell_of_row y X 0 _ 49 (0, 0) hy.2
    have e1 : y.cell? ⟨X, 1, none⟩ = some (.int .u64 (u 1)) := cell_of_row y X 1 _ 49 (0, 0) hy.2
    have e2 : y.cell? ⟨X, 2, none⟩ = some (.int .u64 (u 2)) := cell_of_row y X 2 _ 49 (0, 0) hy.2
    have e3 : y.cell? ⟨X, 3, none⟩ = some (.int .u64 (u 3)) := cell_of_row y X 3 _ 49 (0, 0) hy.2
    have e4 : y.cell? ⟨X, 4, none⟩ = some (.int .i64 tg) := cell_of_row y X 4 _ 49 (0, 0) hy.2
    have hXl : X < y.heap.size := (Array.getElem?_eq_some_iff.1 hy.2).1
    clear HT HT2 hbl hcin hX kb d0 d1 d2 d3 d4 d5 d6 hy
    obtain ⟨fj, hfj⟩ : ∃ fj, f j = fj := ⟨_, rfl⟩
    rw [hfj] at cin
    have HFJ := Lib.hid hfj
    clear hfj
    cases fj with
    | false =>
      have HG2 := Lib.hid (HG.out.none (.inl HFJ.out))
      clear HG HFJ HTF e0 e1 e2 e3 e4
      go_wp2_with fail
      go_roundw
      case rel => exact ⟨j + 1, h, by go_num, by omega, HY, HG2⟩
      case measure => simp [intOf]; omega
    | true =>
      by_cases htg : 0 ≤ tg
      · have htgI : ¬ tg < 0 := by omega
        obtain ⟨t, rfl⟩ : ∃ t : Nat, tg = (t : Nat) := ⟨tg.toNat, by omega⟩
        have htn : t < ss.length := by omega
        have htI : (t : Int) < (ss.length : Int) := by omega
        have HC := Lib.hid (HHAS.out y)
        clear HHAS
        cases hub with
        | false =>
          have HG2 := Lib.hid (HG.out.none (.inr (by rw [HTF.out]; simp)))
          clear HG HFJ HTF
          go_wp2_with fail
          refine HC.out.mono ?_
          rintro _ y2 ⟨rfl, hb2⟩
          have HY2 := Lib.hid (HY.out.up hb2)
          clear HY HC hb2 e0 e1 e2 e3 e4 cin
          go_wp2_with fail
          go_roundw
          case rel => exact ⟨j + 1, h, by go_num, by omega, HY2, HG2⟩
          case measure => simp [intOf]; omega
        | true =>
          have HG2 := Lib.hid (HG.out.some (t := t) HFJ.out (by rw [HTF.out]; simp))
          clear HG HFJ HTF
          go_wp2_with fail
          refine HC.out.mono ?_
          rintro _ y2 ⟨rfl, hb2⟩
          have HY2 := Lib.hid (HY.out.up hb2)
          have e4 : y2.cell? ⟨X, 4, none⟩ = some (.int .i64 (t : Nat)) := (cell_same (hb2.block X hXl) 4).trans e4
          have cg : y2.cell? ⟨w.heap.size + 1, t, none⟩ = some (.bool (h t)) := HY2.out.cell htn
          have cf : y2.frozen? ⟨w.heap.size + 1, t, none⟩ = false := HY2.out.free t
          have HY3 := Lib.hid (HY2.out.set htn)
          clear HY HY2 HC hb2 e0 e1 e2 e3 cin
          go_wp2_with fail
          go_roundw
          case rel => exact ⟨j + 1, _, by go_num, by omega, HY3, HG2⟩
          case measure => simp [intOf]; omega
      · have htgI : tg < 0 := by omega
        have HG2 := Lib.hid (HG.out.none (.inr (by rw [HTF.out, if_neg (fun h => htg h.1)])))
        clear HG HFJ HTF HHAS e0 e1 e2 e3
        go_wp2_with fail
        go_roundw
        case rel => exact ⟨j + 1, h, by go_num, by omega, HY, HG2⟩
        case measure => simp [intOf]; omega
  · obtain rfl : j = ss.length := by omega
    have hltI : ¬ (ss.length : Int) < (ss.length : Int) := by omega
    have HC := Lib.hid (HF.out wo h HT.out)
    have HB := Lib.hid HT.out.1
    have c0 : wo.cell? ⟨w.heap.size, 0, none⟩ = some (.int .i64 (m : Nat)) := cell_of_row wo _ 0 _ 24 (0, 0) HT.out.2.1
    have c1 : wo.cell? ⟨w.heap.size, 1, none⟩ = some (.slice (some ⟨bb, o, none⟩) ss.length c) := cell_of_row wo _ 1 _ 24 (0, 0) HT.out.2.1
    clear HT HF
    go_wp2_with fail
    refine HC.out.mono ?_
    rintro _ w3 ⟨⟨v, f', rfl, hf, hbv⟩, hb3⟩
    have HBV := Lib.hid hbv
    have HFF : Hid (Leads ss m (x ++ [b]) f') := Lib.hid fun s hs => by
      rw [hf s hs, Acc.snoc]
      constructor
      · rintro ⟨a, ha, h1, hr⟩
        obtain ⟨i, hi, hfi, hti⟩ := (HG.out a ha).1 h1
        exact ⟨i, a, (HLD.out i hi).1 hfi, hti, hr⟩
      · rintro ⟨i, a, h1, h2, hr⟩
        have hi := h1.lt hfi x hm
        have ha := hfi.to _ _ _ _ h2
        exact ⟨a, ha, (HG.out a ha).2 ⟨i, hi, (HLD.out i hi).2 h1, h2⟩, hr⟩
    have HB3 := Lib.hid (HB.out.trans (hb3.mono HB.out.size))
    have HSZ := Lib.hid HB.out.size
    clear hbv hf hb3 HC HB c0 c1 HG
    go_wp2_with fail
    go_ret
    exact ⟨⟨_, _, rfl, HFF.out, HBV.out.mono (by omega) (fun b h => ⟨Nat.le_trans HSZ.out h.1, h.2⟩) (fun b _ _ => rfl)⟩, HB3.out⟩
end Go.Proofs.Ytnhfeakndofokaa
