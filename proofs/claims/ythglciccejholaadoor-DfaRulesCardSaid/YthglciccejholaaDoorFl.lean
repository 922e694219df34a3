/- Package dfa. -/
import Derived.Test.YthglciccejholaaDoorProg
import Derived.Test.YthglciccejholaaDoorV18
import Derived.Test.YthglciccejholaaDoorV20
import Derived.WalkKit
import Derived.Maps.OwnSet
import Derived.Maps.OwnOps
import Derived.Maps.Own
import Derived.DeepKeys5
import Derived.BigFrame
import Derived.WalkMore
import Derived.ScopeJumps
import Derived.StillTailTactics
import Derived.Stop.BytesEq
import Derived.WalkLawsBesides
import Derived.WalkSpells
import Derived.Outline
import Derived.Lib.Walk
import Derived.Lib.Hide
import Derived.Lib.Slices
import Derived.Lib.Strings
import Derived.RegionTactic
import Derived.LoopTactic
import Derived.Below
import Derived.IntWalk
import Derived.Deep.QuietTactic
import Derived.BigQuiet
import Derived.Deep.MidRow
import Derived.Maps.AppendAt
import Derived.Laws.Rows
import Derived.Laws.Tables
import Derived.Deep.WholeRow
import Derived.Deep.Cut
import Derived.Deep.CutRange
import Derived.Lib.SliceRun
import Derived.Laws.MakeOwn
import Derived.Deep.RegionLaw
import Derived.Deep.RegionLawGrows
import Derived.Deep.RegionHeld3
import Derived.RegionCalls
import Derived.Deep.RegionWith
import Derived.Deep.Light
import Derived.Laws.CopyOwn
import Derived.Laws.ResultCell
namespace Go.Proofs.YthglciccejholaaDoor
set_option linter.unusedSimpArgs false
set_option linter.unusedVariables false
set_option maxRecDepth 100000
open Go.RowKit
/- classes. -/
open Go.Maps
def keyC (so cl : Nat → Nat) (row : List Int) (i : Nat) : Nat × Int := (cl i, row.getD (so i) 0)
def clsS (so cl : Nat → Nat) (row : List Int) (i : Nat) : Nat := idx (seen (keyC so cl row) 256) (keyC so cl row i)
def cntS (so cl : Nat → Nat) (row : List Int) : Nat := (seen (keyC so cl row) 256).length
def clsG (so : Nat → Nat) : List (List Int) → (Nat → Nat) × Nat → (Nat → Nat) × Nat
  | [], s => s
  | row :: r, s => clsG so r (clsS so s.1 row, cntS so s.1 row)
theorem clsS_lt (so cl : Nat → Nat) (row : List Int) {i : Nat} (h : i < 256) : clsS so cl row i < 256 := by
  have h1 := seen_mem (keyC so cl row) 256 i h
  have h2 := idx_lt h1
  have := seen_len (keyC so cl row) 256
  unfold clsS; omega
/-- The first k classes of f, then those of g. -/
def cM (f g : Nat → Nat) (k : Nat) : Array Value := Array.ofFn fun i : Fin 256 => .int .u8 ((if i.val < k then f i.val else g i.val : Nat) : Int)
def cA (f : Nat → Nat) : Array Value := Array.ofFn fun i : Fin 256 => .int .u8 (f i.val : Nat)
theorem cA_size (f : Nat → Nat) : (cA f).size = 256 := by simp [cA]
theorem cA_get (f : Nat → Nat) {i : Nat} (h : i < 256) : (cA f)[i]? = some (.int .u8 (f i : Nat)) := by simp [cA, Array.getElem?_ofFn, h]
theorem cM_get (f g : Nat → Nat) {k i : Nat} (h : i < 256) : (cM f g k)[i]? = some (.int .u8 ((if i < k then f i else g i : Nat) : Int)) := by simp [cM, Array.getElem?_ofFn, h]
theorem cM_zero (f g : Nat → Nat) : cM f g 0 = cA g := by simp [cM, cA]
theorem cM_end (f g : Nat → Nat) : cM f g 256 = cA f := by
  apply Array.ext
  · simp [cM, cA]
  · intro i h1 h2
    have h2 : i < 256 := by simpa [cA] using h2
    simp [cM, cA, h2]
theorem cM_set (f g : Nat → Nat) {k : Nat} (h : k < 256) : (cM f g k).setIfInBounds k (.int .u8 (f k : Nat)) = cM f g (k + 1) := by
  apply Array.ext
  · simp [cM]
  · intro i h1 h2
    have h2 : i < 256 := by simpa [cM] using h2
    rw [Array.getElem_setIfInBounds (by simpa [cM] using h2)]
    simp only [cM, Array.getElem_ofFn]
    by_cases e : k = i
    · subst e; simp
    · rw [if_neg e]
      by_cases e2 : i < k
      · rw [if_pos e2, if_pos (by omega)]
      · rw [if_neg e2, if_neg (by omega)]
theorem cA_no : cA (fun _ => 0) = Array.replicate 256 (.int .u8 0) := by
  apply Array.ext
  · simp [cA]
  · intro i h1 h2; simp [cA]
theorem info45 : (Tryd.prog.info? 45).map (·.size) = some 256 := by kernel_rfl
theorem cA_one (f : Nat → Nat) : (cA f).all (·.oneCell') = true := by
  rw [Array.all_eq_true_iff_forall_mem]
  intro v hv
  obtain ⟨i, hi, rfl⟩ := Array.getElem_of_mem hv
  simp [cA, Value.oneCell']
theorem wpList_load_C {ops : Array Oper} {rest : List Oper} {op : Oper} {a : Act} {w : World} {Q : Exit → Act → World → Prop} (hgd : op.guard = none) (x : Operand) (ho : op.op = .load 45 x) (b : Nat) (f : Nat → Nat) (hx : a.eval x = .pointer (some ⟨b, 0, none⟩)) (hc : w.heap[b]? = some (.cells (cA f) 45))
    (h : wpList Tryd.prog ops Q rest (a.put op.dst (.agg (cA f))) w) : wpList Tryd.prog ops Q (op :: rest) a w :=
  wpList_load_mid hgd 45 x ho b 0 hx (cA f).toList _ (fun j v hj => by rw [Nat.zero_add, cell_of_row w b j _ 45 (0, 0) hc]; simpa using hj) Tryd.underlying45 rfl (by rw [info45]; simp [cA_size]) (by simpa using h)
theorem run_index_c (f : Nat → Nat) {k : Nat} (h : k < 256) (x : World) : (Instr.index 45 (.agg (cA f)) (.int .i64 (k : Nat))).run Tryd.prog x = .ok (.int .u8 (f k : Nat)) x := by
  have h1 : (k : Int) < 256 := by omega
  have h3 := cA_get f h
  simp [Instr.index, go_sem, Tryd.underlying45, h1, h3]
  intro hh; omega
/-- classes' block. -/
def Cw (w W : World) (c : Array Value) : Prop := Below w.heap.size w W ∧ W.heap[w.heap.size]? = some (.cells c 45)
set_option maxHeartbeats 8000000 in
theorem classes_any {D : Nat → Prop} {w : World} {bb : Nat} {rsl : Value} {rows : List (List Int)} {so : Nat → Nat} (c7 : w.cell? ⟨bb, 325, none⟩ = some rsl) (hNV : NV D w rows rsl) (hDl : ∀ z, D z → z < w.heap.size) (hrl : rows.length ≤ 4096)
    (hso : ∀ i, i < 256 → w.cell? ⟨bb, 66 + i, none⟩ = some (.int .u8 (so i : Nat)) ∧ so i < 256) (hr : ∀ row ∈ rows, (∀ i, i < 256 → so i < row.length) ∧ row.length ≤ 256 ∧ ∀ x ∈ row, -9223372036854775808 ≤ x ∧ x ≤ 9223372036854775807) :
    Calls Tryd.prog 99 #[.pointer (some ⟨bb, 0, none⟩)] w fun e w' => e = .returned (.tuple #[.agg (cA (clsG so rows (fun _ => 0, 0)).1), .int .i64 (clsG so rows (fun _ => 0, 0)).2]) ∧ Below w.heap.size w w' := by
  obtain ⟨R, hR⟩ : ∃ R, clsG so rows (fun _ => 0, 0) = R := ⟨_, rfl⟩
  rw [hR]
  have hb0 := blk_lt c7
  have hmm := @run_makeMap Tryd.prog
  obtain ⟨q, c, rfl, hrows⟩ := hNV
  have HR := Lib.hid hR
  have HRows := Lib.hid hrows
  have HDL := Lib.hid hDl
  have HSO := Lib.hid hso
  have HRR := Lib.hid hr
  clear hR hrows hDl hso hr
  go_enter Tryd.func99, Tryd.ntmps99
  go_upto_region 1 with fail
  refine at_world (fun y => Cw w y (cA fun _ => 0)) ⟨(Below.refl _ _).alloc (Nat.le_refl _) _, by rw [cA_no]; exact heap_alloc_last w _⟩ fun y hy => ?_
  have c7' : y.cell? ⟨bb, 325, none⟩ = some (.slice q rows.length c) := (cell_same (hy.1.block bb hb0) _).trans c7
  have HY := Lib.hid hy
  clear hy
  go_wp2_with fail
  clear c7'
  go_loopw [17, 3] (fun i cc wr => ∃ (j : Nat) (cl : Nat → Nat) (cnt : Nat), i = .int .i64 (j : Nat) ∧ cc = .int .i64 (cnt : Nat) ∧ Hid (clsG so (rows.drop j) (cl, cnt) = R) ∧ j ≤ rows.length ∧ Hid (Cw w wr (cA cl)) ∧ Hid (∀ i, i < 256 → cl i < 256)) (fun i _ _ => rows.length - (intOf i).toNat)
  case atStart => exact ⟨0, fun _ => 0, 0, rfl, rfl, by simpa using HR, by omega, HY, Lib.hid (fun i _ => by show (0 : Nat) < 256; omega)⟩
  case round =>
    clear HY HR
    obtain ⟨j, cl, cnt, rfl, rfl, HR, hj, HY, HCL⟩ := hrel
    obtain ⟨wo, rfl⟩ : ∃ wo : World, wo = wr := ⟨_, rfl⟩
    by_cases hlt : j < rows.length
    · have hltI : (j : Int) < (rows.length : Int) := by omega
      have hjI : ¬ (j : Int) < 0 := by omega
      obtain ⟨bR, oR, rfl, hDb, hx⟩ := HRows.out (by intro e; rw [e] at hlt; simp at hlt)
      obtain ⟨qf, f, hiv, hcell⟩ := hx j hlt
      have cr : wo.cell? ⟨bR, oR + j, none⟩ = some (.slice qf rows[j].length f) := (cell_same (HY.out.1.block bR (HDL.out bR hDb)) _).trans hcell
      obtain ⟨row, hrow⟩ : ∃ row, rows[j] = row := ⟨_, rfl⟩
      have hrr := HRR.out row (hrow ▸ List.getElem_mem hlt)
      have hnext : clsG so (rows.drop (j + 1)) (clsS so cl row, cntS so cl row) = R := by
        rw [← HR.out, List.drop_eq_getElem_cons hlt, clsG, hrow]
      rw [hrow] at cr hiv
      have HIV := Lib.hid hiv
      have HQ := Lib.hid hrr
      have HNX := Lib.hid hnext
      clear hiv hrr hnext hcell hx HR hrow
      go_upto_region 5 with fail
      obtain ⟨M, hM⟩ : ∃ M, M = wo.heap.size := ⟨_, rfl⟩
      have hAM : w.heap.size < M := by have := (Array.getElem?_eq_some_iff.1 HY.out.2).1; omega
      refine at_world (fun y => Cw w y (cA cl) ∧ y.ownsMap Tryd.prog 167 (plainElem (H := Unit) Tryd.prog 5) M 0 (.map [])) ⟨⟨HY.out.1.alloc (by have := HY.out.1.size; omega) _, (heap_alloc_old _ _ (Array.getElem?_eq_some_iff.1 HY.out.2).1).trans HY.out.2⟩, by rw [hM]; exact World.ownsMap_made _ _ _ _⟩ fun y hy => ?_
      rw [← hM]
      have HY1 := Lib.hid hy
      clear hy HY cr hM
      go_wp2_with (first | (refine wpList_load_C rfl (.tmp 2) rfl w.heap.size cl rfl HY1.out.1.2 ?_))
      go_loopw [23] (fun i wr => ∃ (k : Nat) (E : DataW Unit), i = .int .i64 (k : Nat) ∧ k ≤ 256 ∧ Hid (Cw w wr (cM (clsS so cl row) cl k)) ∧ Hid (wr.ownsMap Tryd.prog 167 (plainElem (H := Unit) Tryd.prog 5) M k E) ∧ Hid (MK klP GP .u8 E (seen (keyC so cl row) k))) (fun i _ => 256 - (intOf i).toNat)
      case atStart => exact ⟨0, .map [], rfl, by omega, Lib.hid (by rw [cM_zero]; exact HY1.out.1), Lib.hid HY1.out.2, Lib.hid (MK.nil _ _ _)⟩
      case round =>
        clear HY1
        obtain ⟨k, E, rfl, hk, HY, HO, HK⟩ := hrel
        obtain ⟨wo, rfl⟩ : ∃ wo : World, wo = wr := ⟨_, rfl⟩
        by_cases hlt2 : k < 256
        · have hltI2 : (k : Int) < 256 := by omega
          have hkI2 : ¬ (k : Int) < 0 := by omega
          have hsk := HSO.out k hlt2
          have hsr := HQ.out.1 k hlt2
          obtain ⟨p', c', he, hh⟩ := HIV.out
          cases he
          obtain ⟨br, ob, rfl, hbr, hcf⟩ := hh (by intro e; rw [e] at hsr; simp at hsr)
          have cso : wo.cell? ⟨bb, 66 + k, none⟩ = some (.int .u8 (so k : Nat)) := (cell_same (HY.out.1.block bb hb0) _).trans hsk.1
          have cv : wo.cell? ⟨br, ob + so k, none⟩ = some (.int .i64 row[so k]) := (cell_same (HY.out.1.block br (HDL.out br hbr)) _).trans (hcf _ hsr)
          have hkx : keyC so cl row k = (cl k, row[so k]) := by unfold keyC; rw [List.getD_eq_getElem?_getD, List.getElem?_eq_getElem hsr]; rfl
          have hG : GP (cl k, row[so k]) := ⟨HCL.out k hlt2, HQ.out.2.2 _ (List.getElem_mem hsr)⟩
          have hsl : ((so k : Nat) : Int) < (row.length : Int) := by omega
          have hs0 : ¬ ((so k : Nat) : Int) < 0 := by omega
          have hck : cl k < 256 := HCL.out k hlt2
          have hix := fun z => run_index_c cl hlt2 z
          generalize row[so k] = v at *
          generalize hsok : so k = sk at *
          have HG := Lib.hid hG
          have HKX := Lib.hid hkx
          have HSK := Lib.hid hsok
          have hckI : ((cl k : Nat) : Int) < 256 := by omega
          clear hG hkx hcf hh hsk hsok
          go_upto_region 9 with fail
          have hAw : w.heap.size < wo.heap.size := (Array.getElem?_eq_some_iff.1 HY.out.2).1
          refine at_world (fun y => Cw w y (cM (clsS so cl row) cl k) ∧ y.ownsMap Tryd.prog 167 (plainElem (H := Unit) Tryd.prog 5) M k E ∧ y.heap[wo.heap.size]? = some (.cells #[.int .i64 (cl k : Nat), .int .i64 v] 167)) ⟨⟨HY.out.1.alloc (by omega) _, (heap_alloc_old _ _ hAw).trans HY.out.2⟩, HO.out.alloc _, heap_alloc_last _ _⟩ fun y hy => ?_
          obtain ⟨B9, hB9⟩ : ∃ B9, wo.heap.size = B9 := ⟨_, rfl⟩
          rw [hB9] at hy ⊢
          have HY2 := Lib.hid hy
          have c90 : y.cell? ⟨B9, 0, none⟩ = some (.int .i64 (cl k : Nat)) := cell_of_row y B9 0 _ 167 (0, 0) hy.2.2
          have c91 : y.cell? ⟨B9, 1, none⟩ = some (.int .i64 v) := cell_of_row y B9 1 _ 167 (0, 0) hy.2.2
          have cAk : y.cell? ⟨w.heap.size, k, none⟩ = some (.int .u8 ((if k < k then clsS so cl row k else cl k : Nat) : Int)) := (cell_of_row y w.heap.size k _ 45 (0, 0) hy.1.2).trans (cM_get _ _ hlt2)
          have fAk : y.frozen? ⟨w.heap.size, k, none⟩ = false := frozen_of_row y w.heap.size k _ 45 hy.1.2
          clear hy HY HO cso cv hB9
          by_cases hin : (cl k, v) ∈ seen (keyC so cl row) k
          · have hhas : Maps.has E (klP (cl k, v)) = true := by rw [HK.out.has _ HG.out]; simp [hin]
            have HIN := Lib.hid hin
            clear hin
            go_wp2_with (first | (at_lookup; refine wpList_lookup_own_ok_int _ rfl _ _ 166 rfl 167 5 .u8 keyedP Tryd.underlying166 Tryd.underlying5 (Tryd.zeroValue5 _) M k E rfl HY2.out.2.1 _ _ rfl (keyP (x := (cl k, v)) HG.out) ?_; intro c hat hwc))
            have hidx : ((clsS so cl row k : Nat) : Int) = c := by
              have h1 := HK.out.key _ HIN.out (.lit (.int .u8 0))
              rw [hat] at h1
              injection h1 with h1
              injection h1 with _ h1
              rw [h1]
              unfold clsS
              rw [HKX.out, seen_idx (keyC so cl row) (cl k, v) 256 k (by omega) HIN.out]
            have hrow2 := heap_setCell_same y w.heap.size k _ 45 (.int .u8 c) HY2.out.1.2
            rw [← hidx, cM_set _ _ hlt2] at hrow2
            rw [hidx] at hrow2
            have hC2 : Hid (Cw w (y.setCell ⟨w.heap.size, k, none⟩ (.int .u8 c)) (cM (clsS so cl row) cl (k + 1))) := Lib.hid ⟨HY2.out.1.1.setCell (p := ⟨w.heap.size, k, none⟩) (Nat.le_refl _) _, hrow2⟩
            have hO2 := Lib.hid ((HY2.out.2.1.setCell (a := ⟨w.heap.size, k, none⟩) (by show M ≠ w.heap.size; omega) (.int .u8 c)).mono (Nat.le_succ k))
            have hK2 : Hid (MK klP GP .u8 E (seen (keyC so cl row) (k + 1))) := Lib.hid (by
              rw [seen_in (by rw [HKX.out]; exact HIN.out)]; exact HK.out)
            go_roundw
            case rel => exact ⟨k + 1, E, by go_num, by omega, hC2, hO2, hK2⟩
            case measure => simp [intOf]; omega
          · have hhas : Maps.has E (klP (cl k, v)) = false := by rw [HK.out.has _ HG.out]; simp [hin]
            have hsz := HK.out.size
            have hLk := seen_len (keyC so cl row) k
            obtain ⟨L, hL⟩ : ∃ L, (seen (keyC so cl row) k).length = L := ⟨_, rfl⟩
            rw [hL] at hsz hLk
            have HL := Lib.hid hL
            have HIN := Lib.hid hin
            have hL8 : IntKind.u8.wrap (L : Int) = (L : Int) := IntWalk.u8_in _ (by omega)
            clear hin hL
            go_wp2_with (first | (at_lookup; refine wpList_lookup_own_ok_int _ rfl _ _ 166 rfl 167 5 .u8 keyedP Tryd.underlying166 Tryd.underlying5 (Tryd.zeroValue5 _) M k E rfl HY2.out.2.1 _ _ rfl (keyP (x := (cl k, v)) HG.out) ?_; intro c hat hwc) | (at_len; refine wpList_len_own _ rfl _ 166 rfl 167 5 Tryd.underlying166 _ M k E rfl HY2.out.2.1 ?_) | (at_mapUpdate; refine wpList_mapUpdate_own _ rfl _ _ _ 166 rfl 167 5 keyedP Tryd.underlying166 _ M k E rfl HY2.out.2.1 (by unfold maxLen; omega) _ _ _ rfl rfl (keyP (x := (cl k, v)) HG.out) (.lit (.int .u8 (L : Nat))) [] (plainElem_int Tryd.underlying5 (WalkArith.wf_u8 (by omega))) ?_; intro w1 hown1 hgrow1; have hA1 := (hgrow1.block w.heap.size (Array.getElem?_eq_some_iff.1 HY2.out.1.2).1 (fun e => by cases e; omega)).trans HY2.out.1.2; have cA1 : w1.cell? ⟨w.heap.size, k, none⟩ = some (.int .u8 ((if k < k then clsS so cl row k else cl k : Nat) : Int)) := (cell_of_row w1 w.heap.size k _ 45 (0, 0) hA1).trans (cM_get _ _ hlt2); have fA1 : w1.frozen? ⟨w.heap.size, k, none⟩ = false := frozen_of_row w1 w.heap.size k _ 45 hA1))
            have hidx : clsS so cl row k = L := by
              unfold clsS
              have hmem : (cl k, v) ∈ seen (keyC so cl row) (k + 1) := by rw [seen_out (by rw [HKX.out]; exact HIN.out), HKX.out]; simp
              rw [HKX.out, seen_idx (keyC so cl row) (cl k, v) 256 (k + 1) (by omega) hmem, seen_out (by rw [HKX.out]; exact HIN.out), HKX.out, idx_app HIN.out, HL.out]
            have hrow2 := heap_setCell_same w1 w.heap.size k _ 45 (.int .u8 (L : Nat)) hA1
            rw [← hidx, cM_set _ _ hlt2] at hrow2
            rw [hidx] at hrow2
            have hbel1 : Below w.heap.size w w1 := HY2.out.1.1.grown hgrow1 HY2.out.1.1.size (fun z hz => by cases hz; omega)
            have hC2 : Hid (Cw w (w1.setCell ⟨w.heap.size, k, none⟩ (.int .u8 (L : Nat))) (cM (clsS so cl row) cl (k + 1))) := Lib.hid ⟨hbel1.setCell (p := ⟨w.heap.size, k, none⟩) (Nat.le_refl _) _, hrow2⟩
            have hO2 := Lib.hid (hown1.setCell (a := ⟨w.heap.size, k, none⟩) (by show M ≠ w.heap.size; omega) (.int .u8 (L : Nat)))
            have hK2 : Hid (MK klP GP .u8 (E.put (klP (cl k, v)) (.lit (.int .u8 (L : Nat)))) (seen (keyC so cl row) (k + 1))) := Lib.hid (by
              rw [seen_out (by rw [HKX.out]; exact HIN.out), HKX.out, ← HL.out]
              exact HK.out.put klP_key klP_inj HG.out HIN.out)
            go_roundw
            case rel => exact ⟨k + 1, _, by go_num, by omega, hC2, hO2, hK2⟩
            case measure => simp [intOf]; omega
        · obtain rfl : k = 256 := by omega
          have hsz := HK.out.size
          obtain ⟨L, hL⟩ : ∃ L, (seen (keyC so cl row) 256).length = L := ⟨_, rfl⟩
          rw [hL] at hsz
          have HL := Lib.hid hL
          have hY := HY.out
          rw [cM_end] at hY
          have HY2 := Lib.hid hY
          clear hL hY HY HK
          go_wp2_with (first | (at_len; refine wpList_len_own _ rfl _ 166 rfl 167 5 Tryd.underlying166 _ M 256 E rfl HO.out ?_))
          have hn : Hid (clsG so (rows.drop (j + 1)) (clsS so cl row, L) = R) := Lib.hid (by rw [← HNX.out, ← HL.out]; rfl)
          go_roundw
          case rel => exact ⟨j + 1, clsS so cl row, L, by go_num, by first | rfl | (rw [hsz]), hn, by omega, HY2, Lib.hid (fun i hi => clsS_lt so cl row hi)⟩
          case measure => simp [intOf]; omega
    · obtain rfl : j = rows.length := by omega
      have hr2 := HR.out
      rw [List.drop_length, clsG] at hr2
      have HRR2 := Lib.hid hr2
      clear hr2 HR
      go_wp2_with (first | (refine wpList_load_C rfl (.tmp 2) rfl w.heap.size cl rfl HY.out.2 ?_) | (refine wpList_store_row rfl 45 (.tmp 2) (.tmp 60) rfl w.heap.size (cA cl) rfl rfl 45 _ HY.out.2 (by rw [info45, cA_size]) (by rw [cA_size]) (cA_one _) ?_))
      have hrow := setRow_heap wo w.heap.size _ (cA cl) 45 (0, 0) HY.out.2
      have hv : (loadVar 45 ⟨w.heap.size, 0, none⟩).run Tryd.prog (wo.setRow w.heap.size (cA cl)) = .ok (.agg (cA cl)) (wo.setRow w.heap.size (cA cl)) := run_loadVar_row _ w.heap.size 45 45 (cA cl) (0, 0) _ hrow Tryd.underlying45 rfl (by rw [info45, cA_size])
      refine bodyPost_ret (v := .tuple #[.agg (cA cl), .int .i64 (cnt : Nat)]) (by rw [results_cell_tmp rfl]; simp [asAddr, hv, Result.andThen]) rfl ⟨by rw [← HRR2.out], ?_⟩
      exact below_setRow HY.out.1 (Nat.le_refl _) _
end Go.Proofs.YthglciccejholaaDoor
