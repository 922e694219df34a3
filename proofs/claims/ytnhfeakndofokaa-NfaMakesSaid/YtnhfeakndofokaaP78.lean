/- Package nfa. -/
import Derived.Test.YtnhfeakndofokaaProg
import Derived.Test.YtnhfeakndofokaaY40
import Derived.WalkKit
import Derived.WalkLawsBesides
import Derived.WalkSpells
import Derived.Outline
import Derived.Lib.Walk
import Derived.Lib.Hide
import Derived.Lib.Slices
import Derived.Lib.Strings
import Derived.RegionTactic
import Derived.LoopTactic
import Derived.Below
import Derived.IntWalk
import Derived.Deep.QuietTactic
import Derived.BigQuiet
import Derived.Deep.MidRow
import Derived.Maps.AppendAt
import Derived.Laws.Rows
import Derived.Laws.Tables
import Derived.Deep.WholeRow
import Derived.Deep.Cut
import Derived.Deep.CutRange
import Derived.Lib.SliceRun
import Derived.Laws.MakeOwn
import Derived.Deep.RegionLaw
import Derived.Deep.RegionLawGrows
import Derived.Deep.RegionHeld3
import Derived.RegionCalls
import Derived.Deep.RegionWith
import Derived.Deep.Light
namespace Go.Proofs.Ytnhfeakndofokaa
set_option linter.unusedSimpArgs false
set_option linter.unusedVariables false
set_option maxRecDepth 100000
open Go.RowKit

/- The document's Size: the walk. -/
set_option maxHeartbeats 16000000 in
theorem sizer_any {D : Nat → Prop} {t : RT} {v : Value} {w : World} (hwd : wid t ≤ 9223372036854775806) (hD : ∀ z, D z → z < w.heap.size) (h : RV D w t v) :
    Calls Try.prog 31 #[v] w fun e w' => e = .returned (.int .i64 (min (sz t) 513 : Nat)) ∧ Below w.heap.size w w' := by
  obtain ⟨i0, hi, hz0, hz1, hz2⟩ := info_parts infoN6
  obtain ⟨k, u, p, n, c, rfl⟩ := h.form
  have S0 := (Sb.start w).alloc (.cells (nodeC k u (.slice p n c)) 56)
  have HT1 := Lib.hid (QW.one (w := w.alloc (.cells (nodeC k u (.slice p n c)) 56)) h (by simp))
  have HB1 := Lib.hid (S0.1.alloc S0.1.size (.cells (nodeC k u (.slice p n c)) 56))
  obtain ⟨R, hR⟩ : ∃ R, min (sz t) 513 = R := ⟨_, rfl⟩
  rw [hR]
  have HR := Lib.hid hR
  clear h S0 hR
  unfold nodeC at HT1 HB1 ⊢
  go_enter Try.func31, Try.ntmps31
  go_wp2
  rw [show (w.alloc (.cells #[.int .i64 k, .int .u64 (u 0), .int .u64 (u 1), .int .u64 (u 2), .int .u64 (u 3), .slice p n c] 56)).heap.size = w.heap.size + 1 from by simp] at HT1
  generalize hws : ((w.alloc (.cells #[.int .i64 k, .int .u64 (u 0), .int .u64 (u 1), .int .u64 (u 2), .int .u64 (u 3), .slice p n c] 56)).alloc (.cells #[.int .i64 k, .int .u64 (u 0), .int .u64 (u 1), .int .u64 (u 2), .int .u64 (u 3), .slice p n c] 56)) = ws at *
  clear hws
  go_loopw [3, 4] (fun i sl wr => ∃ (ts : List RT) (q : Nat), i = .int .i64 (q : Nat) ∧ q ≤ 513 ∧ ts.length ≤ 513 ∧ Hid ((q + szL ts = sz t) ∨ (512 < q + ts.length ∧ 512 < sz t)) ∧ Hid (widL ts ≤ 9223372036854775806) ∧ Hid (QW w D ts sl wr) ∧ Hid (Below w.heap.size w wr)) (fun i _ _ => 514 - (intOf i).toNat)
  case atStart => exact ⟨[t], 0, rfl, by omega, by simp, Lib.hid (.inl (by simp [szL])), Lib.hid (by simp [widL]; exact hwd), HT1, HB1⟩
  case round =>
    obtain ⟨ts, q, rfl, hqm, htm, HQ, HWD, HT, HB⟩ := hrel
    clear HT1 HB1
    obtain ⟨g, off, cap, hsl, hcap, hgb, hgl⟩ := HT.out.sl
    subst hsl
    match ts, htm, HQ, HWD, HT, hcap with
    | [], htm, HQ, HWD, HT, hcap =>
      have hans : q = R := by
        have := HQ.out
        rw [← HR.out]
        simp only [szL, List.length_nil] at this
        omega
      subst hans
      have hl0 : ¬ (0 : Int) < ((([] : List RT).length : Nat) : Int) := by simp
      go_wp2_with fail
      go_ret
      exact ⟨rfl, HB.out⟩
    | x :: ts, htm, HQ, HWD, HT, hcap =>
      simp only [List.length_cons] at htm hcap HT ⊢
      have hl1 : (0 : Int) < ((ts.length + 1 : Nat) : Int) := by omega
      by_cases hq : 512 < q
      · have hans : q = R := by
          have := HQ.out
          have := len_szL (x :: ts)
          rw [← HR.out]
          simp only [List.length_cons] at this
          have hx := HQ.out
          simp only [List.length_cons] at hx
          omega
        subst hans
        have hq2 : ¬ ((q : Nat) : Int) ≤ 512 := by omega
        go_wp2_with fail
        go_ret
        exact ⟨rfl, HB.out⟩
      · have hq2 : ((q : Nat) : Int) ≤ 512 := by omega
        obtain ⟨k1, u1, p1, n1, c1, hv, hcell⟩ := HT.out.head
        have hcell' : ∀ j y, (nodeC k1 u1 (.slice p1 n1 c1))[j]? = some y → wr.cell? ⟨g, off + j, none⟩ = some y := hcell
        have d0 : wr.cell? ⟨g, off, none⟩ = some (.int .i64 k1) := hcell 0 _ rfl
        have d1 : wr.cell? ⟨g, off + 1, none⟩ = some (.int .u64 (u1 0)) := hcell 1 _ rfl
        have d2 : wr.cell? ⟨g, off + 2, none⟩ = some (.int .u64 (u1 1)) := hcell 2 _ rfl
        have d3 : wr.cell? ⟨g, off + 3, none⟩ = some (.int .u64 (u1 2)) := hcell 3 _ rfl
        have d4 : wr.cell? ⟨g, off + 4, none⟩ = some (.int .u64 (u1 3)) := hcell 4 _ rfl
        have d5 : wr.cell? ⟨g, off + 5, none⟩ = some (.slice p1 n1 c1) := hcell 5 _ rfl
        have HV := Lib.hid hv
        have HTL := Lib.hid HT.out.tail
        have hcap' : ((ts.length : Nat) : Int) + 1 ≤ (cap : Int) := by omega
        have hc1 : (1 : Int) ≤ (cap : Int) := by omega
        obtain ⟨kx, ux, ps⟩ := x
        obtain ⟨px, cx, hvx, hpx⟩ := HV.out.parts
        have hn1 : n1 = ps.length := by simp [nodeC] at hvx; exact hvx.2.2.2.2.2.2.1
        have hp1 : p1 = px := by simp [nodeC] at hvx; exact hvx.2.2.2.2.2.1
        subst hn1
        subst hp1
        have HPX := Lib.hid hpx
        have HBx := Lib.hid ((Sb.start wr).alloc (.cells #[.int .i64 k1, .int .u64 (u1 0), .int .u64 (u1 1), .int .u64 (u1 2), .int .u64 (u1 3), .slice p1 ps.length c1] 56))
        have HB3 := Lib.hid (HB.out.trans (HBx.out.1.mono HB.out.size))
        have hgx : g ≠ wr.heap.size := by omega
        clear hvx hpx hcell hcell' hv HB
        have HT2 : ∃ off2, (if cap = 1 then some ⟨g, off, none⟩ else some ⟨g, off + 6, none⟩ : Option Addr) = some ⟨g, off2, none⟩ ∧ QW w D ts (.slice (some ⟨g, off2, none⟩) ts.length (cap - 1)) wr := by
          by_cases hc : cap = 1
          · exact ⟨off, by rw [if_pos hc], by have := HTL.out.1 hc; rw [hc]; exact this⟩
          · exact ⟨off + 6, by rw [if_neg hc], HTL.out.2 hc⟩
        obtain ⟨off2, hoff2, hqw⟩ := HT2
        have HQW := Lib.hid (hqw.up HBx.out.1)
        have HX := Lib.hid HBx.out.heap
        have hlx := HBx.out.lt
        have hsx : szL (RT.mk kx ux ps :: ts) = szL ps + 1 + szL ts := by rw [szL, sz]
        have hps := len_szL ps
        have hlen := len_szL ts
        have HQ2 := Lib.hid HQ.out
        rw [hsx, List.length_cons] at HQ2
        have hwx : wid (.mk kx ux ps) ≤ 9223372036854775806 ∧ widL ts ≤ 9223372036854775806 := by
          have := HWD.out
          simp only [widL] at this
          omega
        obtain ⟨hpl, hwps⟩ := wid_mk hwx.1
        clear HQ HWD HT HTL hqw HBx hcap
        go_upto_region 6 with fail
        try rw [hoff2]
        clear hoff2 d0 d1 d2 d3 d4 d5
        generalize (wr.alloc (.cells #[.int .i64 k1, .int .u64 (u1 0), .int .u64 (u1 1), .int .u64 (u1 2), .int .u64 (u1 3), .slice p1 ps.length c1] 56)) = wx at *
        generalize cap - 1 = cap2 at *
        go_wp2
        generalize wr.heap.size = bx at *
        go_loopw [4, 6] (fun sl i w2 => ∃ j : Nat, i = .int .i64 (j : Nat) ∧ j ≤ ps.length ∧ ts.length + j ≤ 513 ∧ Hid (QW w D (ts ++ ps.take j) sl w2) ∧ Hid (Below w.heap.size w w2) ∧ Hid (w2.heap[bx]? = some (.cells #[.int .i64 k1, .int .u64 (u1 0), .int .u64 (u1 1), .int .u64 (u1 2), .int .u64 (u1 3), .slice p1 ps.length c1] 56 (0, 0))) ∧ ∀ g' o' n' c', sl = .slice (some ⟨g', o', none⟩) n' c' → g' ≠ bx) (fun _ i _ => ps.length - (intOf i).toNat)
        case atStart => exact ⟨0, rfl, by omega, by omega, by simpa using HQW, HB3, HX, fun g' o' n' c' h => by simp at h; omega⟩
        case round =>
          obtain ⟨j, rfl, hj, hjm, HTj, HBj, HXj, hown⟩ := hrel
          clear HQW HB3 HX
          have c5 : wr.cell? ⟨bx, 5, none⟩ = some (.slice p1 ps.length c1) := cell_of_row wr bx 5 _ 56 (0, 0) HXj.out
          obtain ⟨g2, o2, cap3, hsl, hcap3, hgb2, hgl2⟩ := HTj.out.sl
          have hlj : (ts ++ ps.take j).length = ts.length + j := by simp; omega
          rw [hlj] at hsl hcap3
          subst hsl
          have hg2 := hown _ _ _ _ rfl
          by_cases hlt2 : j < ps.length
          · have hlt3 : (j : Int) < ((ps.length : Nat) : Int) := by omega
            by_cases hfull : ¬ ts.length + j ≤ 512
            · have hle : ¬ ((ts.length : Nat) : Int) + (j : Int) ≤ 512 := by omega
              have htkl : (ps.take j).length = j := by rw [List.length_take]; omega
              have hpl2 := widL_take ps j
              have hbig : 512 < sz t := by
                have := HQ2.out
                omega
              have hwd2 : widL (ts ++ ps.take j) ≤ 9223372036854775806 := by
                have := widL_appL ts (ps.take j)
                have := hwps2 ps hwps
                omega
              go_wp2_with fail
              go_roundw
              case rel => exact ⟨ts ++ ps.take j, q + 1, by go_num, by omega, by rw [List.length_append, htkl]; omega, Lib.hid (.inr ⟨by rw [List.length_append, htkl]; omega, hbig⟩), Lib.hid hwd2, HTj, HBj⟩
              case measure => simp [intOf]; omega
            · have hle : ((ts.length : Nat) : Int) + (j : Int) ≤ 512 := by omega
              have hne : ps ≠ [] := by intro e; subst e; simp at hlt2
              obtain ⟨b', o', rfl, hDb, hx⟩ := HPX.out hne
              obtain ⟨k5, u5, p5, n5, c5', hv5, hc5⟩ := hx j hlt2
              have hbw := hD b' hDb
              have cc5 : ∀ i y, (nodeC k5 u5 (.slice p5 n5 c5'))[i]? = some y → wr.cell? ⟨b', o' + j * 6 + i, none⟩ = some y := fun i y hy => by
                rw [HBj.out.cell (p := ⟨b', o' + j * 6 + i, none⟩) hbw, ← hc5 i y hy, show o' + j * 6 + i = o' + (6 * j + i) by omega]
              have f0 : wr.cell? ⟨b', o' + j * 6, none⟩ = some (.int .i64 k5) := cc5 0 _ rfl
              have f1 : wr.cell? ⟨b', o' + j * 6 + 1, none⟩ = some (.int .u64 (u5 0)) := cc5 1 _ rfl
              have f2 : wr.cell? ⟨b', o' + j * 6 + 2, none⟩ = some (.int .u64 (u5 1)) := cc5 2 _ rfl
              have f3 : wr.cell? ⟨b', o' + j * 6 + 3, none⟩ = some (.int .u64 (u5 2)) := cc5 3 _ rfl
              have f4 : wr.cell? ⟨b', o' + j * 6 + 4, none⟩ = some (.int .u64 (u5 3)) := cc5 4 _ rfl
              have f5 : wr.cell? ⟨b', o' + j * 6 + 5, none⟩ = some (.slice p5 n5 c5') := cc5 5 _ rfl
              have htk : ts ++ ps.take (j + 1) = (ts ++ ps.take j) ++ [ps[j]] := by rw [List.take_succ_eq_append_getElem hlt2, List.append_assoc]
              have HV5 := Lib.hid hv5
              have hbxl := (Array.getElem?_eq_some_iff.1 HXj.out).1
              have HA : Hid (Below wr.heap.size wr (wr.alloc (.cells #[.int .i64 k5, .int .u64 (u5 0), .int .u64 (u5 1), .int .u64 (u5 2), .int .u64 (u5 3), .slice p5 n5 c5'] 56))) := Lib.hid ((Below.refl _ _).alloc (Nat.le_refl _) _)
              have hsz7 : (wr.alloc (.cells #[.int .i64 k5, .int .u64 (u5 0), .int .u64 (u5 1), .int .u64 (u5 2), .int .u64 (u5 3), .slice p5 n5 c5'] 56)).heap.size = wr.heap.size + 1 := by simp
              have hwl := HBj.out.size
              have HQX := HTj.out
              obtain ⟨g'', off'', cap'', xs, cur, y1, y2, y3, y4, y5, y6, y7, y8, y9⟩ := HQX
              rw [hlj] at y1 y6 y9
              simp only [Value.slice.injEq, Option.some.injEq, Addr.mk.injEq] at y1
              obtain ⟨⟨rfl, rfl, -⟩, -, rfl⟩ := y1
              have hfl := flat6_len6 y7
              have hgA : (wr.alloc (.cells #[.int .i64 k5, .int .u64 (u5 0), .int .u64 (u5 1), .int .u64 (u5 2), .int .u64 (u5 3), .slice p5 n5 c5'] 56)).heap[g2]? = some (.cells cur 56 (0, 0)) := (HA.out.block g2 hgl2).trans y4
              have HGA := Lib.hid hgA
              have HY6 := Lib.hid y6
              have HY7 := Lib.hid y7
              have HY8 := Lib.hid y8
              have HY9 := Lib.hid y9
              have HFL := Lib.hid hfl
              have hcs := y5
              clear cc5 hc5 hx hv5 y6 y7 y8 y9 y4 hgA hfl y3 y5 y2
              go_wp2_with (at_builtin; refine wpList_append_arg _ rfl (.tmp 35) (.tmp 41) 54 rfl 56 i0 (.agg (nodeC 0 u0 (.slice none 0 0))) 6 64 Try.underlying54 hi hz0 hz1 hz2 rfl (by decide) g2 o2 (ts.length + j) cap3 (flat6 xs) rfl ?lo ?holds ⟨wr.heap.size, 0, none⟩ 1 1 (nodeC k5 u5 (.slice p5 n5 c5')).toList rfl rfl ?c1 ?c2 ?sp ?b1 ?b2 ?room ?grow)
              case lo => rw [HFL.out, HY6.out]
              case holds =>
                intro i y hy
                have hil : i < (flat6 xs).length := (List.getElem?_eq_some_iff.1 hy).1
                rw [HFL.out, HY6.out] at hil
                rw [cell_of_row _ g2 _ cur 56 (0, 0) HGA.out, HY9.out i hil]
                exact hy
              case c1 =>
                intro i y hy
                rw [Addr.add_mid, cell_of_row _ wr.heap.size (0 + i) _ 56 (0, 0) (heap_alloc_last wr _), Nat.zero_add]
                rw [Array.getElem?_toList] at hy; exact hy
              case c2 => exact fun u hu => (Array.all_eq_true_iff_forall_mem.1 (nodeC_one k5 u5 p5 n5 c5')) u (by simpa using hu)
              case sp =>
                intro hroom i hi'
                have hi6 : i < 6 := hi'
                refine ⟨?_, frozen_of_row _ g2 _ cur 56 HGA.out⟩
                rw [cell_of_row _ g2 _ cur 56 (0, 0) HGA.out, Array.getElem?_eq_getElem (by omega)]
                rfl
              case b1 => unfold maxLen; omega
              case b2 => omega
              case room =>
                intro hroom
                have HQN : Hid (QW w D (ts ++ ps.take (j + 1)) (.slice (some ⟨g2, o2, none⟩) (ts.length + j + 1) cap3) ((wr.alloc (.cells #[.int .i64 k5, .int .u64 (u5 0), .int .u64 (u5 1), .int .u64 (u5 2), .int .u64 (u5 3), .slice p5 n5 c5'] 56)).setCells g2 (o2 + (ts.length + j) * 6) (nodeC k5 u5 (.slice p5 n5 c5')).toList)) := Lib.hid (by
                  rw [htk]
                  have := QW.room (by rw [hlj]; exact HTj.out) HV5.out HA.out (by rw [hlj]; exact hroom)
                  rw [hlj] at this
                  exact this)
                have HBN := Lib.hid (setCells_below hgb2 (nodeC k5 u5 (.slice p5 n5 c5')).toList (o2 + (ts.length + j) * 6) _ (HBj.out.trans (HA.out.mono hwl)))
                have HXN : Hid (((wr.alloc (.cells #[.int .i64 k5, .int .u64 (u5 0), .int .u64 (u5 1), .int .u64 (u5 2), .int .u64 (u5 3), .slice p5 n5 c5'] 56)).setCells g2 (o2 + (ts.length + j) * 6) (nodeC k5 u5 (.slice p5 n5 c5')).toList).heap[bx]? = some (.cells #[.int .i64 k1, .int .u64 (u1 0), .int .u64 (u1 1), .int .u64 (u1 2), .int .u64 (u1 3), .slice (some ⟨b', o', none⟩) ps.length c1] 56 (0, 0))) := Lib.hid (by
                  rw [setCells_other (fun e => hg2 e.symm)]
                  exact (HA.out.block bx hbxl).trans HXj.out)
                generalize ((wr.alloc (.cells #[.int .i64 k5, .int .u64 (u5 0), .int .u64 (u5 1), .int .u64 (u5 2), .int .u64 (u5 3), .slice p5 n5 c5'] 56)).setCells g2 (o2 + (ts.length + j) * 6) (nodeC k5 u5 (.slice p5 n5 c5')).toList) = wN at *
                clear HTj HBj HXj HA HGA HY6 HY7 HY8 HY9 HFL HV5 htk f0 f1 f2 f3 f4 f5 c5
                go_wp2_with fail
                go_roundw
                case rel => exact ⟨j + 1, by go_num, by omega, by omega, HQN, HBN, HXN, fun g' o' n' c' h => by simp at h; rw [← h.1.1]; exact hg2⟩
                case measure => simp [intOf]; omega
              case grow =>
                intro hfullc v' w8 hown8 hgrow8
                have HQN : Hid (QW w D (ts ++ ps.take (j + 1)) v' w8) := Lib.hid (by
                  rw [htk]
                  exact QW.grow (w1 := wr.alloc (.cells #[.int .i64 k5, .int .u64 (u5 0), .int .u64 (u5 1), .int .u64 (u5 2), .int .u64 (u5 3), .slice p5 n5 c5'] 56)) (w := wr) (g := g2) (off := o2) (cap := cap3) (by rw [hlj]; exact HY6.out) HY7.out HY8.out HV5.out (by rw [hsz7]; omega) (by rw [hlj, hsz7]; exact hown8))
                have HBN := Lib.hid (below_grown6 (HBj.out.trans (HA.out.mono hwl)) hgrow8 (fun g h => by cases h) (by rw [hsz7]; omega))
                have HXN : Hid (w8.heap[bx]? = some (.cells #[.int .i64 k1, .int .u64 (u1 0), .int .u64 (u1 1), .int .u64 (u1 2), .int .u64 (u1 3), .slice (some ⟨b', o', none⟩) ps.length c1] 56 (0, 0))) := Lib.hid
                  ((hgrow8.block bx (by rw [hsz7]; omega) (fun e => by cases e)).trans ((HA.out.block bx hbxl).trans HXj.out))
                have hnb : ∀ g' o' n' c', v' = .slice (some ⟨g', o', none⟩) n' c' → g' ≠ bx := fun g' o' n' c' h => by
                  rcases hown8.2 with ⟨hv, _⟩ | ⟨g9, cap9, cur9, hv, hg9, _⟩
                  · rw [hv] at h; simp at h
                  · rw [hv] at h
                    simp at h
                    omega
                clear hown8 hgrow8 HTj HBj HXj HA HGA HY6 HY7 HY8 HY9 HFL HV5 htk f0 f1 f2 f3 f4 f5 c5
                go_wp2_with fail
                go_roundw
                case rel => exact ⟨j + 1, by go_num, by omega, by omega, HQN, HBN, HXN, hnb⟩
                case measure => simp [intOf]; omega
          · obtain rfl : j = ps.length := by omega
            have hlt3 : ¬ ((ps.length : Nat) : Int) < ((ps.length : Nat) : Int) := by omega
            rw [List.take_length] at HTj
            have hwd2 : widL (ts ++ ps) ≤ 9223372036854775806 := by
              have := widL_appL ts ps
              have := hwps2 ps hwps
              omega
            have hq2' : (q + 1 + szL (ts ++ ps) = sz t) ∨ (512 < q + 1 + (ts ++ ps).length ∧ 512 < sz t) := by
              have := HQ2.out
              rw [szL_app, List.length_append]
              omega
            go_wp2_with fail
            go_roundw
            case rel => exact ⟨ts ++ ps, q + 1, by go_num, by omega, by rw [List.length_append]; omega, Lib.hid hq2', Lib.hid hwd2, HTj, HBj⟩
            case measure => simp [intOf]; omega
end Go.Proofs.Ytnhfeakndofokaa
