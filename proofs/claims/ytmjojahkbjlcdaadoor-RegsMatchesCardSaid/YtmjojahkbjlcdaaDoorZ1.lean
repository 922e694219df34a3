/- Texts of package regs, one behind the other. -/
import Derived.Test.YtmjojahkbjlcdaaDoorX33
import Derived.Test.YtmjojahkbjlcdaaDoorX22
import Derived.Test.YtmjojahkbjlcdaaDoorX21
import Derived.Test.YtmjojahkbjlcdaaDoorG45
import Derived.Test.YtmjojahkbjlcdaaDoorG37
import Derived.Test.YtmjojahkbjlcdaaDoorG46
import Derived.WalkKit
import Derived.WalkLawsBesides
import Derived.WalkSpells
import Derived.Outline
import Derived.Lib.Walk
import Derived.Lib.Hide
import Derived.RegionTactic
import Derived.LoopTactic
import Derived.Below
import Derived.IntWalk
import Derived.Deep.QuietTactic
import Derived.BigQuiet
import Derived.Deep.Slices
import Derived.OpenShut
import Derived.Laws.IdiomArrays
import Derived.Deep.SlicePairs
import Derived.WideBlind
import Derived.Deep.RegionHeld3
import Derived.RegionCalls
import Derived.Deep.RegionWith
namespace Go.Proofs.YtmjojahkbjlcdaaDoor
set_option linter.unusedSimpArgs false
set_option linter.unusedVariables false
set_option maxRecDepth 100000
open Go.RowKit
section
/- RegBig of whatever tree. -/
theorem widL_app2 : ∀ (ts : List RT) (x : RT), wid x ≤ widL (ts ++ [x]) ∧ widL ts ≤ widL (ts ++ [x])
  | [], x => by simp [widL]
  | a :: ts, x => by
    have := widL_app2 ts x
    simp only [List.cons_append, widL]
    omega
theorem widL_appL : ∀ (xs ys : List RT), widL (xs ++ ys) ≤ max (widL xs) (widL ys)
  | [], ys => by simp [widL]
  | a :: xs, ys => by
    have := widL_appL xs ys
    simp only [List.cons_append, widL]
    omega
theorem widL_take (ps : List RT) (j : Nat) : widL (ps.take j) ≤ widL ps := by
  have e : ps.take j ++ ps.drop j = ps := List.take_append_drop j ps
  have : ∀ (xs ys : List RT), widL xs ≤ widL (xs ++ ys) := fun xs ys => by
    induction xs with
    | nil => simp [widL]
    | cons a xs ih => simp only [List.cons_append, widL]; omega
  have h := this (ps.take j) (ps.drop j)
  rwa [e] at h
theorem hwps2 : ∀ (ps : List RT), (∀ i (h : i < ps.length), wid ps[i] ≤ 9223372036854775806) → widL ps ≤ 9223372036854775806
  | [], _ => by simp [widL]
  | p :: ps, h => by
    have h1 := h 0 (by simp)
    have h2 := hwps2 ps fun i hi => by have := h (i + 1) (by simpa using hi); simpa using this
    simp only [widL]
    simp at h1
    omega
set_option maxHeartbeats 8000000 in
theorem big_any {D : Nat → Prop} {t : RT} {v : Value} {w : World} (m : Nat) (hm2 : m ≤ 1000000) (hwd : wid t ≤ 9223372036854775806) (hD : ∀ z, D z → z < w.heap.size) (h : RV D w t v) :
    Calls Tryd.prog 13 #[v, .int .i64 (m : Nat)] w fun e w' => e = .returned (.bool (decide (m < sz t))) ∧ Below w.heap.size w w' := by
  obtain ⟨i0, hi, hz0, hz1, hz2⟩ := info_parts infoN
  obtain ⟨k, u, p, n, c, rfl⟩ := h.form
  have S0 := (Sb.start w).alloc (.cells (nodeC k u (.slice p n c)) 27)
  have HT1 := Lib.hid (TB.one (w := w.alloc (.cells (nodeC k u (.slice p n c)) 27)) h (by simp))
  have HB1 := Lib.hid (S0.1.alloc S0.1.size (.cells (nodeC k u (.slice p n c)) 27))
  clear h S0
  unfold nodeC at HT1 HB1 ⊢
  go_enter Tryd.func13, Tryd.ntmps13
  go_wp2
  rw [show (w.alloc (.cells #[.int .i64 k, .int .u64 (u 0), .int .u64 (u 1), .int .u64 (u 2), .int .u64 (u 3), .slice p n c] 27)).heap.size = w.heap.size + 1 from by simp] at HT1
  generalize hws : ((w.alloc (.cells #[.int .i64 k, .int .u64 (u 0), .int .u64 (u 1), .int .u64 (u 2), .int .u64 (u 3), .slice p n c] 27)).alloc (.cells #[.int .i64 k, .int .u64 (u 0), .int .u64 (u 1), .int .u64 (u 2), .int .u64 (u 3), .slice p n c] 27)) = ws at *
  clear hws
  go_loopw [5, 6] (fun sl i wr => ∃ (ts : List RT) (q : Nat), i = .int .i64 (q : Nat) ∧ q ≤ m ∧ ts.length ≤ m + 1 ∧ Hid ((q + szL ts = sz t) ∨ (m < q + ts.length ∧ m < sz t)) ∧ Hid (widL ts ≤ 9223372036854775806) ∧ Hid (TB w D ts sl wr) ∧ Hid (Below w.heap.size w wr)) (fun _ i _ => m + 1 - (intOf i).toNat)
  case atStart => exact ⟨[t], 0, rfl, by omega, by simp, Lib.hid (.inl (by simp [szL])), Lib.hid (by simp [widL]; exact hwd), HT1, HB1⟩
  case round =>
    obtain ⟨ts, q, rfl, hqm, htm, HQ, HWD, HT, HB⟩ := hrel
    clear HT1 HB1
    rcases List.eq_nil_or_concat ts with rfl | ⟨ts, x, rfl⟩
    · obtain ⟨a, c', hsl⟩ := HT.out.sl
      rw [List.length_nil] at hsl
      subst hsl
      have hans : decide (m < sz t) = false := by
        have := HQ.out
        simp only [szL, List.length_nil] at this
        simp; omega
      go_wp2
      go_ret
      exact ⟨by show _ = Ending.returned (.bool (decide (m < sz t))); rw [hans]; rfl, HB.out⟩
    · rw [List.concat_eq_append] at HT HQ HWD htm
      obtain ⟨g, cap, k1, u1, p1, n1, c1, hsl, hg, hgl, hv, hcell, hTB, hcap⟩ := HT.out.last
      subst hsl
      have hsx : szL (ts ++ [x]) = szL ts + sz x := by rw [szL_app]; simp [szL]
      have hsp := sz_pos x
      have hlen := len_szL ts
      have d0 : wr.cell? ⟨g, ts.length * 6, none⟩ = some (.int .i64 k1) := hcell 0 _ rfl
      have d1 : wr.cell? ⟨g, ts.length * 6 + 1, none⟩ = some (.int .u64 (u1 0)) := hcell 1 _ rfl
      have d2 : wr.cell? ⟨g, ts.length * 6 + 2, none⟩ = some (.int .u64 (u1 1)) := hcell 2 _ rfl
      have d3 : wr.cell? ⟨g, ts.length * 6 + 3, none⟩ = some (.int .u64 (u1 2)) := hcell 3 _ rfl
      have d4 : wr.cell? ⟨g, ts.length * 6 + 4, none⟩ = some (.int .u64 (u1 3)) := hcell 4 _ rfl
      have d5 : wr.cell? ⟨g, ts.length * 6 + 5, none⟩ = some (.slice p1 n1 c1) := hcell 5 _ rfl
      have HT2 := Lib.hid hTB
      have HV := Lib.hid hv
      have hlt : (0 : Int) < ((ts.length : Nat) : Int) + 1 := by omega
      have hcap' : ((ts.length : Nat) : Int) ≤ (cap : Int) := by omega
      clear hcell hTB hv HT
      obtain ⟨kx, ux, ps⟩ := x
      obtain ⟨px, cx, hvx, hpx⟩ := HV.out.parts
      have hn1 : n1 = ps.length := by simp [nodeC] at hvx; exact hvx.2.2.2.2.2.2.1
      have hp1 : p1 = px := by simp [nodeC] at hvx; exact hvx.2.2.2.2.2.1
      subst hn1
      subst hp1
      have HPX := Lib.hid hpx
      have hps := len_szL ps
      simp only [sz] at hsx hsp
      have hwx : wid (.mk kx ux ps) ≤ 9223372036854775806 ∧ widL ts ≤ 9223372036854775806 := by
        have := widL_app2 ts (.mk kx ux ps)
        have := HWD.out
        omega
      obtain ⟨hpl, hwps⟩ := wid_mk hwx.1
      rw [List.length_append, List.length_singleton] at htm
      have HQ2 := Lib.hid HQ.out
      rw [hsx, List.length_append, List.length_singleton] at HQ2
      clear HQ HWD
      have HBx := Lib.hid ((Sb.start wr).alloc (.cells #[.int .i64 k1, .int .u64 (u1 0), .int .u64 (u1 1), .int .u64 (u1 2), .int .u64 (u1 3), .slice p1 ps.length c1] 27))
      have HT3 := Lib.hid (HT2.out.up HBx.out.1)
      have HB3 := Lib.hid (HB.out.trans (HBx.out.1.mono HB.out.size))
      have hgx : g ≠ wr.heap.size := by omega
      have hlx := HBx.out.lt
      clear hvx hpx HT2 HB
      by_cases hcut : m ≤ q
      · have hans : decide (m < sz t) = true := by
          have := HQ2.out
          simp; omega
        have hcut2 : ((m : Nat) : Int) ≤ ((q : Nat) : Int) := by omega
        clear HQ2
        go_wp2_with fail
        go_ret
        exact ⟨by first | rfl | (show _ = Ending.returned (.bool (decide (m < sz t))); rw [hans]; rfl), HB3.out⟩
      have hcut2 : ¬ ((m : Nat) : Int) ≤ ((q : Nat) : Int) := by omega
      by_cases hbg : m < ps.length
      · have hans : decide (m < sz t) = true := by
          have := HQ2.out
          simp; omega
        have hbg2 : ((m : Nat) : Int) < ((ps.length : Nat) : Int) := by omega
        clear HQ2
        go_wp2_with fail
        go_ret
        exact ⟨by first | rfl | (show _ = Ending.returned (.bool (decide (m < sz t))); rw [hans]; rfl), HB3.out⟩
      have hbg2 : ¬ ((m : Nat) : Int) < ((ps.length : Nat) : Int) := by omega
      go_upto_region 9 with fail
      generalize (wr.alloc (.cells #[.int .i64 k1, .int .u64 (u1 0), .int .u64 (u1 1), .int .u64 (u1 2), .int .u64 (u1 3), .slice p1 ps.length c1] 27)) = wx at *
      have HX := Lib.hid HBx.out.heap
      clear HBx d0 d1 d2 d3 d4 d5
      go_wp2
      generalize wr.heap.size = bx at *
      go_loopw [5, 8] (fun sl i w2 => ∃ j : Nat, i = .int .i64 (j : Nat) ∧ j ≤ ps.length ∧ ts.length + j ≤ m + 1 ∧ Hid (TB w D (ts ++ ps.take j) sl w2) ∧ Hid (Below w.heap.size w w2) ∧ Hid (w2.heap[bx]? = some (.cells #[.int .i64 k1, .int .u64 (u1 0), .int .u64 (u1 1), .int .u64 (u1 2), .int .u64 (u1 3), .slice p1 ps.length c1] 27 (0, 0))) ∧ ∀ g', sl.ownBlock = some g' → g' ≠ bx) (fun _ i _ => ps.length - (intOf i).toNat)
      case atStart => exact ⟨0, rfl, by omega, by omega, by simpa using HT3, HB3, HX, fun g' h => by simp [Value.ownBlock] at h; omega⟩
      case round =>
        obtain ⟨j, rfl, hj, hjm, HTj, HBj, HXj, hown⟩ := hrel
        clear HT3 HB3 HX
        have c5 : wr.cell? ⟨bx, 5, none⟩ = some (.slice p1 ps.length c1) := cell_of_row wr bx 5 _ 27 (0, 0) HXj.out
        obtain ⟨a, cc, hsl⟩ := HTj.out.sl
        have hlj : (ts ++ ps.take j).length = ts.length + j := by simp; omega
        rw [hlj] at hsl
        subst hsl
        by_cases hlt2 : j < ps.length
        · have hlt3 : (j : Int) < ((ps.length : Nat) : Int) := by omega
          by_cases hfull : ¬ ts.length + j ≤ m
          · have hle : ¬ ((ts.length : Nat) : Int) + (j : Int) ≤ (m : Int) := by omega
            have htkl : (ps.take j).length = j := by rw [List.length_take]; omega
            have hpl2 := widL_take ps j
            have hbig : m < sz t := by
              have := HQ2.out
              omega
            have hwd2 : widL (ts ++ ps.take j) ≤ 9223372036854775806 := by
              have := widL_appL ts (ps.take j)
              have := hwps2 ps hwps
              omega
            go_wp2_with fail
            go_roundw
            case rel => exact ⟨ts ++ ps.take j, q + 1, by go_num, by omega, by rw [List.length_append, htkl]; omega, Lib.hid (.inr ⟨by rw [List.length_append, htkl]; omega, hbig⟩), Lib.hid hwd2, HTj, HBj⟩
            case measure => simp [intOf]; omega
          have hle : ((ts.length : Nat) : Int) + (j : Int) ≤ (m : Int) := by omega
          have hne : ps ≠ [] := by intro e; subst e; simp at hlt2
          obtain ⟨b', o', rfl, hDb, hx⟩ := HPX.out hne
          obtain ⟨k5, u5, p5, n5, c5', hv5, hc5⟩ := hx j hlt2
          have hbw := hD b' hDb
          have cc5 : ∀ i y, (nodeC k5 u5 (.slice p5 n5 c5'))[i]? = some y → wr.cell? ⟨b', o' + j * 6 + i, none⟩ = some y := fun i y hy => by
            rw [HBj.out.cell (p := ⟨b', o' + j * 6 + i, none⟩) hbw, ← hc5 i y hy, show o' + j * 6 + i = o' + (6 * j + i) by omega]
          have f0 : wr.cell? ⟨b', o' + j * 6, none⟩ = some (.int .i64 k5) := cc5 0 _ rfl
          have f1 : wr.cell? ⟨b', o' + j * 6 + 1, none⟩ = some (.int .u64 (u5 0)) := cc5 1 _ rfl
          have f2 : wr.cell? ⟨b', o' + j * 6 + 2, none⟩ = some (.int .u64 (u5 1)) := cc5 2 _ rfl
          have f3 : wr.cell? ⟨b', o' + j * 6 + 3, none⟩ = some (.int .u64 (u5 2)) := cc5 3 _ rfl
          have f4 : wr.cell? ⟨b', o' + j * 6 + 4, none⟩ = some (.int .u64 (u5 3)) := cc5 4 _ rfl
          have f5 : wr.cell? ⟨b', o' + j * 6 + 5, none⟩ = some (.slice p5 n5 c5') := cc5 5 _ rfl
          obtain ⟨xs, x1, x2, x3, x4⟩ := HTj.out
          rw [hlj] at x4
          have X1 := Lib.hid x1
          have X2 := Lib.hid x2
          have X3 := Lib.hid x3
          have X4 := Lib.hid (World.ownsRow.alloc x4 (.cells #[.int .i64 k5, .int .u64 (u5 0), .int .u64 (u5 1), .int .u64 (u5 2), .int .u64 (u5 3), .slice p5 n5 c5'] 27))
          have HC0 : Hid (∀ j u, (nodeC k5 u5 (.slice p5 n5 c5')).toList[j]? = some u → (wr.alloc (.cells #[.int .i64 k5, .int .u64 (u5 0), .int .u64 (u5 1), .int .u64 (u5 2), .int .u64 (u5 3), .slice p5 n5 c5'] 27)).cell? ((⟨wr.heap.size, 0, none⟩ : Addr).add j) = some u) := Lib.hid fun j u hj => by
            rw [Addr.add_mid, cell_of_row _ wr.heap.size (0 + j) _ 27 (0, 0) (heap_alloc_last wr _), Nat.zero_add]
            rw [Array.getElem?_toList] at hj; exact hj
          have HV5 := Lib.hid hv5
          have hbxl := (Array.getElem?_eq_some_iff.1 HXj.out).1
          have hwl := HBj.out.size
          have HA : Hid (Below wr.heap.size wr (wr.alloc (.cells #[.int .i64 k5, .int .u64 (u5 0), .int .u64 (u5 1), .int .u64 (u5 2), .int .u64 (u5 3), .slice p5 n5 c5'] 27))) := Lib.hid ((Below.refl _ _).alloc (Nat.le_refl _) _)
          clear cc5 hc5 hx x1 x2 x3 x4 hv5
          go_wp2_with (at_builtin; refine wpList_append_own_at _ rfl (.tmp 50) (.tmp 56) 25 rfl w.heap.size 27 i0 (.agg (nodeC 0 u0 (.slice none 0 0))) 6 64 Tryd.underlying25 hi hz0 hz1 hz2 rfl (by decide) (.slice a (ts.length + j) cc) (ts.length + j) (flat xs) rfl ?c0 ⟨wr.heap.size, 0, none⟩ 1 1 (nodeC k5 u5 (.slice p5 n5 c5')).toList rfl rfl ?c1 ?c2 ?c3 ?c4 ?c5 ?_)
          case c0 => exact X4.out
          case c1 => exact HC0.out
          case c2 => exact fun u hu => (Array.all_eq_true_iff_forall_mem.1 (nodeC_one k5 u5 p5 n5 c5')) u (by simpa using hu)
          case c3 => unfold maxLen; omega
          case c4 => omega
          case c5 => simp; omega
          intro v' w7 hown7 hgrow7 _ hat7
          have hbase := fun g (hg : (Value.slice a (ts.length + j) cc).ownBlock = some g) => (World.ownsRow.lt X4.out g hg).1
          have htk : ts ++ ps.take (j + 1) = (ts ++ ps.take j) ++ [ps[j]] := by rw [List.take_succ_eq_append_getElem hlt2, List.append_assoc]
          have HTA : Hid (TB w D (ts ++ ps.take (j + 1)) v' w7) := Lib.hid (by
            rw [htk]
            exact TB.app X1.out X2.out X3.out HV5.out (by rw [hlj]; exact hown7))
          have HBA : Hid (Below w.heap.size w w7) := Lib.hid (below_grown (HBj.out.trans (HA.out.mono hwl)) hgrow7 hbase (Nat.le_trans hwl HA.out.size))
          have HXA : Hid (w7.heap[bx]? = some (.cells #[.int .i64 k1, .int .u64 (u1 0), .int .u64 (u1 1), .int .u64 (u1 2), .int .u64 (u1 3), .slice (some ⟨b', o', none⟩) ps.length c1] 27 (0, 0))) := Lib.hid
            ((hgrow7.block bx (Nat.lt_of_lt_of_le hbxl HA.out.size) (fun e => hown bx e.symm rfl)).trans ((HA.out.block bx hbxl).trans HXj.out))
          have hoA : ∀ g', v'.ownBlock = some g' → g' ≠ bx := fun g' hg' => by
            rcases hat7 with e | e
            · exact hown g' (e.symm.trans hg')
            · rw [e] at hg'
              have h1 := Option.some.inj hg'
              have h2 := HA.out.size
              omega
          clear hown7 hgrow7 hat7 hbase htk X1 X2 X3 X4 HC0 HV5 HTj HBj HXj hown HA f0 f1 f2 f3 f4 f5 c5
          go_wp2_with fail
          go_roundw
          case rel => exact ⟨j + 1, by go_num, by omega, by omega, HTA, HBA, HXA, hoA⟩
          case measure => simp [intOf]; omega
        · obtain rfl : j = ps.length := by omega
          have hlt3 : ¬ ((ps.length : Nat) : Int) < ((ps.length : Nat) : Int) := by omega
          rw [List.take_length] at HTj
          have hwd2 : widL (ts ++ ps) ≤ 9223372036854775806 := by
            have := widL_appL ts ps
            have := hwps2 ps hwps
            omega
          have hq2 : (q + 1 + szL (ts ++ ps) = sz t) ∨ (m < q + 1 + (ts ++ ps).length ∧ m < sz t) := by
            have := HQ2.out
            rw [szL_app, List.length_append]
            omega
          go_wp2_with fail
          go_roundw
          case rel => exact ⟨ts ++ ps, q + 1, by go_num, by omega, by rw [List.length_append]; omega, Lib.hid hq2, Lib.hid hwd2, HTj, HBj⟩
          case measure => simp [intOf]; omega
end
/-- A pattern in a box of its own. -/
def PBox (b : Nat) (t : RT) (y : World) : Prop := ∃ (k : Int) (u : Nat → Int) (p : Option Addr) (n c : Nat), y.heap[b]? = some (.cells (nodeC k u (.slice p n c)) 27) ∧ RV (fun z => z < y.heap.size) y t (.agg (nodeC k u (.slice p n c)))
theorem PBox.up {b : Nat} {t : RT} {y z : World} (h : PBox b t y) (hb : Below y.heap.size y z) : PBox b t z := by
  obtain ⟨k, u, p, n, c, h1, h2⟩ := h
  exact ⟨k, u, p, n, c, (hb.block b (Array.getElem?_eq_some_iff.1 h1).1).trans h1, RV.mono (fun a ha => Nat.lt_of_lt_of_le ha hb.size) (fun a _ hlt => hb.block a hlt) h2⟩
theorem PBox.new {D : Nat → Prop} {t : RT} {y : World} {k : Int} {u : Nat → Int} {p : Option Addr} {n c : Nat} (hD : ∀ b, D b → b < y.heap.size) (h : RV D y t (.agg (nodeC k u (.slice p n c)))) : PBox y.heap.size t (y.alloc (.cells (nodeC k u (.slice p n c)) 27)) := by
  refine ⟨k, u, p, n, c, heap_alloc_last y _, RV.mono (fun b hb => by have := hD b hb; simp; omega) (fun b _ hlt => ?_) h⟩
  exact ((Below.refl y.heap.size y).alloc (Nat.le_refl _) (.cells (nodeC k u (.slice p n c)) 27)).block b hlt
def Rst (w : World) (b1 b2 : Nat) (t1 t2 : RT) (y : World) : Prop := PBox b1 t1 y ∧ PBox b2 t2 y ∧ Below w.heap.size w y ∧ Tb y ∧ 0 < y.heap.size
theorem Rst.up {w : World} {b1 b2 : Nat} {t1 t2 : RT} {y z : World} (h : Rst w b1 b2 t1 t2 y) (hb : Below y.heap.size y z) : Rst w b1 b2 t1 t2 z :=
  ⟨h.1.up hb, h.2.1.up hb, h.2.2.1.trans (hb.mono h.2.2.1.size), h.2.2.2.1.mono (hb.block 0 h.2.2.2.2), Nat.lt_of_lt_of_le h.2.2.2.2 hb.size⟩
theorem prt_hid {t : RT} (hok : okT t) (hw : wid t ≤ 9223372036854775806) {R : List UInt8} {F : Int} (hp : prtP t = (R, F)) {D : Nat → Prop} {v : Value} {y : World} (hD : ∀ b, D b → b < y.heap.size) (h : RV D y t v) :
    Hid (∀ z, Below y.heap.size y z → Calls Tryd.prog 25 #[v] z fun e w' => e = .returned (.tuple #[.string (bs R), .int .i64 F]) ∧ Below z.heap.size z w') := Lib.hid fun z hb => by
  have := printr_any (w := z) (D := D) (fun b hd => Nat.lt_of_lt_of_le (hD b hd) hb.size) hw hok (RV.mono (fun b h => h) (fun b hb' _ => hb.block b (hD b hb')) h)
  rwa [hp] at this
theorem alive_hid {y : World} (hw0 : 0 < y.heap.size) (hT : Tb y) : Hid (∀ z, Below y.heap.size y z → Calls Tryd.prog 16 #[] z fun e w' => e = .returned (.bool true) ∧ Below z.heap.size z w') := Lib.hid fun z hb =>
  alive_any z (by have := hb.size; omega) (hT.mono (hb.block 0 hw0))
theorem bigd_hid {t : RT} (m : Nat) {d : Bool} (hd : decide (m < sz t) = d) (hm2 : m ≤ 1000000) (hw : wid t ≤ 9223372036854775806) {D : Nat → Prop} {v : Value} {y : World} (hD : ∀ b, D b → b < y.heap.size) (h : RV D y t v) :
    Hid (∀ z, Below y.heap.size y z → Calls Tryd.prog 13 #[v, .int .i64 (m : Nat)] z fun e w' => e = .returned (.bool d) ∧ Below z.heap.size z w') := Lib.hid fun z hb => by
  have := big_any (w := z) m hm2 hw (fun b hd => Nat.lt_of_lt_of_le (hD b hd) hb.size) (RV.mono (fun b h => h) (fun b hb' _ => hb.block b (hD b hb')) h)
  rwa [hd] at this
theorem wrL_nil (k : Int) (bt : List UInt8) (fs : Bool) : wrL k bt fs [] = [] := by rw [wrL]
section
/- A pattern that was handed in is a tree. -/
open Go.ChangeShapes Go.WideShapes in
theorem u64_nat5 (n : Int) (h : (Lit.int .u64 n).wf = true) : ∃ k : Nat, k < 18446744073709551616 ∧ n = k := by
  have h1 : 0 ≤ n ∧ n ≤ 18446744073709551615 := by
    simpa [Lit.wf, IntKind.min, IntKind.max, IntKind.signed, IntKind.bits] using h
  exact ⟨n.toNat, by omega, by omega⟩
open Go.ChangeShapes Go.WideShapes in
theorem words_open {H : Type} {enc : TypeId × Value → H} {w : World} {base : Nat} {sp : Nat → Bool} {held : Bool} {fuel : Nat} {c0 c1 c2 c3 : Value} {x : DataW H × List MemPlace} (h : DataW.trod enc Tryd.prog w base sp held fuel 24 [c0, c1, c2, c3] = some x) :
    ∃ f, c0 = .int .u64 (wf f 0) ∧ c1 = .int .u64 (wf f 1) ∧ c2 = .int .u64 (wf f 2) ∧ c3 = .int .u64 (wf f 3) := by
  obtain ⟨y0, y1, y2, y3, m, hx, hy0, hy1, hy2, hy3⟩ := trod_array4 Tryd.underlying24 (by kernel_rfl) h
  obtain ⟨x0, e0, rfl, w0⟩ := DataW.trod_int Tryd.underlying22 hy0
  obtain ⟨x1, e1, rfl, w1⟩ := DataW.trod_int Tryd.underlying22 hy1
  obtain ⟨x2, e2, rfl, w2⟩ := DataW.trod_int Tryd.underlying22 hy2
  obtain ⟨x3, e3, rfl, w3⟩ := DataW.trod_int Tryd.underlying22 hy3
  simp at e0 e1 e2 e3
  subst e0 e1 e2 e3
  obtain ⟨k0, l0, rfl⟩ := u64_nat5 _ w0
  obtain ⟨k1, l1, rfl⟩ := u64_nat5 _ w1
  obtain ⟨k2, l2, rfl⟩ := u64_nat5 _ w2
  obtain ⟨k3, l3, rfl⟩ := u64_nat5 _ w3
  refine ⟨ofW k0 k1 k2 k3, ?_⟩
  unfold wf
  rw [ofW0 _ _ _ _ l0, ofW1 _ _ _ _ l1, ofW2 _ _ _ _ l2, ofW3 _ _ _ _ l3]
  exact ⟨rfl, rfl, rfl, rfl⟩
theorem okU_wf5 (f : Nat → Bool) : okU (wf f) := fun i hi => by
  have h : ∀ k, k < 64 → fOf (wf f) (64 * i + k) = f (64 * i + k) := fun k hk => by
    unfold fOf
    have e1 : (64 * i + k) / 64 = i := by omega
    have e2 : (64 * i + k) % 64 = k := by omega
    rw [e1, e2]
    show ((W f i : Nat) : Int).toNat.testBit k = _
    rw [Int.toNat_natCast, W_test f i k hk]
  show ((W f i : Nat) : Int) = ((W (fOf (wf f)) i : Nat) : Int)
  rw [W_congr i h]
theorem okL_of : ∀ {ts : List RT}, (∀ t ∈ ts, okT t) → okL ts
  | [], _ => by rw [okL]; trivial
  | t :: ts, h => by rw [okL]; exact ⟨h t (List.mem_cons_self ..), okL_of fun x hx => h x (List.mem_cons_of_mem _ hx)⟩
theorem widL_of {n : Nat} : ∀ {ts : List RT}, (∀ t ∈ ts, wid t ≤ n) → widL ts ≤ n
  | [], _ => by simp [widL]
  | t :: ts, h => by
    have h1 := h t (List.mem_cons_self ..)
    have h2 := widL_of (ts := ts) fun x hx => h x (List.mem_cons_of_mem _ hx)
    simp only [widL]; omega
theorem weightsAll_mem {H : Type} {P : Program} {e : TypeId} : ∀ {ds : List (DataW H)} {d : DataW H}, d ∈ ds → ∀ n ∈ d.weights P e, n ∈ DataW.weightsAll P e ds
  | a :: ds, d, h, n, hn => by
    rw [DataW.weightsAll]
    rcases List.mem_cons.1 h with rfl | h
    · exact List.mem_append_left _ hn
    · exact List.mem_append_right _ (weightsAll_mem h n hn)
theorem bytes27 : Tryd.prog.bytesOf 27 = 64 := by kernel_rfl
theorem cells27 : Tryd.prog.cellsOf 27 = 6 := by kernel_rfl
theorem cells24 : Tryd.prog.cellsOf 24 = 4 := by kernel_rfl
theorem cells25 : Tryd.prog.cellsOf 25 = 1 := by kernel_rfl
open Go.ChangeShapes Go.WideShapes Go.Deep in
theorem tree_open {H : Type} {enc : TypeId × Value → H} {w : World} {held : Bool} : ∀ (m fuel : Nat), fuel ≤ m → ∀ {cs : List Value} {d : DataW H} {pl : List MemPlace}, DataW.trod enc Tryd.prog w 0 (fun _ => true) held fuel 27 cs = some (d, pl) →
    (∀ n ∈ d.weights Tryd.prog 27, n ≤ reachBytes) → ∃ t : RT, RV (fun b => b < w.heap.size) w t (.agg cs.toArray) ∧ wid t ≤ 9223372036854775806 ∧ okT t ∧ cs.length = 6
  | 0, fuel, hm, cs, d, pl, h, _ => by
    obtain rfl : fuel = 0 := by omega
    simp [DataW.trod] at h
  | m + 1, fuel, hm, cs, d, pl, h, hw => by
    obtain ⟨xs, n, rfl, hx, hlen, hxl, hf⟩ := DataW.trod_struct Tryd.underlying27 h
    rw [cells27] at hlen
    match cs, hlen with
    | [c0, c1, c2, c3, c4, c5], _ =>
      have f0 := hf 0 _ rfl
      have f1 := hf 1 _ rfl
      have f2 := hf 2 _ rfl
      have hxl3 : xs.length = 3 := hxl
      match xs, hxl3 with
      | [y0, y1, y2], _ =>
        have g0 : DataW.trod enc Tryd.prog w 0 (fun _ => true) held n 3 [c0] = some y0 := f0
        have g1 : DataW.trod enc Tryd.prog w 0 (fun _ => true) held n 24 [c1, c2, c3, c4] = some y1 := f1
        have g2 : DataW.trod enc Tryd.prog w 0 (fun _ => true) held n 25 [c5] = some y2 := f2
        obtain ⟨k, e0, -, -⟩ := DataW.trod_int Tryd.underlying3 g0
        obtain rfl : c0 = .int .i64 k := by simpa using e0
        obtain ⟨f, rfl, rfl, rfl, rfl⟩ := words_open g1
        have hd : d = .agg [y0.1, y1.1, y2.1] := by simpa using (Prod.mk.inj hx).1
        have hw2 : ∀ q ∈ y2.1.weights Tryd.prog 25, q ≤ reachBytes := fun q hq => by
          refine hw q ?_
          rw [hd]
          unfold DataW.weights
          rw [Tryd.underlying27]
          exact DataW.weights_mem_each (j := 2) (t := 25) (d := y2.1) rfl rfl q hq
        rcases DataW.trod_slice Tryd.underlying25 g2 with ⟨e5, -⟩ | ⟨a, len, cap, elems, rest, n', rfl, e5, hy2, hb, hl, hm', hlen, hel, -, -⟩
        · obtain rfl : c5 = .slice none 0 0 := by simpa using e5
          exact ⟨.mk k (wf f) [], .leaf k (wf f) none 0, by simp [wid, widL], by rw [okT, okL]; exact ⟨fun _ => okU_wf5 f, trivial⟩, rfl⟩
        · obtain rfl : c5 = .slice (some a) len cap := by simpa using e5
          have hw3 : (elems.length + rest.length) * 64 ≤ reachBytes ∧ ∀ y ∈ elems, ∀ q ∈ y.1.weights Tryd.prog 27, q ≤ reachBytes := by
            rw [hy2] at hw2
            unfold DataW.weights at hw2
            rw [Tryd.underlying25] at hw2
            simp only [List.length_map, bytes27] at hw2
            refine ⟨hw2 _ (List.mem_cons_self ..), fun y hy q hq => hw2 q (List.mem_cons_of_mem _ (List.mem_append_left _ (weightsAll_mem (List.mem_map_of_mem hy) q hq)))⟩
          have hlb : len ≤ 9223372036854775806 := by
            have := reachBytes_lt
            omega
          have each : ∀ i, i < len → ∃ q : RT × Array Value, RV (fun b => b < w.heap.size) w q.1 (.agg q.2) ∧ wid q.1 ≤ 9223372036854775806 ∧ okT q.1 ∧ q.2.size = 6 ∧ ∀ j, j < 6 → w.cell? ((a.add (i * 6)).add j) = q.2[j]? := fun i hi => by
            have h1 := hel i hi
            rw [List.getElem?_eq_getElem (by omega), cells27] at h1
            obtain ⟨cs', h2, h3⟩ := Option.bind_eq_some_iff.1 h1
            obtain ⟨_, hcl, hcell⟩ := World.cells?_some h2
            obtain ⟨t, ht, h4, h5, h6⟩ := tree_open m n' (by omega) (d := elems[i].1) (pl := elems[i].2) h3 (hw3.2 _ (List.getElem_mem _))
            exact ⟨(t, cs'.toArray), ht, h4, h5, by simpa using h6, fun j hj => by rw [hcell j hj]; simp⟩
          by_cases h0 : len = 0
          · subst h0
            exact ⟨.mk k (wf f) [], .leaf k (wf f) (some a) cap, by simp [wid, widL], by rw [okT, okL]; exact ⟨fun _ => okU_wf5 f, trivial⟩, rfl⟩
          · have : Inhabited (RT × Array Value) := ⟨(.mk 0 u0 [], #[])⟩
            obtain ⟨q, hq⟩ := choose_lt each
            have hc0 := (hq 0 (by omega)).2.2.2.2 0 (by omega)
            rw [Array.getElem?_eq_getElem (by rw [(hq 0 (by omega)).2.2.2.1]; omega)] at hc0
            have hspot : a.spot = none := by
              have := World.cell?_spot hc0
              simpa [Addr.add] using this
            obtain ⟨b, o, sp⟩ := a
            simp only at hspot
            subst hspot
            have hbl := World.block_lt_of_cell? w _ hc0
            have hbl2 : b < w.heap.size := by simpa [Addr.add] using hbl
            have hpl : ((List.range len).map fun i => (q i).1).length = len := by simp
            refine ⟨.mk k (wf f) ((List.range len).map fun i => (q i).1), ?_, ?_, ?_, rfl⟩
            · have hn : ((List.range len).map fun i => (q i).1) ≠ [] := fun e => h0 (by rw [e] at hpl; exact hpl.symm)
              have := RV.node (D := fun b => b < w.heap.size) (w := w) k (wf f) ((List.range len).map fun i => (q i).1) b o cap (fun i => (q i).2) hbl2 hn (fun i hi => by
                have hi' : i < len := by rw [hpl] at hi; exact hi
                have e : ((List.range len).map fun i => (q i).1)[i] = (q i).1 := by simp
                rw [e]; exact (hq i hi').1) (fun i hi j hj => by
                have hi' : i < len := by rw [hpl] at hi; exact hi
                have h1 := (hq i hi').2.2.2.2 j hj
                have h2 := (hq i hi').2.2.2.1
                refine ⟨(q i).2[j]'(by omega), Array.getElem?_eq_getElem (by omega), ?_⟩
                rw [Array.getElem?_eq_getElem (by omega)] at h1
                rw [← h1, add_add, add_plain]
                rw [show o + (i * 6 + j) = o + (6 * i + j) by omega])
              rw [hpl] at this
              exact this
            · have h1 : widL ((List.range len).map fun i => (q i).1) ≤ 9223372036854775806 := widL_of fun t ht => by
                obtain ⟨i, hi, rfl⟩ := List.mem_map.1 ht
                exact (hq i (List.mem_range.1 hi)).2.1
              simp only [wid, hpl]; omega
            · rw [okT]
              exact ⟨fun _ => okU_wf5 f, okL_of fun t ht => by
                obtain ⟨i, hi, rfl⟩ := List.mem_map.1 ht
                exact (hq i (List.mem_range.1 hi)).2.2.1⟩
end
section
/- A row of one's own whose elements are of whatever kind. -/
/-- What an element is, by the blocks that it lies in. -/
abbrev EP := (Nat → Prop) → World → Array Value → Prop
def EMono (p : EP) : Prop := ∀ {D E : Nat → Prop} {w w' : World} {x : Array Value}, (∀ b, D b → E b) → (∀ b, D b → b < w.heap.size → w'.heap[b]? = w.heap[b]?) → p D w x → p E w' x
/-- The elements ps lie in the row of the slice sl. -/
def ThG (base : Nat) (ps : List EP) (sl : Value) (w : World) : Prop :=
  (∀ p ∈ ps, EMono p) ∧ ∃ xs : List (Array Value), xs.length = ps.length ∧ (∀ x ∈ xs, x.size = 6) ∧ (∀ i (h : i < ps.length) (h' : i < xs.length), ps[i] (fun b => base ≤ b ∧ b < w.heap.size ∧ some b ≠ sl.ownBlock) w xs[i]) ∧ w.ownsRow base 27 6 sl ps.length (flat xs)
theorem ThG.nil (base : Nat) (w : World) : ThG base [] (.slice none 0 0) w := ⟨by simp, [], rfl, by simp, by simp, rfl, .inl ⟨rfl, rfl⟩⟩
theorem ThG.up {base : Nat} {ps : List EP} {sl : Value} {w w' : World} (h : ThG base ps sl w) (hb : Below w.heap.size w w') : ThG base ps sl w' := by
  obtain ⟨h0, xs, h1, h2, h3, h4⟩ := h
  refine ⟨h0, xs, h1, h2, fun i hi hi' => h0 _ (List.getElem_mem hi) (fun b hb' => ⟨hb'.1, Nat.lt_of_lt_of_le hb'.2.1 hb.size, hb'.2.2⟩) (fun b _ hlt => hb.block b hlt) (h3 i hi hi'), h4.1, ?_⟩
  rcases h4.2 with hn | ⟨g, cap, cur, hv, hg, hh, rest⟩
  · exact .inl hn
  · exact .inr ⟨g, cap, cur, hv, hg, (hb.block g (Array.getElem?_eq_some_iff.1 hh).1).trans hh, rest⟩
theorem ThG.app {base lo : Nat} {ps : List EP} {sl sl' : Value} {w w1 w2 : World} {p : EP} {x : Array Value} {xs : List (Array Value)} {o : Obj} (h0 : ∀ p ∈ ps, EMono p) (hp : EMono p) (hx6 : x.size = 6)
    (h1 : xs.length = ps.length) (h2 : ∀ x ∈ xs, x.size = 6) (h3 : ∀ i (h : i < ps.length) (h' : i < xs.length), ps[i] (fun b => base ≤ b ∧ b < w.heap.size ∧ some b ≠ sl.ownBlock) w xs[i])
    (hw1 : w1 = w.alloc o) (hbl : base ≤ lo) (hlo : ∀ g, sl.ownBlock = some g → g < lo) (ht : p (fun b => lo ≤ b ∧ b < w.heap.size) w x)
    (hown : w2.ownsRow base 27 6 sl' (ps.length + 1) (flat xs ++ x.toList)) (hg : w1.grownBy w2 sl.ownBlock) (hat : sl'.ownBlock = sl.ownBlock ∨ sl'.ownBlock = some w1.heap.size) : ThG base (ps ++ [p]) sl' w2 := by
  have hsz : w1.heap.size = w.heap.size + 1 := by subst hw1; simp
  have hkeep : ∀ b, b < w.heap.size → some b ≠ sl.ownBlock → w2.heap[b]? = w.heap[b]? := fun b hb hne => by
    rw [hg.block b (by omega) (fun e => hne e), hw1, heap_alloc_old w _ hb]
  have hD : ∀ b, b < w.heap.size → some b ≠ sl.ownBlock → some b ≠ sl'.ownBlock := fun b hb hne e => by
    rcases hat with h | h
    · rw [h] at e; exact hne e
    · rw [h] at e; cases e; omega
  refine ⟨fun q hq => ?_, xs ++ [x], by simp [h1], fun y hy => ?_, fun i hi hi' => ?_, by rw [flat_app]; simpa using hown⟩
  · rcases List.mem_append.1 hq with hq | hq
    · exact h0 q hq
    · rw [List.mem_singleton.1 hq]; exact hp
  · rcases List.mem_append.1 hy with hy | hy
    · exact h2 y hy
    · simp at hy; subst hy; exact hx6
  · by_cases hlt : i < ps.length
    · rw [List.getElem_append_left hlt, List.getElem_append_left (by omega)]
      exact h0 _ (List.getElem_mem hlt) (fun b hb => ⟨hb.1, by have := hg.size; omega, hD b hb.2.1 hb.2.2⟩) (fun b hb hlt => hkeep b hlt hb.2.2) (h3 i hlt (by omega))
    · have hi2 : i = ps.length := by simp at hi; omega
      subst hi2
      have e1 : (ps ++ [p])[ps.length]'hi = p := by simp
      have e2 : (xs ++ [x])[ps.length]'hi' = x := by
        rw [List.getElem_append_right (by omega)]; simp [h1]
      rw [e1, e2]
      have hno : ∀ b, lo ≤ b → some b ≠ sl.ownBlock := fun b hb e => by have := hlo b e.symm; omega
      exact hp (fun b hb => ⟨by omega, by have := hg.size; omega, hD b hb.2 (hno b hb.1)⟩) (fun b hb hlt => hkeep b hlt (hno b hb.1)) ht
theorem ThG.slice {base : Nat} {ps : List EP} {sl : Value} {w : World} (h : ThG base ps sl w) : ∃ p c, sl = .slice p ps.length c := by
  obtain ⟨_, xs, h1, h2, h3, h4⟩ := h
  rcases h4.2 with ⟨hv, hn⟩ | ⟨g, cap, cur, hv, _⟩
  · exact ⟨none, 0, by rw [hv, hn]⟩
  · exact ⟨_, _, hv⟩
theorem ThG.own {base : Nat} {ps : List EP} {sl : Value} {w : World} (h : ThG base ps sl w) : ∀ g, sl.ownBlock = some g → base ≤ g ∧ g < w.heap.size := by
  obtain ⟨_, xs, h1, h2, h3, h4⟩ := h
  intro g hg
  rcases h4.2 with ⟨hv, hn⟩ | ⟨g', cap, cur, hv, hb, hh, _⟩
  · rw [hv] at hg; simp [Value.ownBlock] at hg
  · rw [hv] at hg
    have : g' = g := by simpa [Value.ownBlock] using hg
    subst this
    exact ⟨hb, (Array.getElem?_eq_some_iff.1 hh).1⟩
/-- The row's cells, and its elements. -/
theorem ThG.row {base : Nat} {ps : List EP} {sl : Value} {w : World} (h : ThG base ps sl w) (hn : ps ≠ []) : ∃ (g cap : Nat) (X : Nat → Array Value), sl = .slice (some ⟨g, 0, none⟩) ps.length cap ∧ base ≤ g ∧ g < w.heap.size ∧ ps.length ≤ cap ∧
    ∀ i (hi : i < ps.length), ps[i] (fun b => base ≤ b ∧ b < w.heap.size) w (X i) ∧ (X i).size = 6 ∧ ∀ j, j < 6 → ∃ y, (X i)[j]? = some y ∧ w.cell? ⟨g, 6 * i + j, none⟩ = some y := by
  obtain ⟨h0, xs, h1, h2, h3, h4⟩ := h
  have hown := h4
  rcases h4.2 with ⟨_, h00⟩ | ⟨g, cap, cur, rfl, hb, hg, hcap, _⟩
  · exact absurd (List.length_eq_zero_iff.1 h00) hn
  · have hgs := (Array.getElem?_eq_some_iff.1 hg).1
    refine ⟨g, cap, fun i => xs.getD i #[], rfl, hb, hgs, hcap, fun i hi => ?_⟩
    have hi' : i < xs.length := by omega
    have e : xs.getD i #[] = xs[i] := by simp [List.getD, hi']
    show ps[i] _ w (xs.getD i #[]) ∧ (xs.getD i #[]).size = 6 ∧ ∀ j, j < 6 → ∃ y, (xs.getD i #[])[j]? = some y ∧ w.cell? ⟨g, 6 * i + j, none⟩ = some y
    rw [e]
    have h6 := h2 xs[i] (List.getElem_mem hi')
    refine ⟨h0 _ (List.getElem_mem hi) (fun b hb => ⟨hb.1, hb.2.1⟩) (fun b hb hlt => rfl) (h3 i hi hi'), h6, fun j hj => ?_⟩
    have hf := flat_get xs h2 i hi' j hj
    have hj' : j < (xs[i]).size := by omega
    rw [Array.getElem?_eq_getElem hj'] at hf
    refine ⟨(xs[i])[j], Array.getElem?_eq_getElem hj', ?_⟩
    have := World.ownsRow.cells hown rfl _ _ hf
    rw [Addr.add_mid, Nat.zero_add] at this; exact this
/-- A mark behind a list. -/
def markV (i : Nat) : Array Value := nodeC (-7000 - i) u0 (.slice none 0 0)
/-- A twin of the pattern t: its lists have three marks behind them; it lies in blocks of D. -/
inductive TW (D : Nat → Prop) (w : World) : RT → Value → Prop where
  | mk (k : Int) (u : Nat → Int) (ps : List RT) (b c : Nat) (X : Nat → Array Value) (hD : D b) (hb : b < w.heap.size) (hx : ∀ i (h : i < ps.length), TW D w ps[i] (.agg (X i)))
      (hc : ∀ i, i < ps.length → ∀ j, j < 6 → ∃ y, (X i)[j]? = some y ∧ w.cell? ⟨b, 6 * i + j, none⟩ = some y) (hm : ∀ i, i < 3 → ∀ j, j < 6 → ∃ y, (markV i)[j]? = some y ∧ w.cell? ⟨b, 6 * (ps.length + i) + j, none⟩ = some y) (hcap : ps.length + 3 ≤ c) :
      TW D w (.mk k u ps) (.agg (nodeC k u (.slice (some ⟨b, 0, none⟩) ps.length c)))
theorem TW.mono {D E : Nat → Prop} {w w' : World} (hE : ∀ b, D b → E b) (hw : ∀ b, D b → b < w.heap.size → w'.heap[b]? = w.heap[b]?) {t : RT} {v : Value} (h : TW D w t v) : TW E w' t v := by
  induction h with
  | mk k u ps b c X hD hb hx hc hm hcap ih =>
    have hk : ∀ o y, w.cell? ⟨b, o, none⟩ = some y → w'.cell? ⟨b, o, none⟩ = some y := fun o y h => by
      rw [← h]; unfold World.cell?; simp only [hw b hD hb]
    have hb' : b < w'.heap.size := by
      obtain ⟨y, _, h2⟩ := hm 0 (by omega) 0 (by omega)
      exact World.block_lt_of_cell? w' _ (hk _ _ h2)
    exact .mk k u ps b c X (hE b hD) hb' ih (fun i hi j hj => by obtain ⟨y, h1, h2⟩ := hc i hi j hj; exact ⟨y, h1, hk _ _ h2⟩) (fun i hi j hj => by obtain ⟨y, h1, h2⟩ := hm i hi j hj; exact ⟨y, h1, hk _ _ h2⟩) hcap
theorem TW.rv {D : Nat → Prop} {w : World} {t : RT} {v : Value} (h : TW D w t v) : RV D w t v := by
  induction h with
  | mk k u ps b c X hD hb hx hc hm hcap ih =>
    by_cases hn : ps = []
    · subst hn; exact .leaf k u _ c
    · exact .node k u ps b 0 c X hD hn ih (fun i hi j hj => by rw [Nat.zero_add]; exact hc i hi j hj)
theorem TW.form {D : Nat → Prop} {w : World} {t : RT} {v : Value} (h : TW D w t v) : ∃ (k : Int) (u : Nat → Int) (p : Option Addr) (n c : Nat), v = .agg (nodeC k u (.slice p n c)) := by
  cases h with
  | mk k u ps b c X hD hb hx hc hm hcap => exact ⟨k, u, _, _, _, rfl⟩
def twE (t : RT) : EP := fun D w x => TW D w t (.agg x)
def mkE (i : Nat) : EP := fun _ _ x => x = markV i
theorem twE_mono (t : RT) : EMono (twE t) := fun hE hw h => TW.mono hE hw h
theorem mkE_mono (i : Nat) : EMono (mkE i) := fun _ _ h => h
theorem ThG.twin {base : Nat} {ps : List RT} {sl : Value} {w : World} (h : ThG base (ps.map twE ++ [mkE 0, mkE 1, mkE 2]) sl w) (k : Int) (u : Nat → Int) : ∃ g cap, sl = .slice (some ⟨g, 0, none⟩) (ps.length + 3) cap ∧ ps.length + 3 ≤ cap ∧ base ≤ g ∧ g < w.heap.size ∧
    TW (fun b => base ≤ b ∧ b < w.heap.size) w (.mk k u ps) (.agg (nodeC k u (.slice (some ⟨g, 0, none⟩) ps.length cap))) := by
  obtain ⟨g, cap, X, hs, hb, hg, hcap, hX⟩ := h.row (by simp)
  have hl : (ps.map twE ++ [mkE 0, mkE 1, mkE 2]).length = ps.length + 3 := by simp
  rw [hl] at hs hcap
  refine ⟨g, cap, hs, hcap, hb, hg, .mk k u ps g cap X ⟨hb, hg⟩ hg (fun i hi => ?_) (fun i hi j hj => (hX i (by omega)).2.2 j hj) (fun i hi j hj => ?_) hcap⟩
  · have := (hX i (by omega)).1
    rw [List.getElem_append_left (by simpa using hi), List.getElem_map] at this
    exact this
  · have h1 := hX (ps.length + i) (by omega)
    have h2 := h1.1
    have e : (ps.map twE ++ [mkE 0, mkE 1, mkE 2])[ps.length + i]'(by omega) = mkE i := by
      rw [List.getElem_append_right (by simp)]
      rcases (by omega : i = 0 ∨ i = 1 ∨ i = 2) with rfl | rfl | rfl <;> simp
    rw [e] at h2
    have h3 : X (ps.length + i) = markV i := h2
    have := h1.2.2 j hj
    rwa [h3] at this
end
section
/- TwinReg: the walk. -/
theorem TW.form2 {D : Nat → Prop} {w : World} {t : RT} {v : Value} (h : TW D w t v) : ∃ (k : Int) (u : Nat → Int) (p : Option Addr) (n c : Nat), v = .agg #[.int .i64 k, .int .u64 (u 0), .int .u64 (u 1), .int .u64 (u 2), .int .u64 (u 3), .slice p n c] := h.form
def TwP (t : RT) (w : World) (e : Ending) (w' : World) : Prop := (∃ v', e = .returned v' ∧ TW (fun b => w.heap.size ≤ b ∧ b < w'.heap.size) w' t v') ∧ Below w.heap.size w w'
theorem twin_sz (w : World) (a b : Obj) : ((w.alloc a).alloc b).heap.size = w.heap.size + 2 := by simp
set_option maxHeartbeats 16000000 in
theorem twin_walk {D : Nat → Prop} {k : Int} {u : Nat → Int} {ps : List RT} {v : Value} {w : World} (hD : ∀ b, D b → b < w.heap.size) (hl : ps.length ≤ 1000000) (h : RV D w (.mk k u ps) v)
    (hI : Hid (∀ i (hi : i < ps.length) v w, RV D w ps[i] v → (∀ b, D b → b < w.heap.size) → Calls Tryd.prog 17 #[v] w (TwP ps[i] w))) :
    Calls Tryd.prog 17 #[v] w (TwP (.mk k u ps) w) := by
  obtain ⟨i0, hi, hz0, hz1, hz2⟩ := info_parts infoN
  obtain ⟨p, c, rfl, hp⟩ := h.parts
  have HP := Lib.hid hp
  have hz := zero27l
  have HR := Lib.hid fun w' (hb : Below w.heap.size w w') i (hi : i < ps.length) => (hp (by intro e; subst e; simp at hi))
  clear h hp
  have B0 := Lib.hid (((Below.refl w.heap.size w).alloc (Nat.le_refl _) (.cells #[.int .i64 k, .int .u64 (u 0), .int .u64 (u 1), .int .u64 (u 2), .int .u64 (u 3), .slice p ps.length c] 27)).alloc (by simp) (.cells #[.int .i64 0, .int .u64 0, .int .u64 0, .int .u64 0, .int .u64 0, .slice none 0 0] 27) : Below w.heap.size w _)
  have X0 : Hid (((w.alloc (.cells #[.int .i64 k, .int .u64 (u 0), .int .u64 (u 1), .int .u64 (u 2), .int .u64 (u 3), .slice p ps.length c] 27)).alloc (.cells #[.int .i64 0, .int .u64 0, .int .u64 0, .int .u64 0, .int .u64 0, .slice none 0 0] 27)).heap[w.heap.size]? = some (.cells #[.int .i64 k, .int .u64 (u 0), .int .u64 (u 1), .int .u64 (u 2), .int .u64 (u 3), .slice p ps.length c] 27)) := Lib.hid (by
    rw [heap_alloc_old _ _ (by simp)]; exact heap_alloc_last w _)
  have Y0 : Hid (((w.alloc (.cells #[.int .i64 k, .int .u64 (u 0), .int .u64 (u 1), .int .u64 (u 2), .int .u64 (u 3), .slice p ps.length c] 27)).alloc (.cells #[.int .i64 0, .int .u64 0, .int .u64 0, .int .u64 0, .int .u64 0, .slice none 0 0] 27)).heap[w.heap.size + 1]? = some (.cells #[.int .i64 0, .int .u64 0, .int .u64 0, .int .u64 0, .int .u64 0, .slice none 0 0] 27)) := Lib.hid (by
    have := heap_alloc_last (w.alloc (.cells #[.int .i64 k, .int .u64 (u 0), .int .u64 (u 1), .int .u64 (u 2), .int .u64 (u 3), .slice p ps.length c] 27)) (.cells #[.int .i64 0, .int .u64 0, .int .u64 0, .int .u64 0, .int .u64 0, .slice none 0 0] 27)
    simpa using this)
  have hs0 := twin_sz w (.cells #[.int .i64 k, .int .u64 (u 0), .int .u64 (u 1), .int .u64 (u 2), .int .u64 (u 3), .slice p ps.length c] 27) (.cells #[.int .i64 0, .int .u64 0, .int .u64 0, .int .u64 0, .int .u64 0, .slice none 0 0] 27)
  go_enter Tryd.func17, Tryd.ntmps17
  go_wp2
  generalize ((w.alloc (.cells #[.int .i64 k, .int .u64 (u 0), .int .u64 (u 1), .int .u64 (u 2), .int .u64 (u 3), .slice p ps.length c] 27)).alloc (.cells #[.int .i64 0, .int .u64 0, .int .u64 0, .int .u64 0, .int .u64 0, .slice none 0 0] 27)) = ws at *
  go_loopw [3, 4] (fun sl i wr => ∃ j : Nat, j ≤ ps.length ∧ i = .int .i64 (j : Nat) ∧ w.heap.size + 2 ≤ wr.heap.size ∧ Hid (ThG (w.heap.size + 2) ((ps.take j).map twE) sl wr) ∧ Hid (Below w.heap.size w wr) ∧ Hid (wr.heap[w.heap.size]? = some (.cells #[.int .i64 k, .int .u64 (u 0), .int .u64 (u 1), .int .u64 (u 2), .int .u64 (u 3), .slice p ps.length c] 27)) ∧ Hid (wr.heap[w.heap.size + 1]? = some (.cells #[.int .i64 0, .int .u64 0, .int .u64 0, .int .u64 0, .int .u64 0, .slice none 0 0] 27))) (fun _ i _ => ps.length - (intOf i).toNat)
  case atStart => exact ⟨0, by omega, rfl, by omega, Lib.hid (ThG.nil _ _), B0, X0, Y0⟩
  case round =>
    obtain ⟨j, hj, rfl, hge, HT, HB, HX, HY⟩ := hrel
    clear B0 X0 Y0 hs0
    have c5 : wr.cell? ⟨w.heap.size, 5, none⟩ = some (.slice p ps.length c) := cell_of_row wr _ 5 _ 27 (0, 0) HX.out
    obtain ⟨a, cc, hsl⟩ := HT.out.slice
    have hlj : ((ps.take j).map twE).length = j := by simp; omega
    rw [hlj] at hsl
    subst hsl
    by_cases hlt : j < ps.length
    · have hlt3 : (j : Int) < ((ps.length : Nat) : Int) := by omega
      have hne : ps ≠ [] := by intro e; subst e; simp at hlt
      obtain ⟨b', o', rfl, hDb, hx⟩ := HP.out hne
      obtain ⟨k5, u5, p5, n5, c5', hv5, hc5⟩ := hx j hlt
      have hbw := hD b' hDb
      have cc5 : ∀ i y, (nodeC k5 u5 (.slice p5 n5 c5'))[i]? = some y → wr.cell? ⟨b', o' + j * 6 + i, none⟩ = some y := fun i y hy => by
        rw [HB.out.cell (p := ⟨b', o' + j * 6 + i, none⟩) hbw, ← hc5 i y hy, show o' + j * 6 + i = o' + (6 * j + i) by omega]
      have f0 : wr.cell? ⟨b', o' + j * 6, none⟩ = some (.int .i64 k5) := cc5 0 _ rfl
      have f1 : wr.cell? ⟨b', o' + j * 6 + 1, none⟩ = some (.int .u64 (u5 0)) := cc5 1 _ rfl
      have f2 : wr.cell? ⟨b', o' + j * 6 + 2, none⟩ = some (.int .u64 (u5 1)) := cc5 2 _ rfl
      have f3 : wr.cell? ⟨b', o' + j * 6 + 3, none⟩ = some (.int .u64 (u5 2)) := cc5 3 _ rfl
      have f4 : wr.cell? ⟨b', o' + j * 6 + 4, none⟩ = some (.int .u64 (u5 3)) := cc5 4 _ rfl
      have f5 : wr.cell? ⟨b', o' + j * 6 + 5, none⟩ = some (.slice p5 n5 c5') := cc5 5 _ rfl
      have HC := Lib.hid (hI.out j hlt _ wr (RV.mono (fun b h => h) (fun b hb _ => HB.out.block b (hD b hb)) hv5) (fun b hb => Nat.lt_of_lt_of_le (hD b hb) HB.out.size))
      clear cc5 hc5 hx hv5
      go_wp2_with fail
      refine HC.out.mono ?_
      rintro _ w7 ⟨⟨v', rfl, ht⟩, hb⟩
      obtain ⟨k6, u6, p6, n6, c6, rfl⟩ := ht.form2
      obtain ⟨hm0, xs, x1, x2, x3, x4⟩ := (HT.out.up hb)
      have hown := HT.out.own
      rw [hlj] at x4
      have X1 := Lib.hid x1
      have X2 := Lib.hid x2
      have X3 := Lib.hid x3
      have X4 := Lib.hid (World.ownsRow.alloc x4 (.cells #[.int .i64 k6, .int .u64 (u6 0), .int .u64 (u6 1), .int .u64 (u6 2), .int .u64 (u6 3), .slice p6 n6 c6] 27))
      have HC0 : Hid (∀ j u, (nodeC k6 u6 (.slice p6 n6 c6)).toList[j]? = some u → (w7.alloc (.cells #[.int .i64 k6, .int .u64 (u6 0), .int .u64 (u6 1), .int .u64 (u6 2), .int .u64 (u6 3), .slice p6 n6 c6] 27)).cell? ((⟨w7.heap.size, 0, none⟩ : Addr).add j) = some u) := Lib.hid fun j u hj => by
        rw [Addr.add_mid, cell_of_row _ w7.heap.size (0 + j) _ 27 (0, 0) (heap_alloc_last w7 _), Nat.zero_add]
        rw [Array.getElem?_toList] at hj; exact hj
      have HV := Lib.hid ht
      have HM0 := Lib.hid hm0
      have HO := Lib.hid hown
      have hwl := hb.size
      have HA : Hid (Below w7.heap.size w7 (w7.alloc (.cells #[.int .i64 k6, .int .u64 (u6 0), .int .u64 (u6 1), .int .u64 (u6 2), .int .u64 (u6 3), .slice p6 n6 c6] 27))) := Lib.hid ((Below.refl _ _).alloc (Nat.le_refl _) _)
      have HB7 := Lib.hid (HB.out.trans (hb.mono HB.out.size))
      have HX7 : Hid (w7.heap[w.heap.size]? = _) := Lib.hid ((hb.block w.heap.size (by omega)).trans HX.out)
      have HY7 : Hid (w7.heap[w.heap.size + 1]? = _) := Lib.hid ((hb.block (w.heap.size + 1) (by omega)).trans HY.out)
      clear x1 x2 x3 x4 ht hm0 hown hb HC HT HB HX HY f0 f1 f2 f3 f4 f5 c5
      go_wp2_with (at_builtin; refine wpList_append_own_at _ rfl (.tmp 13) (.tmp 20) 25 rfl (w.heap.size + 2) 27 i0 (.agg (nodeC 0 u0 (.slice none 0 0))) 6 64 Tryd.underlying25 hi hz0 hz1 hz2 rfl (by decide) (.slice a j cc) j (flat xs) rfl ?c0 ⟨w7.heap.size, 0, none⟩ 1 1 (nodeC k6 u6 (.slice p6 n6 c6)).toList rfl rfl ?c1 ?c2 ?c3 ?c4 ?c5 ?_)
      case c0 => exact X4.out
      case c1 => exact HC0.out
      case c2 => exact fun u hu => (Array.all_eq_true_iff_forall_mem.1 (nodeC_one k6 u6 p6 n6 c6)) u (by simpa using hu)
      case c3 => unfold maxLen; omega
      case c4 => omega
      case c5 => simp; omega
      intro v' w8 hown8 hgrow8 _ hat8
      have hbase := fun g (hg : (Value.slice a j cc).ownBlock = some g) => (World.ownsRow.lt X4.out g hg).1
      have htk : (ps.take (j + 1)).map twE = (ps.take j).map twE ++ [twE ps[j]] := by rw [List.take_succ_eq_append_getElem hlt, List.map_append]; rfl
      have hsz7 : (w7.alloc (.cells #[.int .i64 k6, .int .u64 (u6 0), .int .u64 (u6 1), .int .u64 (u6 2), .int .u64 (u6 3), .slice p6 n6 c6] 27)).heap.size = w7.heap.size + 1 := by simp
      have HTA : Hid (ThG (w.heap.size + 2) ((ps.take (j + 1)).map twE) v' w8) := Lib.hid (by
        rw [htk]
        exact ThG.app (lo := wr.heap.size) (w := w7) HM0.out (twE_mono _) rfl X1.out X2.out X3.out rfl hge (fun g hg => (HO.out g hg).2) HV.out (by rw [hlj]; exact hown8) hgrow8 (by rw [hsz7]; exact hat8))
      have HBA : Hid (Below w.heap.size w w8) := Lib.hid (below_grown (HB7.out.trans (HA.out.mono HB7.out.size)) hgrow8 (fun g hg => by have := hbase g hg; omega) (Nat.le_trans HB7.out.size HA.out.size))
      have HXA : Hid (w8.heap[w.heap.size]? = some (.cells #[.int .i64 k, .int .u64 (u 0), .int .u64 (u 1), .int .u64 (u 2), .int .u64 (u 3), .slice (some ⟨b', o', none⟩) ps.length c] 27)) := Lib.hid
        ((hgrow8.block _ (by omega) (fun e => by have := hbase _ e.symm; omega)).trans ((HA.out.block _ (by omega)).trans HX7.out))
      have HYA : Hid (w8.heap[w.heap.size + 1]? = some (.cells #[.int .i64 0, .int .u64 0, .int .u64 0, .int .u64 0, .int .u64 0, .slice none 0 0] 27)) := Lib.hid
        ((hgrow8.block _ (by omega) (fun e => by have := hbase _ e.symm; omega)).trans ((HA.out.block _ (by omega)).trans HY7.out))
      have hge8 : w.heap.size + 2 ≤ w8.heap.size := by have := hgrow8.size; omega
      clear hown8 hgrow8 hat8 hbase htk X1 X2 X3 X4 HC0 HV HA HM0 HO HB7 HX7 HY7 hsz7
      go_wp2_with fail
      go_roundw
      case rel => exact ⟨j + 1, by omega, by go_num, hge8, HTA, HBA, HXA, HYA⟩
      case measure => simp [intOf]; omega
    · obtain rfl : j = ps.length := by omega
      have hlt3 : ¬ ((ps.length : Nat) : Int) < ((ps.length : Nat) : Int) := by omega
      rw [List.take_length] at HT
      clear c5 hlj
      have c5 : wr.cell? ⟨w.heap.size, 5, none⟩ = some (.slice p ps.length c) := cell_of_row wr _ 5 _ 27 (0, 0) HX.out
      go_wp2_with fail
      go_loopw [3, 5] (fun sl i wq => ∃ m : Nat, m ≤ 3 ∧ i = .int .i64 (m : Nat) ∧ w.heap.size + 2 ≤ wq.heap.size ∧ Hid (ThG (w.heap.size + 2) (ps.map twE ++ ([mkE 0, mkE 1, mkE 2].take m)) sl wq) ∧ Hid (Below w.heap.size w wq) ∧ Hid (wq.heap[w.heap.size]? = some (.cells #[.int .i64 k, .int .u64 (u 0), .int .u64 (u 1), .int .u64 (u 2), .int .u64 (u 3), .slice p ps.length c] 27)) ∧ Hid (wq.heap[w.heap.size + 1]? = some (.cells #[.int .i64 0, .int .u64 0, .int .u64 0, .int .u64 0, .int .u64 0, .slice none 0 0] 27))) (fun _ i _ => 3 - (intOf i).toNat)
      case atStart => exact ⟨0, by omega, rfl, hge, by simpa using HT, HB, HX, HY⟩
      clear HT HB HX HY c5 hge hlt3 hlt
      case round =>
        obtain ⟨m, hm, rfl, hge, HT, HB, HX, HY⟩ := hrel
        obtain ⟨a, cc, hsl⟩ := HT.out.slice
        have hlm : (ps.map twE ++ ([mkE 0, mkE 1, mkE 2].take m)).length = ps.length + m := by simp; omega
        rw [hlm] at hsl
        subst hsl
        by_cases hlt : m < 3
        · have hmk : ∃ q : Int, markV m = nodeC q u0 (.slice none 0 0) ∧ q = -7000 - (m : Int) := ⟨_, rfl, rfl⟩
          obtain ⟨q, hq, hq2⟩ := hmk
          have hlt3 : (m : Int) < 3 := by omega
          have hqw : IntKind.i64.wrap (-7000 - (m : Int)) = q := by rw [IntWalk.i64_in _ (by omega)]; exact hq2.symm
          have hown := HT.out.own
          obtain ⟨hm0, xs, x1, x2, x3, x4⟩ := HT.out
          rw [hlm] at x4
          have X1 := Lib.hid x1
          have X2 := Lib.hid x2
          have X3 := Lib.hid x3
          have X4 := Lib.hid (World.ownsRow.alloc x4 (.cells #[.int .i64 q, .int .u64 0, .int .u64 0, .int .u64 0, .int .u64 0, .slice none 0 0] 27))
          have HC0 : Hid (∀ j u, (nodeC q u0 (.slice none 0 0)).toList[j]? = some u → (wr.alloc (.cells #[.int .i64 q, .int .u64 0, .int .u64 0, .int .u64 0, .int .u64 0, .slice none 0 0] 27)).cell? ((⟨wr.heap.size, 0, none⟩ : Addr).add j) = some u) := Lib.hid fun j u hj => by
            rw [Addr.add_mid, cell_of_row _ wr.heap.size (0 + j) _ 27 (0, 0) (heap_alloc_last wr _), Nat.zero_add]
            rw [Array.getElem?_toList] at hj; exact hj
          have HM0 := Lib.hid hm0
          have HO := Lib.hid hown
          have HQ := Lib.hid hq
          have HA : Hid (Below wr.heap.size wr (wr.alloc (.cells #[.int .i64 q, .int .u64 0, .int .u64 0, .int .u64 0, .int .u64 0, .slice none 0 0] 27))) := Lib.hid ((Below.refl _ _).alloc (Nat.le_refl _) _)
          clear x1 x2 x3 x4 hm0 hown HT hq hq2
          go_wp2_with (at_builtin; refine wpList_append_own_at _ rfl (.tmp 26) (.tmp 30) 25 rfl (w.heap.size + 2) 27 i0 (.agg (nodeC 0 u0 (.slice none 0 0))) 6 64 Tryd.underlying25 hi hz0 hz1 hz2 rfl (by decide) (.slice a (ps.length + m) cc) (ps.length + m) (flat xs) rfl ?c0 ⟨wr.heap.size, 0, none⟩ 1 1 (nodeC q u0 (.slice none 0 0)).toList rfl rfl ?c1 ?c2 ?c3 ?c4 ?c5 ?_)
          case c0 => exact X4.out
          case c1 => exact HC0.out
          case c2 => exact fun u hu => (Array.all_eq_true_iff_forall_mem.1 (nodeC_one q u0 none 0 0)) u (by simpa using hu)
          case c3 => unfold maxLen; omega
          case c4 => omega
          case c5 => simp; omega
          intro v' w8 hown8 hgrow8 _ hat8
          have hbase := fun g (hg : (Value.slice a (ps.length + m) cc).ownBlock = some g) => (World.ownsRow.lt X4.out g hg).1
          have htk : ps.map twE ++ ([mkE 0, mkE 1, mkE 2].take (m + 1)) = (ps.map twE ++ ([mkE 0, mkE 1, mkE 2].take m)) ++ [mkE m] := by
            rcases (by omega : m = 0 ∨ m = 1 ∨ m = 2) with rfl | rfl | rfl <;> simp
          have hsz7 : (wr.alloc (.cells #[.int .i64 q, .int .u64 0, .int .u64 0, .int .u64 0, .int .u64 0, .slice none 0 0] 27)).heap.size = wr.heap.size + 1 := by simp
          have HTA : Hid (ThG (w.heap.size + 2) (ps.map twE ++ ([mkE 0, mkE 1, mkE 2].take (m + 1))) v' w8) := Lib.hid (by
            rw [htk]
            exact ThG.app (lo := wr.heap.size) (w := wr) (x := nodeC q u0 (.slice none 0 0)) HM0.out (mkE_mono m) rfl X1.out X2.out X3.out rfl hge (fun g hg => (HO.out g hg).2) (show _ = markV m from HQ.out.symm) (by rw [hlm]; exact hown8) hgrow8 (by rw [hsz7]; exact hat8))
          have HBA : Hid (Below w.heap.size w w8) := Lib.hid (below_grown (HB.out.trans (HA.out.mono HB.out.size)) hgrow8 (fun g hg => by have := hbase g hg; omega) (Nat.le_trans HB.out.size HA.out.size))
          have HXA : Hid (w8.heap[w.heap.size]? = some (.cells #[.int .i64 k, .int .u64 (u 0), .int .u64 (u 1), .int .u64 (u 2), .int .u64 (u 3), .slice p ps.length c] 27)) := Lib.hid
            ((hgrow8.block _ (by omega) (fun e => by have := hbase _ e.symm; omega)).trans ((HA.out.block _ (by omega)).trans HX.out))
          have HYA : Hid (w8.heap[w.heap.size + 1]? = some (.cells #[.int .i64 0, .int .u64 0, .int .u64 0, .int .u64 0, .int .u64 0, .slice none 0 0] 27)) := Lib.hid
            ((hgrow8.block _ (by omega) (fun e => by have := hbase _ e.symm; omega)).trans ((HA.out.block _ (by omega)).trans HY.out))
          have hge8 : w.heap.size + 2 ≤ w8.heap.size := by have := hgrow8.size; omega
          clear hown8 hgrow8 hat8 hbase htk X1 X2 X3 X4 HC0 HA HM0 HO HQ HX HY HB hsz7
          go_wp2_with fail
          go_roundw
          case rel => exact ⟨m + 1, by omega, by go_num, hge8, HTA, HBA, HXA, HYA⟩
          case measure => simp [intOf]; omega
        · obtain rfl : m = 3 := by omega
          obtain ⟨g, cap, hsl, hcap, hbg, hgl, htw⟩ := HT.out.twin k u
          have ha : a = some ⟨g, 0, none⟩ ∧ cc = cap := by simpa using hsl
          obtain ⟨rfl, rfl⟩ := ha
          have HW := Lib.hid htw
          have c0 : wr.cell? ⟨w.heap.size, 0, none⟩ = some (.int .i64 k) := cell_of_row wr _ 0 _ 27 (0, 0) HX.out
          have c1 : wr.cell? ⟨w.heap.size, 1, none⟩ = some (.int .u64 (u 0)) := cell_of_row wr _ 1 _ 27 (0, 0) HX.out
          have c2 : wr.cell? ⟨w.heap.size, 2, none⟩ = some (.int .u64 (u 1)) := cell_of_row wr _ 2 _ 27 (0, 0) HX.out
          have c3 : wr.cell? ⟨w.heap.size, 3, none⟩ = some (.int .u64 (u 2)) := cell_of_row wr _ 3 _ 27 (0, 0) HX.out
          have c4 : wr.cell? ⟨w.heap.size, 4, none⟩ = some (.int .u64 (u 3)) := cell_of_row wr _ 4 _ 27 (0, 0) HX.out
          have c5 : wr.cell? ⟨w.heap.size, 5, none⟩ = some (.slice p ps.length c) := cell_of_row wr _ 5 _ 27 (0, 0) HX.out
          have z5 : wr.frozen? ⟨w.heap.size, 5, none⟩ = false := frozen_of_row wr _ 5 _ 27 HX.out
          have i1 : ((ps.length : Nat) : Int) ≤ (cc : Int) := by omega
          have i0' : (0 : Int) ≤ ((ps.length : Nat) : Int) := by omega
          have SB0 : Sb w wr [(w.heap.size, .cells #[.int .i64 k, .int .u64 (u 0), .int .u64 (u 1), .int .u64 (u 2), .int .u64 (u 3), .slice p ps.length c] 27), (w.heap.size + 1, .cells #[.int .i64 0, .int .u64 0, .int .u64 0, .int .u64 0, .int .u64 0, .slice none 0 0] 27)] := ⟨HB.out, by
            intro x hx
            simp only [List.mem_cons, List.mem_nil_iff, or_false] at hx
            rcases hx with rfl | rfl
            · exact ⟨Nat.le_refl _, HX.out⟩
            · exact ⟨Nat.le_succ _, HY.out⟩⟩
          have SB1 := SB0.set (i := 5) (.slice (some ⟨g, 0, none⟩) ps.length cc) (by simp)
          have SB2 := Lib.hid (SB1.sub (M := [(w.heap.size + 1, .cells #[.int .i64 0, .int .u64 0, .int .u64 0, .int .u64 0, .int .u64 0, .slice none 0 0] 27)]) (by simp))
          have HY2 := Lib.hid SB2.out.heap
          have SB3 := Lib.hid (SB2.out.setRow (cs' := nodeC k u (.slice (some ⟨g, 0, none⟩) ps.length cc)) (by simp))
          have HZ : Hid (∀ b, w.heap.size + 2 ≤ b → ((wr.setCell ⟨w.heap.size, 5, none⟩ (.slice (some ⟨g, 0, none⟩) ps.length cc)).setRow (w.heap.size + 1) (nodeC k u (.slice (some ⟨g, 0, none⟩) ps.length cc))).heap[b]? = wr.heap[b]?) := Lib.hid fun b hb => by
            rw [setRow_other _ (w.heap.size + 1) b _ (by omega)]
            exact setCells_other (b := w.heap.size) (by omega) [.slice (some ⟨g, 0, none⟩) ps.length cc] 5 wr
          have hfs : ((wr.setCell ⟨w.heap.size, 5, none⟩ (.slice (some ⟨g, 0, none⟩) ps.length cc)).setRow (w.heap.size + 1) (nodeC k u (.slice (some ⟨g, 0, none⟩) ps.length cc))).heap.size = wr.heap.size := by simp
          clear htw hsl HT SB0 SB1
          go_wp2_with (refine wpList_store_row rfl 27 (.tmp 2) (.tmp 38) rfl (w.heap.size + 1) (nodeC k u (.slice (some ⟨g, 0, none⟩) ps.length cc)) rfl rfl 27 _ HY2.out size27r rfl (nodeC_one _ _ _ _ _) ?_)
          refine bodyPost_ret (v := .agg (nodeC k u (.slice (some ⟨g, 0, none⟩) ps.length cc))) (results_cell_row rfl _ _ (w.heap.size + 1) 27 _ (0, 0) _ rfl (setRow_heap _ (w.heap.size + 1) _ _ 27 (0, 0) HY2.out) Tryd.underlying27 rfl size27r) rfl ⟨⟨_, rfl, ?_⟩, SB3.out.1⟩
          refine TW.mono (fun b hb => ?_) (fun b hb _ => HZ.out b hb.1) HW.out
          rw [hfs]
          omega
end
section
/- LeftReg: the walk. -/
theorem keepT {v0 v1 v2 v3 v4 v5 v6 v7 v8 v9 v10 v11 v12 v13 : Value} {o0 o1 o2 o3 o4 o5 o6 o7 o8 o9 o10 o11 o12 o13 : Nat} {b0 b1 b2 b3 : Nat} {y w' w'' : World} (h : w'.cell? ⟨b0, o0, none⟩ = some v0 ∧ w'.cell? ⟨b1, o1, none⟩ = some v1 ∧ w'.cell? ⟨b2, o2, none⟩ = some v2 ∧ w'.cell? ⟨b2, o3, none⟩ = some v3 ∧ w'.cell? ⟨b2, o4, none⟩ = some v4 ∧ w'.cell? ⟨b2, o5, none⟩ = some v5 ∧ w'.cell? ⟨b2, o6, none⟩ = some v6 ∧ w'.cell? ⟨b2, o7, none⟩ = some v7 ∧ w'.cell? ⟨b3, o8, none⟩ = some v8 ∧ w'.cell? ⟨b3, o9, none⟩ = some v9 ∧ w'.cell? ⟨b3, o10, none⟩ = some v10 ∧ w'.cell? ⟨b3, o11, none⟩ = some v11 ∧ w'.cell? ⟨b3, o12, none⟩ = some v12 ∧ w'.cell? ⟨b3, o13, none⟩ = some v13 ∧ b0 < w'.heap.size ∧ b1 < w'.heap.size ∧ b2 < w'.heap.size ∧ b3 < w'.heap.size ∧ Below y.heap.size y w') (hb : Below w'.heap.size w' w'') : w''.cell? ⟨b0, o0, none⟩ = some v0 ∧ w''.cell? ⟨b1, o1, none⟩ = some v1 ∧ w''.cell? ⟨b2, o2, none⟩ = some v2 ∧ w''.cell? ⟨b2, o3, none⟩ = some v3 ∧ w''.cell? ⟨b2, o4, none⟩ = some v4 ∧ w''.cell? ⟨b2, o5, none⟩ = some v5 ∧ w''.cell? ⟨b2, o6, none⟩ = some v6 ∧ w''.cell? ⟨b2, o7, none⟩ = some v7 ∧ w''.cell? ⟨b3, o8, none⟩ = some v8 ∧ w''.cell? ⟨b3, o9, none⟩ = some v9 ∧ w''.cell? ⟨b3, o10, none⟩ = some v10 ∧ w''.cell? ⟨b3, o11, none⟩ = some v11 ∧ w''.cell? ⟨b3, o12, none⟩ = some v12 ∧ w''.cell? ⟨b3, o13, none⟩ = some v13 ∧ b0 < w''.heap.size ∧ b1 < w''.heap.size ∧ b2 < w''.heap.size ∧ b3 < w''.heap.size ∧ Below y.heap.size y w'' := by
  obtain ⟨h0, h1, h2, h3, h4, h5, h6, h7, h8, h9, h10, h11, h12, h13, z0, z1, z2, z3, K⟩ := h
  exact ⟨(hb.cell (p := ⟨b0, o0, none⟩) z0).trans h0, (hb.cell (p := ⟨b1, o1, none⟩) z1).trans h1, (hb.cell (p := ⟨b2, o2, none⟩) z2).trans h2, (hb.cell (p := ⟨b2, o3, none⟩) z2).trans h3, (hb.cell (p := ⟨b2, o4, none⟩) z2).trans h4, (hb.cell (p := ⟨b2, o5, none⟩) z2).trans h5, (hb.cell (p := ⟨b2, o6, none⟩) z2).trans h6, (hb.cell (p := ⟨b2, o7, none⟩) z2).trans h7, (hb.cell (p := ⟨b3, o8, none⟩) z3).trans h8, (hb.cell (p := ⟨b3, o9, none⟩) z3).trans h9, (hb.cell (p := ⟨b3, o10, none⟩) z3).trans h10, (hb.cell (p := ⟨b3, o11, none⟩) z3).trans h11, (hb.cell (p := ⟨b3, o12, none⟩) z3).trans h12, (hb.cell (p := ⟨b3, o13, none⟩) z3).trans h13, Nat.lt_of_lt_of_le z0 hb.size, Nat.lt_of_lt_of_le z1 hb.size, Nat.lt_of_lt_of_le z2 hb.size, Nat.lt_of_lt_of_le z3 hb.size, K.trans (hb.mono K.size)⟩
theorem keepT_k {v0 v1 v2 v3 v4 v5 v6 v7 v8 v9 v10 v11 v12 v13 : Value} {o0 o1 o2 o3 o4 o5 o6 o7 o8 o9 o10 o11 o12 o13 : Nat} {b0 b1 b2 b3 : Nat} {y w' : World} (h : w'.cell? ⟨b0, o0, none⟩ = some v0 ∧ w'.cell? ⟨b1, o1, none⟩ = some v1 ∧ w'.cell? ⟨b2, o2, none⟩ = some v2 ∧ w'.cell? ⟨b2, o3, none⟩ = some v3 ∧ w'.cell? ⟨b2, o4, none⟩ = some v4 ∧ w'.cell? ⟨b2, o5, none⟩ = some v5 ∧ w'.cell? ⟨b2, o6, none⟩ = some v6 ∧ w'.cell? ⟨b2, o7, none⟩ = some v7 ∧ w'.cell? ⟨b3, o8, none⟩ = some v8 ∧ w'.cell? ⟨b3, o9, none⟩ = some v9 ∧ w'.cell? ⟨b3, o10, none⟩ = some v10 ∧ w'.cell? ⟨b3, o11, none⟩ = some v11 ∧ w'.cell? ⟨b3, o12, none⟩ = some v12 ∧ w'.cell? ⟨b3, o13, none⟩ = some v13 ∧ b0 < w'.heap.size ∧ b1 < w'.heap.size ∧ b2 < w'.heap.size ∧ b3 < w'.heap.size ∧ Below y.heap.size y w') : Below y.heap.size y w' := h.2.2.2.2.2.2.2.2.2.2.2.2.2.2.2.2.2.2
set_option maxHeartbeats 16000000 in
theorem left_walk {D E : Nat → Prop} {k : Int} {u : Nat → Int} {ps : List RT} {v v' : Value} {w : World} (hD : ∀ b, D b → b < w.heap.size) (hE : ∀ b, E b → b < w.heap.size) (hl : ps.length ≤ 1000000) (h : TW D w (.mk k u ps) v) (g : RV E w (.mk k u ps) v')
    (hI : Hid (∀ i (hi : i < ps.length) v v' w, TW D w ps[i] v → RV E w ps[i] v' → (∀ b, D b → b < w.heap.size) → (∀ b, E b → b < w.heap.size) → Calls Tryd.prog 20 #[v, v'] w fun e w' => e = .returned (.bool true) ∧ Below w.heap.size w w')) :
    Calls Tryd.prog 20 #[v, v'] w fun e w' => e = .returned (.bool true) ∧ Below w.heap.size w w' := by
  cases h with
  | mk k u ps b c X hDb hbl hx hc hm hcap =>
  obtain ⟨p', c', rfl, hp'⟩ := g.parts
  have HP' := Lib.hid hp'
  have HX := Lib.hid hx
  have HC := Lib.hid hc
  have HM := Lib.hid hm
  clear g hp' hx hc hm
  have S0 := Lib.hid (((Sb.start w).alloc (.cells #[.int .i64 k, .int .u64 (u 0), .int .u64 (u 1), .int .u64 (u 2), .int .u64 (u 3), .slice (some ⟨b, 0, none⟩) ps.length c] 27)).alloc (.cells #[.int .i64 k, .int .u64 (u 0), .int .u64 (u 1), .int .u64 (u 2), .int .u64 (u 3), .slice p' ps.length c'] 27))
  rw [show (w.alloc (.cells #[.int .i64 k, .int .u64 (u 0), .int .u64 (u 1), .int .u64 (u 2), .int .u64 (u 3), .slice (some ⟨b, 0, none⟩) ps.length c] 27)).heap.size = w.heap.size + 1 from by simp] at S0
  have hns := neq24s u
  have hz := zero27l
  have i1 : ¬ (c : Int) < ((ps.length : Nat) : Int) + 3 := by omega
  have i2 : ((ps.length : Nat) : Int) + 3 ≤ (c : Int) := by omega
  have i3 : (0 : Int) ≤ ((ps.length : Nat) : Int) + 3 := by omega
  unfold nodeC
  go_enter Tryd.func20, Tryd.ntmps20
  go_wp2_with fail
  go_loopw [6] (fun i wr => ∃ m : Nat, m ≤ 3 ∧ i = .int .i64 (m : Nat) ∧ Hid (Sb w wr [(w.heap.size + 1, .cells #[.int .i64 k, .int .u64 (u 0), .int .u64 (u 1), .int .u64 (u 2), .int .u64 (u 3), .slice p' ps.length c'] 27), (w.heap.size, .cells #[.int .i64 k, .int .u64 (u 0), .int .u64 (u 1), .int .u64 (u 2), .int .u64 (u 3), .slice (some ⟨b, 0, none⟩) ps.length c] 27)])) (fun i _ => 3 - (intOf i).toNat)
  case atStart => exact ⟨0, by omega, rfl, S0⟩
  case round =>
    obtain ⟨m, hm3, rfl, HS⟩ := hrel
    clear S0 hns
    have q5 : wr.cell? ⟨w.heap.size + 1, 5, none⟩ = some (.slice p' ps.length c') := HS.out.cell 5
    by_cases hlt : m < 3
    · have hmk : ∃ q : Int, markV m = nodeC q u0 (.slice none 0 0) ∧ q = -7000 - (m : Int) := ⟨_, rfl, rfl⟩
      obtain ⟨q, hq, hq2⟩ := hmk
      have hlt3 : (m : Int) < 3 := by omega
      have hqw : IntKind.i64.wrap (-7000 - (m : Int)) = q := by rw [IntWalk.i64_in _ (by omega)]; exact hq2.symm
      have hiw : IntKind.i64.wrap (((ps.length : Nat) : Int) + (m : Int)) = ((ps.length : Nat) : Int) + (m : Int) := IntWalk.i64_in _ (by omega)
      have hi0 : (0 : Int) ≤ ((ps.length : Nat) : Int) + (m : Int) := by omega
      have hi1 : ((ps.length : Nat) : Int) + (m : Int) < ((ps.length : Nat) : Int) + 3 := by omega
      have cc : ∀ j y, j < 6 → (nodeC q u0 (.slice none 0 0))[j]? = some y → wr.cell? ⟨b, (ps.length + m) * 6 + j, none⟩ = some y := fun j y hj hy => by
        obtain ⟨z, h1, h2⟩ := HM.out m hlt j hj
        rw [hq, hy] at h1
        cases h1
        rw [HS.out.1.cell (p := ⟨b, (ps.length + m) * 6 + j, none⟩) hbl, ← h2, show (ps.length + m) * 6 + j = 6 * (ps.length + m) + j by omega]
      have d0 : wr.cell? ⟨b, (ps.length + m) * 6, none⟩ = some (.int .i64 q) := cc 0 _ (by omega) rfl
      have d1 : wr.cell? ⟨b, (ps.length + m) * 6 + 1, none⟩ = some (.int .u64 0) := cc 1 _ (by omega) rfl
      have d2 : wr.cell? ⟨b, (ps.length + m) * 6 + 2, none⟩ = some (.int .u64 0) := cc 2 _ (by omega) rfl
      have d3 : wr.cell? ⟨b, (ps.length + m) * 6 + 3, none⟩ = some (.int .u64 0) := cc 3 _ (by omega) rfl
      have d4 : wr.cell? ⟨b, (ps.length + m) * 6 + 4, none⟩ = some (.int .u64 0) := cc 4 _ (by omega) rfl
      have d5 : wr.cell? ⟨b, (ps.length + m) * 6 + 5, none⟩ = some (.slice none 0 0) := cc 5 _ (by omega) rfl
      have HS2 := Lib.hid (HS.out.up ((Below.refl _ _).alloc (Nat.le_refl _) (.cells (nodeC q u0 (.slice none 0 0)) 27)))
      unfold nodeC u0 at HS2
      clear cc hq hq2 HS
      go_wp2_with fail
      go_roundw
      case rel => exact ⟨m + 1, by omega, by go_num, HS2⟩
      case measure => simp [intOf]; omega
    · obtain rfl : m = 3 := by omega
      rw [show (((3 : Nat)) : Int) = (3 : Int) from rfl]
      go_wp2_with fail
      go_loopw [8] (fun i wr => ∃ j : Nat, j ≤ ps.length ∧ i = .int .i64 (j : Nat) ∧ Hid (Sb w wr [(w.heap.size + 1, .cells #[.int .i64 k, .int .u64 (u 0), .int .u64 (u 1), .int .u64 (u 2), .int .u64 (u 3), .slice p' ps.length c'] 27), (w.heap.size, .cells #[.int .i64 k, .int .u64 (u 0), .int .u64 (u 1), .int .u64 (u 2), .int .u64 (u 3), .slice (some ⟨b, 0, none⟩) ps.length c] 27)])) (fun i _ => ps.length - (intOf i).toNat)
      case atStart => exact ⟨0, by omega, rfl, HS⟩
      clear HS q5 hlt
      case round =>
        obtain ⟨j, hj, rfl, HS⟩ := hrel
        have q6 : wr.cell? ⟨w.heap.size + 1, 5, none⟩ = some (.slice p' ps.length c') := HS.out.cell 5
        by_cases hlt : j < ps.length
        · have hlt3 : (j : Int) < ((ps.length : Nat) : Int) := by omega
          have hne : ps ≠ [] := by intro e; subst e; simp at hlt
          obtain ⟨b', o', rfl, hEb, hx'⟩ := HP'.out hne
          obtain ⟨k2, u2, p2, n2, c2, hv', hcell'⟩ := hx' j hlt
          have hv := HX.out j hlt
          obtain ⟨k1, u1, p1, n1, c1, hf⟩ := hv.form
          have hXj : X j = nodeC k1 u1 (.slice p1 n1 c1) := by injection hf
          rw [hXj] at hv
          have hbw' := hE b' hEb
          have cc : ∀ i y, i < 6 → (nodeC k1 u1 (.slice p1 n1 c1))[i]? = some y → wr.cell? ⟨b, j * 6 + i, none⟩ = some y := fun i y hi hy => by
            obtain ⟨z, h1, h2⟩ := HC.out j hlt i hi
            rw [hXj, hy] at h1
            cases h1
            rw [HS.out.1.cell (p := ⟨b, j * 6 + i, none⟩) hbl, ← h2, show j * 6 + i = 6 * j + i by omega]
          have cc' : ∀ i y, (nodeC k2 u2 (.slice p2 n2 c2))[i]? = some y → wr.cell? ⟨b', o' + j * 6 + i, none⟩ = some y := fun i y hy => by
            rw [HS.out.1.cell (p := ⟨b', o' + j * 6 + i, none⟩) hbw', ← hcell' i y hy, show o' + j * 6 + i = o' + (6 * j + i) by omega]
          have a5 : wr.cell? ⟨w.heap.size, 5, none⟩ = some (.slice (some ⟨b, 0, none⟩) ps.length c) := HS.out.tl.cell 5
          have d0 : wr.cell? ⟨b, j * 6, none⟩ = some (.int .i64 k1) := cc 0 _ (by omega) rfl
          have d1 : wr.cell? ⟨b, j * 6 + 1, none⟩ = some (.int .u64 (u1 0)) := cc 1 _ (by omega) rfl
          have d2 : wr.cell? ⟨b, j * 6 + 2, none⟩ = some (.int .u64 (u1 1)) := cc 2 _ (by omega) rfl
          have d3 : wr.cell? ⟨b, j * 6 + 3, none⟩ = some (.int .u64 (u1 2)) := cc 3 _ (by omega) rfl
          have d4 : wr.cell? ⟨b, j * 6 + 4, none⟩ = some (.int .u64 (u1 3)) := cc 4 _ (by omega) rfl
          have d5 : wr.cell? ⟨b, j * 6 + 5, none⟩ = some (.slice p1 n1 c1) := cc 5 _ (by omega) rfl
          have e0 : wr.cell? ⟨b', o' + j * 6, none⟩ = some (.int .i64 k2) := cc' 0 _ rfl
          have e1 : wr.cell? ⟨b', o' + j * 6 + 1, none⟩ = some (.int .u64 (u2 0)) := cc' 1 _ rfl
          have e2 : wr.cell? ⟨b', o' + j * 6 + 2, none⟩ = some (.int .u64 (u2 1)) := cc' 2 _ rfl
          have e3 : wr.cell? ⟨b', o' + j * 6 + 3, none⟩ = some (.int .u64 (u2 2)) := cc' 3 _ rfl
          have e4 : wr.cell? ⟨b', o' + j * 6 + 4, none⟩ = some (.int .u64 (u2 3)) := cc' 4 _ rfl
          have e5 : wr.cell? ⟨b', o' + j * 6 + 5, none⟩ = some (.slice p2 n2 c2) := cc' 5 _ rfl
          have z1 : w.heap.size < wr.heap.size := HS.out.tl.lt
          have z2 : w.heap.size + 1 < wr.heap.size := HS.out.lt
          have z3 : b < wr.heap.size := Nat.lt_of_lt_of_le hbl HS.out.1.size
          have z4 : b' < wr.heap.size := Nat.lt_of_lt_of_le hbw' HS.out.1.size
          have HK : Hid (∀ z, Below wr.heap.size wr z → Calls Tryd.prog 20 #[.agg (nodeC k1 u1 (.slice p1 n1 c1)), .agg (nodeC k2 u2 (.slice p2 n2 c2))] z fun e w' => e = .returned (.bool true) ∧ Below z.heap.size z w') := Lib.hid fun z hb => by
            have hk : ∀ x, x < w.heap.size → z.heap[x]? = w.heap[x]? := fun x hx => (hb.block x (Nat.lt_of_lt_of_le hx HS.out.1.size)).trans (HS.out.1.block x hx)
            have hsz := Nat.le_trans HS.out.1.size hb.size
            exact hI.out j hlt _ _ z (TW.mono (fun b h => h) (fun x hx _ => hk x (hD x hx)) hv) (RV.mono (fun b h => h) (fun x hx _ => hk x (hE x hx)) hv') (fun x hx => Nat.lt_of_lt_of_le (hD x hx) hsz) (fun x hx => Nat.lt_of_lt_of_le (hE x hx) hsz)
          unfold nodeC at HK
          clear cc cc' hv hv' hf hXj hcell' hx'
          go_upto_region 13 with fail
          go_region_held3 (fun w' => w'.cell? ⟨w.heap.size, 5, none⟩ = some (.slice (some ⟨b, 0, none⟩) ps.length c) ∧ w'.cell? ⟨w.heap.size + 1, 5, none⟩ = some (.slice (some ⟨b', o', none⟩) ps.length c') ∧ w'.cell? ⟨b, j * 6, none⟩ = some (.int .i64 k1) ∧ w'.cell? ⟨b, j * 6 + 1, none⟩ = some (.int .u64 (u1 0)) ∧ w'.cell? ⟨b, j * 6 + 2, none⟩ = some (.int .u64 (u1 1)) ∧ w'.cell? ⟨b, j * 6 + 3, none⟩ = some (.int .u64 (u1 2)) ∧ w'.cell? ⟨b, j * 6 + 4, none⟩ = some (.int .u64 (u1 3)) ∧ w'.cell? ⟨b, j * 6 + 5, none⟩ = some (.slice p1 n1 c1) ∧ w'.cell? ⟨b', o' + j * 6, none⟩ = some (.int .i64 k2) ∧ w'.cell? ⟨b', o' + j * 6 + 1, none⟩ = some (.int .u64 (u2 0)) ∧ w'.cell? ⟨b', o' + j * 6 + 2, none⟩ = some (.int .u64 (u2 1)) ∧ w'.cell? ⟨b', o' + j * 6 + 3, none⟩ = some (.int .u64 (u2 2)) ∧ w'.cell? ⟨b', o' + j * 6 + 4, none⟩ = some (.int .u64 (u2 3)) ∧ w'.cell? ⟨b', o' + j * 6 + 5, none⟩ = some (.slice p2 n2 c2) ∧ w.heap.size < w'.heap.size ∧ w.heap.size + 1 < w'.heap.size ∧ b < w'.heap.size ∧ b' < w'.heap.size ∧ Below wr.heap.size wr w')
            (first | assumption | exact ⟨a5, q6, d0, d1, d2, d3, d4, d5, e0, e1, e2, e3, e4, e5, z1, z2, z3, z4, below_drewN (Below.refl _ _) 1⟩ | exact keepT (by assumption) hb)
            (first | (go_at_call 20; refine (HK.out _ (keepT_k (by assumption))).mono ?_; rintro _ wq ⟨rfl, hb⟩))
          all_goals
            rename_i hHeld
            have HS2 := Lib.hid (HS.out.up (keepT_k hHeld))
            clear hHeld hb HK HS a5 q6 d0 d1 d2 d3 d4 d5 e0 e1 e2 e3 e4 e5 z1 z2 z3 z4
            go_wp2_with fail
            go_roundw
            case rel => exact ⟨j + 1, by omega, by go_num, HS2⟩
            case measure => simp [intOf]; omega
        · obtain rfl : j = ps.length := by omega
          have hlt3 : ¬ ((ps.length : Nat) : Int) < ((ps.length : Nat) : Int) := by omega
          go_wp2_with fail
          go_ret
          exact ⟨rfl, HS.out.1⟩
theorem twin_any {D : Nat → Prop} : ∀ (n : Nat) (t : RT) {v : Value} {w : World}, dep t ≤ n → wid t ≤ 1000000 → (∀ b, D b → b < w.heap.size) → RV D w t v → Calls Tryd.prog 17 #[v] w (TwP t w)
  | 0, .mk k u ps, v, w, hn, _, _, _ => by simp [dep] at hn
  | n + 1, .mk k u ps, v, w, hn, hw, hD, h => by
    have h1 : depL ps ≤ n := by simp only [dep] at hn; omega
    obtain ⟨hl, hw2⟩ := wid_mk hw
    exact twin_walk hD hl h (Lib.hid fun i hi v1 w1 h1' hD1 => twin_any n ps[i] (by have := depL_get ps i hi; omega) (hw2 i hi) hD1 h1')
theorem left_any {D E : Nat → Prop} : ∀ (n : Nat) (t : RT) {v v' : Value} {w : World}, dep t ≤ n → wid t ≤ 1000000 → (∀ b, D b → b < w.heap.size) → (∀ b, E b → b < w.heap.size) → TW D w t v → RV E w t v' → Calls Tryd.prog 20 #[v, v'] w fun e w' => e = .returned (.bool true) ∧ Below w.heap.size w w'
  | 0, .mk k u ps, v, v', w, hn, _, _, _, _, _ => by simp [dep] at hn
  | n + 1, .mk k u ps, v, v', w, hn, hw, hD, hE, h, g => by
    have h1 : depL ps ≤ n := by simp only [dep] at hn; omega
    obtain ⟨hl, hw2⟩ := wid_mk hw
    exact left_walk hD hE hl h g (Lib.hid fun i hi v1 v2 w1 h1' g1 hD1 hE1 => left_any n ps[i] (by have := depL_get ps i hi; omega) (hw2 i hi) hD1 hE1 h1' g1)
end
section
/- The document's deep and may. -/
set_option maxHeartbeats 8000000 in
theorem deep_walk {D : Nat → Prop} {k : Int} {u : Nat → Int} {ps : List RT} {v : Value} {w : World} (hD : ∀ b, D b → b < w.heap.size) (hl : ps.length ≤ 1000) (hdd : depL ps ≤ 1000) (h : RV D w (.mk k u ps) v)
    (hI : Hid (∀ i (hi : i < ps.length) v w, RV D w ps[i] v → (∀ b, D b → b < w.heap.size) → Calls Tryd.prog 34 #[v] w fun e w' => e = .returned (.int .i64 (dep ps[i] : Nat)) ∧ Below w.heap.size w w')) :
    Calls Tryd.prog 34 #[v] w fun e w' => e = .returned (.int .i64 ((depL ps + 1 : Nat) : Nat)) ∧ Below w.heap.size w w' := by
  obtain ⟨p, c, rfl, hp⟩ := h.parts
  have HP := Lib.hid hp
  clear h hp
  have S0 := Lib.hid ((Sb.start w).alloc (.cells #[.int .i64 k, .int .u64 (u 0), .int .u64 (u 1), .int .u64 (u 2), .int .u64 (u 3), .slice p ps.length c] 27))
  go_enter Tryd.func34, Tryd.ntmps34
  go_wp2
  go_loopw [3, 4] (fun m i wr => ∃ j : Nat, j ≤ ps.length ∧ i = .int .i64 j ∧ m = .int .i64 (depL (ps.take j) : Nat) ∧ Hid (Sb w wr [(w.heap.size, .cells #[.int .i64 k, .int .u64 (u 0), .int .u64 (u 1), .int .u64 (u 2), .int .u64 (u 3), .slice p ps.length c] 27)])) (fun _ i _ => ps.length - (intOf i).toNat)
  case atStart => exact ⟨0, by omega, rfl, rfl, S0⟩
  case round =>
    obtain ⟨j, hj, rfl, rfl, HS⟩ := hrel
    clear S0
    by_cases hlt : j < ps.length
    · skip
      have hne : ps ≠ [] := by intro e; subst e; simp at hlt
      obtain ⟨b, o, rfl, hDb, hx⟩ := HP.out hne
      obtain ⟨k', u', p', n', c', hv, hcell⟩ := hx j hlt
      have hbw := hD b hDb
      have hB := HS.out.1
      have HV := Lib.hid (RV.mono (w' := wr) (fun b h => h) (fun x hx hlt => hB.block x hlt) hv)
      have HD := Lib.hid fun x (hx : D x) => (Nat.lt_of_lt_of_le (hD x hx) hB.size : x < wr.heap.size)
      have cc : ∀ i y, (nodeC k' u' (.slice p' n' c'))[i]? = some y → wr.cell? ⟨b, o + j * 6 + i, none⟩ = some y := fun i y hy => by
        rw [hB.cell (p := ⟨b, o + j * 6 + i, none⟩) hbw, ← hcell i y hy, show o + j * 6 + i = o + (6 * j + i) by omega]
      have d0 : wr.cell? ⟨b, o + j * 6, none⟩ = some (.int .i64 k') := cc 0 _ rfl
      have d1 : wr.cell? ⟨b, o + j * 6 + 1, none⟩ = some (.int .u64 (u' 0)) := cc 1 _ rfl
      have d2 : wr.cell? ⟨b, o + j * 6 + 2, none⟩ = some (.int .u64 (u' 1)) := cc 2 _ rfl
      have d3 : wr.cell? ⟨b, o + j * 6 + 3, none⟩ = some (.int .u64 (u' 2)) := cc 3 _ rfl
      have d4 : wr.cell? ⟨b, o + j * 6 + 4, none⟩ = some (.int .u64 (u' 3)) := cc 4 _ rfl
      have d5 : wr.cell? ⟨b, o + j * 6 + 5, none⟩ = some (.slice p' n' c') := cc 5 _ rfl
      have q5 : wr.cell? ⟨w.heap.size, 5, none⟩ = some (.slice (some ⟨b, o, none⟩) ps.length c) := HS.out.cell 5
      have hlt' : (j : Int) < (ps.length : Int) := by omega
      have hIj := Lib.hid (hI.out j hlt)
      have HT := Lib.hid (depL_take ps j hlt)
      have hdj : dep ps[j] ≤ 1000 := by have := depL_get ps j hlt; omega
      generalize hd1 : dep ps[j] = d at *
      generalize hd2 : depL (ps.take j) = m at *
      clear hcell hv cc hx hd1 hd2 hB
      go_wp2_with fail
      refine (hIj.out _ _ HV.out HD.out).mono ?_
      rintro _ w5 ⟨rfl, hb⟩
      have H5 := Lib.hid (HS.out.up hb)
      clear hb
      by_cases hmd : m < d
      · have hmd2 : (m : Int) < (d : Int) := by omega
        go_wp2_with fail
        go_roundw
        case rel => exact ⟨j + 1, by omega, by go_num, by rw [HT.out]; exact vint5 (by omega), H5⟩
        case measure => simp [intOf]; omega
      · have hmd2 : ¬ (m : Int) < (d : Int) := by omega
        go_wp2_with fail
        go_roundw
        case rel => exact ⟨j + 1, by omega, by go_num, by rw [HT.out]; exact vint5 (by omega), H5⟩
        case measure => simp [intOf]; omega
    · obtain rfl : j = ps.length := by omega
      have hlt' : ¬ ((ps.length : Int) < (ps.length : Int)) := by omega
      have q5 : wr.cell? ⟨w.heap.size, 5, none⟩ = some (.slice p ps.length c) := HS.out.cell 5
      rw [List.take_length]
      go_wp2
      go_ret
      exact ⟨ret_int (by omega), HS.out.1⟩
theorem deep_any {D : Nat → Prop} : ∀ (n : Nat) (t : RT) {v : Value} {w : World}, dep t ≤ n → n ≤ 1000 → (∀ b, D b → b < w.heap.size) → wid t ≤ 1000 → RV D w t v → Calls Tryd.prog 34 #[v] w fun e w' => e = .returned (.int .i64 (dep t : Nat)) ∧ Below w.heap.size w w'
  | 0, .mk k u ps, v, w, hn, _, _, _, h => by simp [dep] at hn
  | n + 1, .mk k u ps, v, w, hn, hn2, hD, hw, h => by
    have h1 : depL ps ≤ n := by simp only [dep] at hn; omega
    obtain ⟨hl, hw2⟩ := wid_mk hw
    refine deep_walk hD hl (by omega) h (Lib.hid fun i hi v' w' hv hD' => ?_)
    exact deep_any n ps[i] (by have := depL_get ps i hi; omega) (by omega) hD' (hw2 i hi) hv
set_option maxHeartbeats 8000000 in
theorem mayr_A {D : Nat → Prop} {k : Int} {u : Nat → Int} {ps : List RT} {v : Value} {w : World} (hk : k ≠ 2) (hzu : zeroU u = false) (hD : ∀ b, D b → b < w.heap.size) (hl : ps.length ≤ 9223372036854775806) (h : RV D w (.mk k u ps) v)
    (hI : Hid (∀ i (hi : i < ps.length) v w, RV D w ps[i] v → (∀ b, D b → b < w.heap.size) → Calls Tryd.prog 35 #[v] w fun e w' => e = .returned (.bool (mayB ps[i])) ∧ Below w.heap.size w w')) :
    Calls Tryd.prog 35 #[v] w fun e w' => e = .returned (.bool false) ∧ Below w.heap.size w w' := by
  obtain ⟨p, c, rfl, hp⟩ := h.parts
  have HP := Lib.hid hp
  clear h hp
  have S0 := Lib.hid ((Sb.start w).alloc (.cells #[.int .i64 k, .int .u64 (u 0), .int .u64 (u 1), .int .u64 (u 2), .int .u64 (u 3), .slice p ps.length c] 27))
  have hnq := neq24g u
  have hk2 : (k != 2) = true := by rw [bne_iff_ne]; exact hk
  rw [hzu] at hnq
  clear hzu
  go_enter Tryd.func35, Tryd.ntmps35
  go_wp2_with fail
  go_ret
  exact ⟨rfl, S0.out.1⟩
set_option maxHeartbeats 8000000 in
theorem mayr_B {D : Nat → Prop} {k : Int} {u : Nat → Int} {ps : List RT} {v : Value} {w : World} (hk : (k = 0 ∧ zeroU u = true) ∨ (k = 1 ∧ zeroU u = true) ∨ k = 2) (hD : ∀ b, D b → b < w.heap.size) (hl : ps.length ≤ 9223372036854775806) (h : RV D w (.mk k u ps) v)
    (hI : Hid (∀ i (hi : i < ps.length) v w, RV D w ps[i] v → (∀ b, D b → b < w.heap.size) → Calls Tryd.prog 35 #[v] w fun e w' => e = .returned (.bool (mayB ps[i])) ∧ Below w.heap.size w w')) :
    Calls Tryd.prog 35 #[v] w fun e w' => e = .returned (.bool (decide (ps.length = 0))) ∧ Below w.heap.size w w' := by
  obtain ⟨p, c, rfl, hp⟩ := h.parts
  have HP := Lib.hid hp
  clear h hp
  have S0 := Lib.hid ((Sb.start w).alloc (.cells #[.int .i64 k, .int .u64 (u 0), .int .u64 (u 1), .int .u64 (u 2), .int .u64 (u 3), .slice p ps.length c] 27))
  have hnq := neq24g u
  have hE : (((ps.length : Nat) : Int) == 0) = decide (ps.length = 0) := by
    rw [Bool.eq_iff_iff]; simp
  rcases hk with ⟨rfl, hzu⟩ | ⟨rfl, hzu⟩ | rfl
  · rw [hzu] at hnq
    clear hzu
    go_enter Tryd.func35, Tryd.ntmps35
    go_wp2_with fail
    go_ret
    exact ⟨rb (by first | exact hE | simp), S0.out.1⟩
  · rw [hzu] at hnq
    clear hzu
    go_enter Tryd.func35, Tryd.ntmps35
    go_wp2_with fail
    go_ret
    exact ⟨rb (by first | exact hE | simp), S0.out.1⟩
  · go_enter Tryd.func35, Tryd.ntmps35
    go_wp2_with fail
    go_ret
    exact ⟨rb (by first | exact hE | simp), S0.out.1⟩
set_option maxHeartbeats 8000000 in
theorem mayr_C {D : Nat → Prop} {k : Int} {u : Nat → Int} {ps : List RT} {v : Value} {w : World} (hk : (k = 3 ∨ k = 4) ∧ ps.length = 0 ∨ (k = 5 ∨ k = 6 ∨ k = 7) ∧ ps.length ≠ 1) (hzu : zeroU u = true) (hD : ∀ b, D b → b < w.heap.size) (hl : ps.length ≤ 9223372036854775806) (h : RV D w (.mk k u ps) v)
    (hI : Hid (∀ i (hi : i < ps.length) v w, RV D w ps[i] v → (∀ b, D b → b < w.heap.size) → Calls Tryd.prog 35 #[v] w fun e w' => e = .returned (.bool (mayB ps[i])) ∧ Below w.heap.size w w')) :
    Calls Tryd.prog 35 #[v] w fun e w' => e = .returned (.bool false) ∧ Below w.heap.size w w' := by
  obtain ⟨p, c, rfl, hp⟩ := h.parts
  have HP := Lib.hid hp
  clear h hp
  have S0 := Lib.hid ((Sb.start w).alloc (.cells #[.int .i64 k, .int .u64 (u 0), .int .u64 (u 1), .int .u64 (u 2), .int .u64 (u 3), .slice p ps.length c] 27))
  have hnq := neq24g u
  rw [hzu] at hnq
  clear hzu
  rcases hk with ⟨hk, hn⟩ | ⟨hk, hn⟩
  · have hn2 : ((ps.length : Nat) : Int) < 1 := by omega
    clear hn
    rcases hk with rfl | rfl
    all_goals
      go_enter Tryd.func35, Tryd.ntmps35
      go_wp2_with fail
      go_ret
      exact ⟨rfl, S0.out.1⟩
  · have hn2 : (((ps.length : Nat) : Int) != 1) = true := by rw [bne_iff_ne]; omega
    clear hn
    rcases hk with rfl | rfl | rfl
    all_goals
      go_enter Tryd.func35, Tryd.ntmps35
      go_wp2_with fail
      go_ret
      exact ⟨rfl, S0.out.1⟩
set_option maxHeartbeats 8000000 in
theorem mayr_D {D : Nat → Prop} {k : Int} {u : Nat → Int} {ps : List RT} {v : Value} {w : World} (hk : k ≠ 0 ∧ k ≠ 1 ∧ k ≠ 2 ∧ k ≠ 3 ∧ k ≠ 4 ∧ k ≠ 5 ∧ k ≠ 6 ∧ k ≠ 7) (hzu : zeroU u = true) (hD : ∀ b, D b → b < w.heap.size) (hl : ps.length ≤ 9223372036854775806) (h : RV D w (.mk k u ps) v)
    (hI : Hid (∀ i (hi : i < ps.length) v w, RV D w ps[i] v → (∀ b, D b → b < w.heap.size) → Calls Tryd.prog 35 #[v] w fun e w' => e = .returned (.bool (mayB ps[i])) ∧ Below w.heap.size w w')) :
    Calls Tryd.prog 35 #[v] w fun e w' => e = .returned (.bool false) ∧ Below w.heap.size w w' := by
  obtain ⟨p, c, rfl, hp⟩ := h.parts
  have HP := Lib.hid hp
  clear h hp
  have S0 := Lib.hid ((Sb.start w).alloc (.cells #[.int .i64 k, .int .u64 (u 0), .int .u64 (u 1), .int .u64 (u 2), .int .u64 (u 3), .slice p ps.length c] 27))
  have hnq := neq24g u
  rw [hzu] at hnq
  clear hzu
  obtain ⟨k0, k1, k2, k3, k4, k5, k6, k7⟩ := hk
  have n2 : (k != 2) = true := by rw [bne_iff_ne]; exact k2
  have e0 : (k == 0) = false := by simpa using k0
  have e1 : (k == 1) = false := by simpa using k1
  have e2 : (k == 2) = false := by simpa using k2
  have e3 : (k == 3) = false := by simpa using k3
  have e4 : (k == 4) = false := by simpa using k4
  have e5 : (k == 5) = false := by simpa using k5
  have e6 : (k == 6) = false := by simpa using k6
  have e7 : (k == 7) = false := by simpa using k7
  go_enter Tryd.func35, Tryd.ntmps35
  go_wp2_with fail
  go_ret
  exact ⟨rfl, S0.out.1⟩
set_option maxHeartbeats 8000000 in
theorem mayr_3 {D : Nat → Prop} {u : Nat → Int} {ps : List RT} {v : Value} {w : World} (hn : ps.length ≠ 0) (hzu : zeroU u = true) (hD : ∀ b, D b → b < w.heap.size) (hl : ps.length ≤ 9223372036854775806) (h : RV D w (.mk 3 u ps) v)
    (hI : Hid (∀ i (hi : i < ps.length) v w, RV D w ps[i] v → (∀ b, D b → b < w.heap.size) → Calls Tryd.prog 35 #[v] w fun e w' => e = .returned (.bool (mayB ps[i])) ∧ Below w.heap.size w w')) :
    Calls Tryd.prog 35 #[v] w fun e w' => e = .returned (.bool (mayL ps)) ∧ Below w.heap.size w w' := by
  obtain ⟨p, c, rfl, hp⟩ := h.parts
  have HP := Lib.hid hp
  clear h hp
  have S0 := Lib.hid ((Sb.start w).alloc (.cells #[.int .i64 3, .int .u64 (u 0), .int .u64 (u 1), .int .u64 (u 2), .int .u64 (u 3), .slice p ps.length c] 27))
  have hnq := neq24g u
  rw [hzu] at hnq
  clear hzu
  have hn2 : ¬ ((ps.length : Nat) : Int) < 1 := by omega
  clear hn
  obtain ⟨R, hR⟩ : ∃ R, mayL ps = R := ⟨_, rfl⟩
  rw [hR]
  have HR := Lib.hid hR
  clear hR
  go_enter Tryd.func35, Tryd.ntmps35
  go_wp2_with fail
  go_loopw [4] (fun i wr => ∃ j : Nat, j ≤ ps.length ∧ i = .int .i64 j ∧ Hid (mayL (ps.drop j) = R) ∧ Hid (Sb w wr [(w.heap.size, .cells #[.int .i64 3, .int .u64 (u 0), .int .u64 (u 1), .int .u64 (u 2), .int .u64 (u 3), .slice p ps.length c] 27)])) (fun i _ => ps.length - (intOf i).toNat)
  case atStart => exact ⟨0, by omega, rfl, HR, S0⟩
  case round =>
    obtain ⟨j, hj, rfl, HC, HS⟩ := hrel
    clear S0 HR
    by_cases hlt : j < ps.length
    · skip
      have hne : ps ≠ [] := by intro e; subst e; simp at hlt
      obtain ⟨b, o, rfl, hDb, hx⟩ := HP.out hne
      obtain ⟨k', u', p', n', c', hv, hcell⟩ := hx j hlt
      have hbw := hD b hDb
      have hB := HS.out.1
      have HV := Lib.hid (RV.mono (w' := wr) (fun b h => h) (fun x hx hlt => hB.block x hlt) hv)
      have HD := Lib.hid fun x (hx : D x) => (Nat.lt_of_lt_of_le (hD x hx) hB.size : x < wr.heap.size)
      have cc : ∀ i y, (nodeC k' u' (.slice p' n' c'))[i]? = some y → wr.cell? ⟨b, o + j * 6 + i, none⟩ = some y := fun i y hy => by
        rw [hB.cell (p := ⟨b, o + j * 6 + i, none⟩) hbw, ← hcell i y hy, show o + j * 6 + i = o + (6 * j + i) by omega]
      have d0 : wr.cell? ⟨b, o + j * 6, none⟩ = some (.int .i64 k') := cc 0 _ rfl
      have d1 : wr.cell? ⟨b, o + j * 6 + 1, none⟩ = some (.int .u64 (u' 0)) := cc 1 _ rfl
      have d2 : wr.cell? ⟨b, o + j * 6 + 2, none⟩ = some (.int .u64 (u' 1)) := cc 2 _ rfl
      have d3 : wr.cell? ⟨b, o + j * 6 + 3, none⟩ = some (.int .u64 (u' 2)) := cc 3 _ rfl
      have d4 : wr.cell? ⟨b, o + j * 6 + 4, none⟩ = some (.int .u64 (u' 3)) := cc 4 _ rfl
      have d5 : wr.cell? ⟨b, o + j * 6 + 5, none⟩ = some (.slice p' n' c') := cc 5 _ rfl
      have q5 : wr.cell? ⟨w.heap.size, 5, none⟩ = some (.slice (some ⟨b, o, none⟩) ps.length c) := HS.out.cell 5
      have hlt' : (j : Int) < (ps.length : Int) := by omega
      have hIj := Lib.hid (hI.out j hlt)
      have HC2 := Lib.hid ((mayL_drop hlt).symm.trans HC.out)
      clear hcell hv cc hx hB HC
      cases hm : mayB ps[j] with
      | false =>
        rw [hm] at hIj HC2
        have hr : false = R := by rw [← HC2.out]; rfl
        subst hr
        clear hm HC2
        go_wp2_with fail
        refine (hIj.out _ _ HV.out HD.out).mono ?_
        rintro _ w5 ⟨rfl, hb⟩
        have H5 := Lib.hid (HS.out.up hb)
        clear hb
        go_wp2
        go_ret
        exact ⟨rfl, H5.out.1⟩
      | true =>
        rw [hm] at hIj HC2
        clear hm
        go_wp2_with fail
        refine (hIj.out _ _ HV.out HD.out).mono ?_
        rintro _ w5 ⟨rfl, hb⟩
        have H5 := Lib.hid (HS.out.up hb)
        clear hb
        go_wp2_with fail
        go_roundw
        case rel => exact ⟨j + 1, by omega, by go_num, Lib.hid (by have := HC2.out; rwa [Bool.true_and] at this), H5⟩
        case measure => simp [intOf]; omega
    · obtain rfl : j = ps.length := by omega
      have hlt' : ¬ ((ps.length : Int) < (ps.length : Int)) := by omega
      have hr : true = R := by rw [← HC.out, List.drop_length]; rfl
      subst hr
      go_wp2
      go_ret
      exact ⟨rfl, HS.out.1⟩
set_option maxHeartbeats 8000000 in
theorem mayr_4 {D : Nat → Prop} {u : Nat → Int} {ps : List RT} {v : Value} {w : World} (hn : ps.length ≠ 0) (hzu : zeroU u = true) (hD : ∀ b, D b → b < w.heap.size) (hl : ps.length ≤ 9223372036854775806) (h : RV D w (.mk 4 u ps) v)
    (hI : Hid (∀ i (hi : i < ps.length) v w, RV D w ps[i] v → (∀ b, D b → b < w.heap.size) → Calls Tryd.prog 35 #[v] w fun e w' => e = .returned (.bool (mayB ps[i])) ∧ Below w.heap.size w w')) :
    Calls Tryd.prog 35 #[v] w fun e w' => e = .returned (.bool (mayL ps)) ∧ Below w.heap.size w w' := by
  obtain ⟨p, c, rfl, hp⟩ := h.parts
  have HP := Lib.hid hp
  clear h hp
  have S0 := Lib.hid ((Sb.start w).alloc (.cells #[.int .i64 4, .int .u64 (u 0), .int .u64 (u 1), .int .u64 (u 2), .int .u64 (u 3), .slice p ps.length c] 27))
  have hnq := neq24g u
  rw [hzu] at hnq
  clear hzu
  have hn2 : ¬ ((ps.length : Nat) : Int) < 1 := by omega
  clear hn
  obtain ⟨R, hR⟩ : ∃ R, mayL ps = R := ⟨_, rfl⟩
  rw [hR]
  have HR := Lib.hid hR
  clear hR
  go_enter Tryd.func35, Tryd.ntmps35
  go_wp2_with fail
  go_loopw [4] (fun i wr => ∃ j : Nat, j ≤ ps.length ∧ i = .int .i64 j ∧ Hid (mayL (ps.drop j) = R) ∧ Hid (Sb w wr [(w.heap.size, .cells #[.int .i64 4, .int .u64 (u 0), .int .u64 (u 1), .int .u64 (u 2), .int .u64 (u 3), .slice p ps.length c] 27)])) (fun i _ => ps.length - (intOf i).toNat)
  case atStart => exact ⟨0, by omega, rfl, HR, S0⟩
  case round =>
    obtain ⟨j, hj, rfl, HC, HS⟩ := hrel
    clear S0 HR
    by_cases hlt : j < ps.length
    · skip
      have hne : ps ≠ [] := by intro e; subst e; simp at hlt
      obtain ⟨b, o, rfl, hDb, hx⟩ := HP.out hne
      obtain ⟨k', u', p', n', c', hv, hcell⟩ := hx j hlt
      have hbw := hD b hDb
      have hB := HS.out.1
      have HV := Lib.hid (RV.mono (w' := wr) (fun b h => h) (fun x hx hlt => hB.block x hlt) hv)
      have HD := Lib.hid fun x (hx : D x) => (Nat.lt_of_lt_of_le (hD x hx) hB.size : x < wr.heap.size)
      have cc : ∀ i y, (nodeC k' u' (.slice p' n' c'))[i]? = some y → wr.cell? ⟨b, o + j * 6 + i, none⟩ = some y := fun i y hy => by
        rw [hB.cell (p := ⟨b, o + j * 6 + i, none⟩) hbw, ← hcell i y hy, show o + j * 6 + i = o + (6 * j + i) by omega]
      have d0 : wr.cell? ⟨b, o + j * 6, none⟩ = some (.int .i64 k') := cc 0 _ rfl
      have d1 : wr.cell? ⟨b, o + j * 6 + 1, none⟩ = some (.int .u64 (u' 0)) := cc 1 _ rfl
      have d2 : wr.cell? ⟨b, o + j * 6 + 2, none⟩ = some (.int .u64 (u' 1)) := cc 2 _ rfl
      have d3 : wr.cell? ⟨b, o + j * 6 + 3, none⟩ = some (.int .u64 (u' 2)) := cc 3 _ rfl
      have d4 : wr.cell? ⟨b, o + j * 6 + 4, none⟩ = some (.int .u64 (u' 3)) := cc 4 _ rfl
      have d5 : wr.cell? ⟨b, o + j * 6 + 5, none⟩ = some (.slice p' n' c') := cc 5 _ rfl
      have q5 : wr.cell? ⟨w.heap.size, 5, none⟩ = some (.slice (some ⟨b, o, none⟩) ps.length c) := HS.out.cell 5
      have hlt' : (j : Int) < (ps.length : Int) := by omega
      have hIj := Lib.hid (hI.out j hlt)
      have HC2 := Lib.hid ((mayL_drop hlt).symm.trans HC.out)
      clear hcell hv cc hx hB HC
      cases hm : mayB ps[j] with
      | false =>
        rw [hm] at hIj HC2
        have hr : false = R := by rw [← HC2.out]; rfl
        subst hr
        clear hm HC2
        go_wp2_with fail
        refine (hIj.out _ _ HV.out HD.out).mono ?_
        rintro _ w5 ⟨rfl, hb⟩
        have H5 := Lib.hid (HS.out.up hb)
        clear hb
        go_wp2
        go_ret
        exact ⟨rfl, H5.out.1⟩
      | true =>
        rw [hm] at hIj HC2
        clear hm
        go_wp2_with fail
        refine (hIj.out _ _ HV.out HD.out).mono ?_
        rintro _ w5 ⟨rfl, hb⟩
        have H5 := Lib.hid (HS.out.up hb)
        clear hb
        go_wp2_with fail
        go_roundw
        case rel => exact ⟨j + 1, by omega, by go_num, Lib.hid (by have := HC2.out; rwa [Bool.true_and] at this), H5⟩
        case measure => simp [intOf]; omega
    · obtain rfl : j = ps.length := by omega
      have hlt' : ¬ ((ps.length : Int) < (ps.length : Int)) := by omega
      have hr : true = R := by rw [← HC.out, List.drop_length]; rfl
      subst hr
      go_wp2
      go_ret
      exact ⟨rfl, HS.out.1⟩
set_option maxHeartbeats 8000000 in
theorem mayr_5 {D : Nat → Prop} {u : Nat → Int} {ps : List RT} {v : Value} {w : World} (hn : ps.length = 1) (hzu : zeroU u = true) (hD : ∀ b, D b → b < w.heap.size) (hl : ps.length ≤ 9223372036854775806) (h : RV D w (.mk 5 u ps) v)
    (hI : Hid (∀ i (hi : i < ps.length) v w, RV D w ps[i] v → (∀ b, D b → b < w.heap.size) → Calls Tryd.prog 35 #[v] w fun e w' => e = .returned (.bool (mayB ps[i])) ∧ Below w.heap.size w w')) :
    Calls Tryd.prog 35 #[v] w fun e w' => e = .returned (.bool (mayL ps)) ∧ Below w.heap.size w w' := by
  obtain ⟨p, c, rfl, hp⟩ := h.parts
  have HP := Lib.hid hp
  clear h hp
  have S0 := Lib.hid ((Sb.start w).alloc (.cells #[.int .i64 5, .int .u64 (u 0), .int .u64 (u 1), .int .u64 (u 2), .int .u64 (u 3), .slice p ps.length c] 27))
  have hnq := neq24g u
  rw [hzu] at hnq
  clear hzu
  have hn2 : (((ps.length : Nat) : Int) != 1) = false := by rw [hn]; rfl
  clear hn
  obtain ⟨R, hR⟩ : ∃ R, mayL ps = R := ⟨_, rfl⟩
  rw [hR]
  have HR := Lib.hid hR
  clear hR
  go_enter Tryd.func35, Tryd.ntmps35
  go_wp2_with fail
  go_loopw [4] (fun i wr => ∃ j : Nat, j ≤ ps.length ∧ i = .int .i64 j ∧ Hid (mayL (ps.drop j) = R) ∧ Hid (Sb w wr [(w.heap.size, .cells #[.int .i64 5, .int .u64 (u 0), .int .u64 (u 1), .int .u64 (u 2), .int .u64 (u 3), .slice p ps.length c] 27)])) (fun i _ => ps.length - (intOf i).toNat)
  case atStart => exact ⟨0, by omega, rfl, HR, S0⟩
  case round =>
    obtain ⟨j, hj, rfl, HC, HS⟩ := hrel
    clear S0 HR
    by_cases hlt : j < ps.length
    · skip
      have hne : ps ≠ [] := by intro e; subst e; simp at hlt
      obtain ⟨b, o, rfl, hDb, hx⟩ := HP.out hne
      obtain ⟨k', u', p', n', c', hv, hcell⟩ := hx j hlt
      have hbw := hD b hDb
      have hB := HS.out.1
      have HV := Lib.hid (RV.mono (w' := wr) (fun b h => h) (fun x hx hlt => hB.block x hlt) hv)
      have HD := Lib.hid fun x (hx : D x) => (Nat.lt_of_lt_of_le (hD x hx) hB.size : x < wr.heap.size)
      have cc : ∀ i y, (nodeC k' u' (.slice p' n' c'))[i]? = some y → wr.cell? ⟨b, o + j * 6 + i, none⟩ = some y := fun i y hy => by
        rw [hB.cell (p := ⟨b, o + j * 6 + i, none⟩) hbw, ← hcell i y hy, show o + j * 6 + i = o + (6 * j + i) by omega]
      have d0 : wr.cell? ⟨b, o + j * 6, none⟩ = some (.int .i64 k') := cc 0 _ rfl
      have d1 : wr.cell? ⟨b, o + j * 6 + 1, none⟩ = some (.int .u64 (u' 0)) := cc 1 _ rfl
      have d2 : wr.cell? ⟨b, o + j * 6 + 2, none⟩ = some (.int .u64 (u' 1)) := cc 2 _ rfl
      have d3 : wr.cell? ⟨b, o + j * 6 + 3, none⟩ = some (.int .u64 (u' 2)) := cc 3 _ rfl
      have d4 : wr.cell? ⟨b, o + j * 6 + 4, none⟩ = some (.int .u64 (u' 3)) := cc 4 _ rfl
      have d5 : wr.cell? ⟨b, o + j * 6 + 5, none⟩ = some (.slice p' n' c') := cc 5 _ rfl
      have q5 : wr.cell? ⟨w.heap.size, 5, none⟩ = some (.slice (some ⟨b, o, none⟩) ps.length c) := HS.out.cell 5
      have hlt' : (j : Int) < (ps.length : Int) := by omega
      have hIj := Lib.hid (hI.out j hlt)
      have HC2 := Lib.hid ((mayL_drop hlt).symm.trans HC.out)
      clear hcell hv cc hx hB HC
      cases hm : mayB ps[j] with
      | false =>
        rw [hm] at hIj HC2
        have hr : false = R := by rw [← HC2.out]; rfl
        subst hr
        clear hm HC2
        go_wp2_with fail
        refine (hIj.out _ _ HV.out HD.out).mono ?_
        rintro _ w5 ⟨rfl, hb⟩
        have H5 := Lib.hid (HS.out.up hb)
        clear hb
        go_wp2
        go_ret
        exact ⟨rfl, H5.out.1⟩
      | true =>
        rw [hm] at hIj HC2
        clear hm
        go_wp2_with fail
        refine (hIj.out _ _ HV.out HD.out).mono ?_
        rintro _ w5 ⟨rfl, hb⟩
        have H5 := Lib.hid (HS.out.up hb)
        clear hb
        go_wp2_with fail
        go_roundw
        case rel => exact ⟨j + 1, by omega, by go_num, Lib.hid (by have := HC2.out; rwa [Bool.true_and] at this), H5⟩
        case measure => simp [intOf]; omega
    · obtain rfl : j = ps.length := by omega
      have hlt' : ¬ ((ps.length : Int) < (ps.length : Int)) := by omega
      have hr : true = R := by rw [← HC.out, List.drop_length]; rfl
      subst hr
      go_wp2
      go_ret
      exact ⟨rfl, HS.out.1⟩
set_option maxHeartbeats 8000000 in
theorem mayr_6 {D : Nat → Prop} {u : Nat → Int} {ps : List RT} {v : Value} {w : World} (hn : ps.length = 1) (hzu : zeroU u = true) (hD : ∀ b, D b → b < w.heap.size) (hl : ps.length ≤ 9223372036854775806) (h : RV D w (.mk 6 u ps) v)
    (hI : Hid (∀ i (hi : i < ps.length) v w, RV D w ps[i] v → (∀ b, D b → b < w.heap.size) → Calls Tryd.prog 35 #[v] w fun e w' => e = .returned (.bool (mayB ps[i])) ∧ Below w.heap.size w w')) :
    Calls Tryd.prog 35 #[v] w fun e w' => e = .returned (.bool (mayL ps)) ∧ Below w.heap.size w w' := by
  obtain ⟨p, c, rfl, hp⟩ := h.parts
  have HP := Lib.hid hp
  clear h hp
  have S0 := Lib.hid ((Sb.start w).alloc (.cells #[.int .i64 6, .int .u64 (u 0), .int .u64 (u 1), .int .u64 (u 2), .int .u64 (u 3), .slice p ps.length c] 27))
  have hnq := neq24g u
  rw [hzu] at hnq
  clear hzu
  have hn2 : (((ps.length : Nat) : Int) != 1) = false := by rw [hn]; rfl
  clear hn
  obtain ⟨R, hR⟩ : ∃ R, mayL ps = R := ⟨_, rfl⟩
  rw [hR]
  have HR := Lib.hid hR
  clear hR
  go_enter Tryd.func35, Tryd.ntmps35
  go_wp2_with fail
  go_loopw [4] (fun i wr => ∃ j : Nat, j ≤ ps.length ∧ i = .int .i64 j ∧ Hid (mayL (ps.drop j) = R) ∧ Hid (Sb w wr [(w.heap.size, .cells #[.int .i64 6, .int .u64 (u 0), .int .u64 (u 1), .int .u64 (u 2), .int .u64 (u 3), .slice p ps.length c] 27)])) (fun i _ => ps.length - (intOf i).toNat)
  case atStart => exact ⟨0, by omega, rfl, HR, S0⟩
  case round =>
    obtain ⟨j, hj, rfl, HC, HS⟩ := hrel
    clear S0 HR
    by_cases hlt : j < ps.length
    · skip
      have hne : ps ≠ [] := by intro e; subst e; simp at hlt
      obtain ⟨b, o, rfl, hDb, hx⟩ := HP.out hne
      obtain ⟨k', u', p', n', c', hv, hcell⟩ := hx j hlt
      have hbw := hD b hDb
      have hB := HS.out.1
      have HV := Lib.hid (RV.mono (w' := wr) (fun b h => h) (fun x hx hlt => hB.block x hlt) hv)
      have HD := Lib.hid fun x (hx : D x) => (Nat.lt_of_lt_of_le (hD x hx) hB.size : x < wr.heap.size)
      have cc : ∀ i y, (nodeC k' u' (.slice p' n' c'))[i]? = some y → wr.cell? ⟨b, o + j * 6 + i, none⟩ = some y := fun i y hy => by
        rw [hB.cell (p := ⟨b, o + j * 6 + i, none⟩) hbw, ← hcell i y hy, show o + j * 6 + i = o + (6 * j + i) by omega]
      have d0 : wr.cell? ⟨b, o + j * 6, none⟩ = some (.int .i64 k') := cc 0 _ rfl
      have d1 : wr.cell? ⟨b, o + j * 6 + 1, none⟩ = some (.int .u64 (u' 0)) := cc 1 _ rfl
      have d2 : wr.cell? ⟨b, o + j * 6 + 2, none⟩ = some (.int .u64 (u' 1)) := cc 2 _ rfl
      have d3 : wr.cell? ⟨b, o + j * 6 + 3, none⟩ = some (.int .u64 (u' 2)) := cc 3 _ rfl
      have d4 : wr.cell? ⟨b, o + j * 6 + 4, none⟩ = some (.int .u64 (u' 3)) := cc 4 _ rfl
      have d5 : wr.cell? ⟨b, o + j * 6 + 5, none⟩ = some (.slice p' n' c') := cc 5 _ rfl
      have q5 : wr.cell? ⟨w.heap.size, 5, none⟩ = some (.slice (some ⟨b, o, none⟩) ps.length c) := HS.out.cell 5
      have hlt' : (j : Int) < (ps.length : Int) := by omega
      have hIj := Lib.hid (hI.out j hlt)
      have HC2 := Lib.hid ((mayL_drop hlt).symm.trans HC.out)
      clear hcell hv cc hx hB HC
      cases hm : mayB ps[j] with
      | false =>
        rw [hm] at hIj HC2
        have hr : false = R := by rw [← HC2.out]; rfl
        subst hr
        clear hm HC2
        go_wp2_with fail
        refine (hIj.out _ _ HV.out HD.out).mono ?_
        rintro _ w5 ⟨rfl, hb⟩
        have H5 := Lib.hid (HS.out.up hb)
        clear hb
        go_wp2
        go_ret
        exact ⟨rfl, H5.out.1⟩
      | true =>
        rw [hm] at hIj HC2
        clear hm
        go_wp2_with fail
        refine (hIj.out _ _ HV.out HD.out).mono ?_
        rintro _ w5 ⟨rfl, hb⟩
        have H5 := Lib.hid (HS.out.up hb)
        clear hb
        go_wp2_with fail
        go_roundw
        case rel => exact ⟨j + 1, by omega, by go_num, Lib.hid (by have := HC2.out; rwa [Bool.true_and] at this), H5⟩
        case measure => simp [intOf]; omega
    · obtain rfl : j = ps.length := by omega
      have hlt' : ¬ ((ps.length : Int) < (ps.length : Int)) := by omega
      have hr : true = R := by rw [← HC.out, List.drop_length]; rfl
      subst hr
      go_wp2
      go_ret
      exact ⟨rfl, HS.out.1⟩
set_option maxHeartbeats 8000000 in
theorem mayr_7 {D : Nat → Prop} {u : Nat → Int} {ps : List RT} {v : Value} {w : World} (hn : ps.length = 1) (hzu : zeroU u = true) (hD : ∀ b, D b → b < w.heap.size) (hl : ps.length ≤ 9223372036854775806) (h : RV D w (.mk 7 u ps) v)
    (hI : Hid (∀ i (hi : i < ps.length) v w, RV D w ps[i] v → (∀ b, D b → b < w.heap.size) → Calls Tryd.prog 35 #[v] w fun e w' => e = .returned (.bool (mayB ps[i])) ∧ Below w.heap.size w w')) :
    Calls Tryd.prog 35 #[v] w fun e w' => e = .returned (.bool (mayL ps)) ∧ Below w.heap.size w w' := by
  obtain ⟨p, c, rfl, hp⟩ := h.parts
  have HP := Lib.hid hp
  clear h hp
  have S0 := Lib.hid ((Sb.start w).alloc (.cells #[.int .i64 7, .int .u64 (u 0), .int .u64 (u 1), .int .u64 (u 2), .int .u64 (u 3), .slice p ps.length c] 27))
  have hnq := neq24g u
  rw [hzu] at hnq
  clear hzu
  have hn2 : (((ps.length : Nat) : Int) != 1) = false := by rw [hn]; rfl
  clear hn
  obtain ⟨R, hR⟩ : ∃ R, mayL ps = R := ⟨_, rfl⟩
  rw [hR]
  have HR := Lib.hid hR
  clear hR
  go_enter Tryd.func35, Tryd.ntmps35
  go_wp2_with fail
  go_loopw [4] (fun i wr => ∃ j : Nat, j ≤ ps.length ∧ i = .int .i64 j ∧ Hid (mayL (ps.drop j) = R) ∧ Hid (Sb w wr [(w.heap.size, .cells #[.int .i64 7, .int .u64 (u 0), .int .u64 (u 1), .int .u64 (u 2), .int .u64 (u 3), .slice p ps.length c] 27)])) (fun i _ => ps.length - (intOf i).toNat)
  case atStart => exact ⟨0, by omega, rfl, HR, S0⟩
  case round =>
    obtain ⟨j, hj, rfl, HC, HS⟩ := hrel
    clear S0 HR
    by_cases hlt : j < ps.length
    · skip
      have hne : ps ≠ [] := by intro e; subst e; simp at hlt
      obtain ⟨b, o, rfl, hDb, hx⟩ := HP.out hne
      obtain ⟨k', u', p', n', c', hv, hcell⟩ := hx j hlt
      have hbw := hD b hDb
      have hB := HS.out.1
      have HV := Lib.hid (RV.mono (w' := wr) (fun b h => h) (fun x hx hlt => hB.block x hlt) hv)
      have HD := Lib.hid fun x (hx : D x) => (Nat.lt_of_lt_of_le (hD x hx) hB.size : x < wr.heap.size)
      have cc : ∀ i y, (nodeC k' u' (.slice p' n' c'))[i]? = some y → wr.cell? ⟨b, o + j * 6 + i, none⟩ = some y := fun i y hy => by
        rw [hB.cell (p := ⟨b, o + j * 6 + i, none⟩) hbw, ← hcell i y hy, show o + j * 6 + i = o + (6 * j + i) by omega]
      have d0 : wr.cell? ⟨b, o + j * 6, none⟩ = some (.int .i64 k') := cc 0 _ rfl
      have d1 : wr.cell? ⟨b, o + j * 6 + 1, none⟩ = some (.int .u64 (u' 0)) := cc 1 _ rfl
      have d2 : wr.cell? ⟨b, o + j * 6 + 2, none⟩ = some (.int .u64 (u' 1)) := cc 2 _ rfl
      have d3 : wr.cell? ⟨b, o + j * 6 + 3, none⟩ = some (.int .u64 (u' 2)) := cc 3 _ rfl
      have d4 : wr.cell? ⟨b, o + j * 6 + 4, none⟩ = some (.int .u64 (u' 3)) := cc 4 _ rfl
      have d5 : wr.cell? ⟨b, o + j * 6 + 5, none⟩ = some (.slice p' n' c') := cc 5 _ rfl
      have q5 : wr.cell? ⟨w.heap.size, 5, none⟩ = some (.slice (some ⟨b, o, none⟩) ps.length c) := HS.out.cell 5
      have hlt' : (j : Int) < (ps.length : Int) := by omega
      have hIj := Lib.hid (hI.out j hlt)
      have HC2 := Lib.hid ((mayL_drop hlt).symm.trans HC.out)
      clear hcell hv cc hx hB HC
      cases hm : mayB ps[j] with
      | false =>
        rw [hm] at hIj HC2
        have hr : false = R := by rw [← HC2.out]; rfl
        subst hr
        clear hm HC2
        go_wp2_with fail
        refine (hIj.out _ _ HV.out HD.out).mono ?_
        rintro _ w5 ⟨rfl, hb⟩
        have H5 := Lib.hid (HS.out.up hb)
        clear hb
        go_wp2
        go_ret
        exact ⟨rfl, H5.out.1⟩
      | true =>
        rw [hm] at hIj HC2
        clear hm
        go_wp2_with fail
        refine (hIj.out _ _ HV.out HD.out).mono ?_
        rintro _ w5 ⟨rfl, hb⟩
        have H5 := Lib.hid (HS.out.up hb)
        clear hb
        go_wp2_with fail
        go_roundw
        case rel => exact ⟨j + 1, by omega, by go_num, Lib.hid (by have := HC2.out; rwa [Bool.true_and] at this), H5⟩
        case measure => simp [intOf]; omega
    · obtain rfl : j = ps.length := by omega
      have hlt' : ¬ ((ps.length : Int) < (ps.length : Int)) := by omega
      have hr : true = R := by rw [← HC.out, List.drop_length]; rfl
      subst hr
      go_wp2
      go_ret
      exact ⟨rfl, HS.out.1⟩
theorem mayr_any {D : Nat → Prop} : ∀ (d : Nat) (t : RT) {v : Value} {w : World}, dep t ≤ d → (∀ b, D b → b < w.heap.size) → wid t ≤ 9223372036854775806 → RV D w t v → Calls Tryd.prog 35 #[v] w fun e w' => e = .returned (.bool (mayB t)) ∧ Below w.heap.size w w'
  | 0, .mk k u ps, v, w, hn, _, _, h => by simp [dep] at hn
  | d + 1, .mk k u ps, v, w, hn, hD, hw, h => by
    obtain ⟨hl, hw2⟩ := wid_mk hw
    have hI : Hid (∀ i (hi : i < ps.length) v w, RV D w ps[i] v → (∀ b, D b → b < w.heap.size) → Calls Tryd.prog 35 #[v] w fun e w' => e = .returned (.bool (mayB ps[i])) ∧ Below w.heap.size w w') := Lib.hid fun i hi v' w' hv hD' =>
      mayr_any d ps[i] (by have := depL_get ps i hi; simp only [dep] at hn; omega) hD' (hw2 i hi) hv
    by_cases hz : k ≠ 2 ∧ zeroU u = false
    · have e : mayB (.mk k u ps) = false := by
        rw [mayB, show (k == 2) = false from by simpa using hz.1, hz.2]
        simp
      rw [e]; exact mayr_A hz.1 hz.2 hD hl h hI
    · have hz2 : k ≠ 2 → zeroU u = true := fun hk => by
        cases hu : zeroU u with
        | true => rfl
        | false => exact absurd ⟨hk, hu⟩ hz
      have eb : mayB (.mk k u ps) = (fitsB k ps.length && mayL ps) := by
        rw [mayB]
        by_cases hk : k = 2
        · simp [hk]
        · rw [hz2 hk]; simp
      rw [eb]
      by_cases h012 : k = 0 ∨ k = 1 ∨ k = 2
      · have e2 : (fitsB k ps.length && mayL ps) = decide (ps.length = 0) := by
          unfold fitsB
          rw [if_pos h012]
          cases ps with
          | nil => simp [mayL]
          | cons a l => simp
        rw [e2]
        refine mayr_B ?_ hD hl h hI
        rcases h012 with rfl | rfl | rfl
        · exact .inl ⟨rfl, hz2 (by decide)⟩
        · exact .inr (.inl ⟨rfl, hz2 (by decide)⟩)
        · exact .inr (.inr rfl)
      · have hk2 : k ≠ 2 := fun e => h012 (.inr (.inr e))
        have hzt := hz2 hk2
        unfold fitsB
        rw [if_neg h012]
        by_cases h34 : k = 3 ∨ k = 4
        · rw [if_pos h34]
          by_cases hn0 : ps.length = 0
          · rw [decide_eq_false (by omega : ¬ 0 < ps.length), Bool.false_and]
            exact mayr_C (.inl ⟨h34, hn0⟩) hzt hD hl h hI
          · rw [decide_eq_true (by omega : 0 < ps.length), Bool.true_and]
            rcases h34 with rfl | rfl
            · exact mayr_3 hn0 hzt hD hl h hI
            · exact mayr_4 hn0 hzt hD hl h hI
        · rw [if_neg h34]
          by_cases h567 : k = 5 ∨ k = 6 ∨ k = 7
          · rw [if_pos h567]
            by_cases hn1 : ps.length = 1
            · rw [show (ps.length == 1) = true by simpa using hn1, Bool.true_and]
              rcases h567 with rfl | rfl | rfl
              · exact mayr_5 hn1 hzt hD hl h hI
              · exact mayr_6 hn1 hzt hD hl h hI
              · exact mayr_7 hn1 hzt hD hl h hI
            · rw [show (ps.length == 1) = false by simpa using hn1, Bool.false_and]
              exact mayr_C (.inr ⟨h567, hn1⟩) hzt hD hl h hI
          · rw [if_neg h567, Bool.false_and]
            exact mayr_D ⟨fun e => h012 (.inl e), fun e => h012 (.inr (.inl e)), hk2, fun e => h34 (.inl e), fun e => h34 (.inr e), fun e => h567 (.inl e), fun e => h567 (.inr (.inl e)), fun e => h567 (.inr (.inr e))⟩ hzt hD hl h hI
end
section
/- A queue of patterns in a row of one's own: taken off its head, put to its end. -/
def QW (w0 : World) (D : Nat → Prop) (ts : List RT) (sl : Value) (w : World) : Prop :=
  ∃ (g off cap : Nat) (xs : List (Array Value)) (cur : Array Value), sl = .slice (some ⟨g, off, none⟩) ts.length cap ∧ w0.heap.size ≤ g ∧ ts.length ≤ cap ∧ w.heap[g]? = some (.cells cur 27 (0, 0)) ∧ off + cap * 6 ≤ cur.size ∧ xs.length = ts.length ∧ (∀ x ∈ xs, ∃ k u p n c, x = nodeC k u (.slice p n c)) ∧
    (∀ i (h : i < ts.length) (h' : i < xs.length), RV D w0 ts[i] (.agg xs[i])) ∧ ∀ i, i < ts.length * 6 → cur[off + i]? = (flat xs)[i]?
theorem QW.one {w0 w : World} {D : Nat → Prop} {t : RT} {k : Int} {u : Nat → Int} {p : Option Addr} {n c : Nat} (ht : RV D w0 t (.agg (nodeC k u (.slice p n c)))) (hw : w0.heap.size ≤ w.heap.size) : QW w0 D [t] (.slice (some ⟨w.heap.size, 0, none⟩) 1 1) (w.alloc (.cells (nodeC k u (.slice p n c)) 27)) :=
  ⟨w.heap.size, 0, 1, [nodeC k u (.slice p n c)], nodeC k u (.slice p n c), rfl, hw, Nat.le_refl _, heap_alloc_last w _, (show 0 + 1 * 6 ≤ 6 by omega), rfl, fun x hx => by simp at hx; exact ⟨k, u, p, n, c, hx⟩, fun i hi hi' => by
    have : i = 0 := by simpa using hi
    subst this; exact ht, fun i hi => by rw [Nat.zero_add]; simp [flat]⟩
theorem QW.up {w0 w w' : World} {D : Nat → Prop} {ts : List RT} {sl : Value} (h : QW w0 D ts sl w) (hb : Below w.heap.size w w') : QW w0 D ts sl w' := by
  obtain ⟨g, off, cap, xs, cur, h1, h2, h3, h4, h5⟩ := h
  exact ⟨g, off, cap, xs, cur, h1, h2, h3, (hb.block g (Array.getElem?_eq_some_iff.1 h4).1).trans h4, h5⟩
theorem QW.sl {w0 w : World} {D : Nat → Prop} {ts : List RT} {sl : Value} (h : QW w0 D ts sl w) : ∃ g off cap, sl = .slice (some ⟨g, off, none⟩) ts.length cap ∧ ts.length ≤ cap ∧ w0.heap.size ≤ g ∧ g < w.heap.size := by
  obtain ⟨g, off, cap, xs, cur, h1, h2, h3, h4, h5⟩ := h
  exact ⟨g, off, cap, h1, h3, h2, (Array.getElem?_eq_some_iff.1 h4).1⟩
theorem flat_cons (x : Array Value) (xs : List (Array Value)) : flat (x :: xs) = x.toList ++ flat xs := rfl
/-- The first one. -/
theorem QW.head {w0 w : World} {D : Nat → Prop} {t : RT} {ts : List RT} {g off cap : Nat} (h : QW w0 D (t :: ts) (.slice (some ⟨g, off, none⟩) (ts.length + 1) cap) w) : ∃ k u p n c, RV D w0 t (.agg (nodeC k u (.slice p n c))) ∧ ∀ j y, (nodeC k u (.slice p n c))[j]? = some y → w.cell? ⟨g, off + j, none⟩ = some y := by
  obtain ⟨g', off', cap', xs, cur, h1, h2, h3, h4, h5, h6, h7, h8, h9⟩ := h
  simp only [Value.slice.injEq, Option.some.injEq, Addr.mk.injEq] at h1
  obtain ⟨⟨rfl, rfl, -⟩, -, rfl⟩ := h1
  match xs, h6 with
  | x :: xs, h6 =>
    obtain ⟨k, u, p, n, c, rfl⟩ := h7 x (List.mem_cons_self ..)
    refine ⟨k, u, p, n, c, h8 0 (by simp) (by simp), fun j y hy => ?_⟩
    have hj : j < 6 := (Array.getElem?_eq_some_iff.1 hy).1
    rw [cell_of_row w g _ cur 27 (0, 0) h4, h9 j (by simp; omega), flat_cons, List.getElem?_append_left (by rw [Array.length_toList]; exact hj), Array.getElem?_toList]
    exact hy
theorem QW.tail {w0 w : World} {D : Nat → Prop} {t : RT} {ts : List RT} {g off cap : Nat} (h : QW w0 D (t :: ts) (.slice (some ⟨g, off, none⟩) (ts.length + 1) cap) w) : (cap = 1 → QW w0 D ts (.slice (some ⟨g, off, none⟩) ts.length 0) w) ∧ (cap ≠ 1 → QW w0 D ts (.slice (some ⟨g, off + 6, none⟩) ts.length (cap - 1)) w) := by
  obtain ⟨g', off', cap', xs, cur, h1, h2, h3, h4, h5, h6, h7, h8, h9⟩ := h
  simp only [Value.slice.injEq, Option.some.injEq, Addr.mk.injEq] at h1
  obtain ⟨⟨rfl, rfl, -⟩, -, rfl⟩ := h1
  match xs, h6 with
  | x :: xs, h6 =>
    have hx6 : x.size = 6 := nodes_six h7 x (List.mem_cons_self ..)
    have hl : xs.length = ts.length := by simpa using h6
    have h8' : ∀ i (h : i < ts.length) (h' : i < xs.length), RV D w0 ts[i] (.agg xs[i]) := fun i hi hi' => by
      have := h8 (i + 1) (by simpa using hi) (by simpa using hi')
      simpa using this
    have h7' : ∀ y ∈ xs, ∃ k u p n c, y = nodeC k u (.slice p n c) := fun y hy => h7 y (List.mem_cons_of_mem _ hy)
    simp only [List.length_cons] at h3 h9
    constructor
    · rintro rfl
      have h0 : ts.length = 0 := by omega
      exact ⟨g, off, 0, xs, cur, rfl, h2, by omega, h4, by omega, hl, h7', h8', fun i hi => by rw [h0] at hi; omega⟩
    · intro hc
      refine ⟨g, off + 6, cap - 1, xs, cur, rfl, h2, by omega, h4, by omega, hl, h7', h8', fun i hi => ?_⟩
      have := h9 (i + 6) (by omega)
      rw [flat_cons, List.getElem?_append_right (by simp [hx6])] at this
      rw [show off + 6 + i = off + (i + 6) by omega, this]
      congr 1
      simp [hx6]
theorem flat_len6 {xs : List (Array Value)} (h : ∀ x ∈ xs, ∃ k u p n c, x = nodeC k u (.slice p n c)) : (flat xs).length = xs.length * 6 := flat_len xs (nodes_six h)
/-- One more, where there is room. -/
theorem QW.room {w0 w w1 : World} {D : Nat → Prop} {ts : List RT} {t : RT} {g off cap : Nat} {k : Int} {u : Nat → Int} {p : Option Addr} {n c : Nat} (h : QW w0 D ts (.slice (some ⟨g, off, none⟩) ts.length cap) w) (ht : RV D w0 t (.agg (nodeC k u (.slice p n c)))) (hb : Below w.heap.size w w1) (hr : ts.length + 1 ≤ cap) :
    QW w0 D (ts ++ [t]) (.slice (some ⟨g, off, none⟩) (ts.length + 1) cap) (w1.setCells g (off + ts.length * 6) (nodeC k u (.slice p n c)).toList) := by
  obtain ⟨g', off', cap', xs, cur, h1, h2, h3, h4, h5, h6, h7, h8, h9⟩ := h
  simp only [Value.slice.injEq, Option.some.injEq, Addr.mk.injEq] at h1
  obtain ⟨⟨rfl, rfl, -⟩, -, rfl⟩ := h1
  have hg : w1.heap[g]? = some (.cells cur 27 (0, 0)) := (hb.block g (Array.getElem?_eq_some_iff.1 h4).1).trans h4
  have hnl : (nodeC k u (.slice p n c)).toList.length = 6 := rfl
  have hfl := flat_len6 h7
  refine ⟨g, off, cap, xs ++ [nodeC k u (.slice p n c)], putA cur (off + ts.length * 6) (nodeC k u (.slice p n c)).toList, by simp, h2, by simpa using hr, setCells_heap _ _ _ _ hg, by rw [putA_size]; exact h5, by simp [h6], fun x hx => ?_, fun i hi hi' => ?_, fun i hi => ?_⟩
  · rcases List.mem_append.1 hx with hx | hx
    · exact h7 x hx
    · simp at hx; exact ⟨k, u, p, n, c, hx⟩
  · by_cases hlt : i < ts.length
    · have := h8 i hlt (by omega)
      simpa [List.getElem_append_left, hlt, h6] using this
    · have hi2 : i = ts.length := by simp at hi; omega
      subst hi2
      have e1 : (ts ++ [t])[ts.length]'hi = t := by simp
      have e2 : (xs ++ [nodeC k u (.slice p n c)])[ts.length]'hi' = nodeC k u (.slice p n c) := by simp [← h6]
      rw [e1, e2]; exact ht
  · rw [List.length_append, List.length_singleton] at hi
    rw [putA_get _ _ _ _ (by rw [hnl]; omega), hnl, flat_app]
    by_cases hlt : i < ts.length * 6
    · rw [if_neg (by omega), h9 i hlt, List.getElem?_append_left (by omega)]
    · rw [if_pos (by omega), List.getElem?_append_right (by omega)]
      congr 1
      omega
theorem QW.grow {w0 w w1 w2 : World} {D : Nat → Prop} {ts : List RT} {t : RT} {g off cap : Nat} {k : Int} {u : Nat → Int} {p : Option Addr} {n c : Nat} {v : Value} {xs : List (Array Value)} (h6 : xs.length = ts.length) (h7 : ∀ x ∈ xs, ∃ k u p n c, x = nodeC k u (.slice p n c)) (h8 : ∀ i (h : i < ts.length) (h' : i < xs.length), RV D w0 ts[i] (.agg xs[i])) (ht : RV D w0 t (.agg (nodeC k u (.slice p n c))))
    (hsz : w0.heap.size ≤ w1.heap.size) (hown : w2.ownsRow w1.heap.size 27 6 v (ts.length + 1) (flat xs ++ (nodeC k u (.slice p n c)).toList)) : QW w0 D (ts ++ [t]) v w2 := by
  rcases hown.2 with ⟨_, hn⟩ | ⟨g', cap', cur, hv, hg, hh, hc1, hc2, hc3, hc4⟩
  · omega
  · refine ⟨g', 0, cap', xs ++ [nodeC k u (.slice p n c)], cur, by rw [hv]; simp, by omega, by simpa using hc1, hh, by omega, by simp [h6], fun x hx => ?_, fun i hi hi' => ?_, fun i hi => ?_⟩
    · rcases List.mem_append.1 hx with hx | hx
      · exact h7 x hx
      · simp at hx; exact ⟨k, u, p, n, c, hx⟩
    · by_cases hlt : i < ts.length
      · have := h8 i hlt (by omega)
        simpa [List.getElem_append_left, hlt, h6] using this
      · have hi2 : i = ts.length := by simp at hi; omega
        subst hi2
        have e1 : (ts ++ [t])[ts.length]'hi = t := by simp
        have e2 : (xs ++ [nodeC k u (.slice p n c)])[ts.length]'hi' = nodeC k u (.slice p n c) := by simp [← h6]
        rw [e1, e2]; exact ht
    · rw [List.length_append, List.length_singleton] at hi
      rw [Nat.zero_add, flat_app, ← hc4, List.getElem?_take_of_lt hi, Array.getElem?_toList]
end
section
/- The document's Size: the walk. -/
set_option maxHeartbeats 16000000 in
theorem sizer_any {D : Nat → Prop} {t : RT} {v : Value} {w : World} (hwd : wid t ≤ 9223372036854775806) (hD : ∀ z, D z → z < w.heap.size) (h : RV D w t v) :
    Calls Tryd.prog 18 #[v] w fun e w' => e = .returned (.int .i64 (min (sz t) 513 : Nat)) ∧ Below w.heap.size w w' := by
  obtain ⟨i0, hi, hz0, hz1, hz2⟩ := info_parts infoN
  obtain ⟨k, u, p, n, c, rfl⟩ := h.form
  have S0 := (Sb.start w).alloc (.cells (nodeC k u (.slice p n c)) 27)
  have HT1 := Lib.hid (QW.one (w := w.alloc (.cells (nodeC k u (.slice p n c)) 27)) h (by simp))
  have HB1 := Lib.hid (S0.1.alloc S0.1.size (.cells (nodeC k u (.slice p n c)) 27))
  obtain ⟨R, hR⟩ : ∃ R, min (sz t) 513 = R := ⟨_, rfl⟩
  rw [hR]
  have HR := Lib.hid hR
  clear h S0 hR
  unfold nodeC at HT1 HB1 ⊢
  go_enter Tryd.func18, Tryd.ntmps18
  go_wp2
  rw [show (w.alloc (.cells #[.int .i64 k, .int .u64 (u 0), .int .u64 (u 1), .int .u64 (u 2), .int .u64 (u 3), .slice p n c] 27)).heap.size = w.heap.size + 1 from by simp] at HT1
  generalize hws : ((w.alloc (.cells #[.int .i64 k, .int .u64 (u 0), .int .u64 (u 1), .int .u64 (u 2), .int .u64 (u 3), .slice p n c] 27)).alloc (.cells #[.int .i64 k, .int .u64 (u 0), .int .u64 (u 1), .int .u64 (u 2), .int .u64 (u 3), .slice p n c] 27)) = ws at *
  clear hws
  go_loopw [3, 4] (fun i sl wr => ∃ (ts : List RT) (q : Nat), i = .int .i64 (q : Nat) ∧ q ≤ 513 ∧ ts.length ≤ 513 ∧ Hid ((q + szL ts = sz t) ∨ (512 < q + ts.length ∧ 512 < sz t)) ∧ Hid (widL ts ≤ 9223372036854775806) ∧ Hid (QW w D ts sl wr) ∧ Hid (Below w.heap.size w wr)) (fun i _ _ => 514 - (intOf i).toNat)
  case atStart => exact ⟨[t], 0, rfl, by omega, by simp, Lib.hid (.inl (by simp [szL])), Lib.hid (by simp [widL]; exact hwd), HT1, HB1⟩
  case round =>
    obtain ⟨ts, q, rfl, hqm, htm, HQ, HWD, HT, HB⟩ := hrel
    clear HT1 HB1
    obtain ⟨g, off, cap, hsl, hcap, hgb, hgl⟩ := HT.out.sl
    subst hsl
    match ts, htm, HQ, HWD, HT, hcap with
    | [], htm, HQ, HWD, HT, hcap =>
      have hans : q = R := by
        have := HQ.out
        rw [← HR.out]
        simp only [szL, List.length_nil] at this
        omega
      subst hans
      have hl0 : ¬ (0 : Int) < ((([] : List RT).length : Nat) : Int) := by simp
      go_wp2_with fail
      go_ret
      exact ⟨rfl, HB.out⟩
    | x :: ts, htm, HQ, HWD, HT, hcap =>
      simp only [List.length_cons] at htm hcap HT ⊢
      have hl1 : (0 : Int) < ((ts.length + 1 : Nat) : Int) := by omega
      by_cases hq : 512 < q
      · have hans : q = R := by
          have := HQ.out
          have := len_szL (x :: ts)
          rw [← HR.out]
          simp only [List.length_cons] at this
          have hx := HQ.out
          simp only [List.length_cons] at hx
          omega
        subst hans
        have hq2 : ¬ ((q : Nat) : Int) ≤ 512 := by omega
        go_wp2_with fail
        go_ret
        exact ⟨rfl, HB.out⟩
      · have hq2 : ((q : Nat) : Int) ≤ 512 := by omega
        obtain ⟨k1, u1, p1, n1, c1, hv, hcell⟩ := HT.out.head
        have hcell' : ∀ j y, (nodeC k1 u1 (.slice p1 n1 c1))[j]? = some y → wr.cell? ⟨g, off + j, none⟩ = some y := hcell
        have d0 : wr.cell? ⟨g, off, none⟩ = some (.int .i64 k1) := hcell 0 _ rfl
        have d1 : wr.cell? ⟨g, off + 1, none⟩ = some (.int .u64 (u1 0)) := hcell 1 _ rfl
        have d2 : wr.cell? ⟨g, off + 2, none⟩ = some (.int .u64 (u1 1)) := hcell 2 _ rfl
        have d3 : wr.cell? ⟨g, off + 3, none⟩ = some (.int .u64 (u1 2)) := hcell 3 _ rfl
        have d4 : wr.cell? ⟨g, off + 4, none⟩ = some (.int .u64 (u1 3)) := hcell 4 _ rfl
        have d5 : wr.cell? ⟨g, off + 5, none⟩ = some (.slice p1 n1 c1) := hcell 5 _ rfl
        have HV := Lib.hid hv
        have HTL := Lib.hid HT.out.tail
        have hcap' : ((ts.length : Nat) : Int) + 1 ≤ (cap : Int) := by omega
        have hc1 : (1 : Int) ≤ (cap : Int) := by omega
        obtain ⟨kx, ux, ps⟩ := x
        obtain ⟨px, cx, hvx, hpx⟩ := HV.out.parts
        have hn1 : n1 = ps.length := by simp [nodeC] at hvx; exact hvx.2.2.2.2.2.2.1
        have hp1 : p1 = px := by simp [nodeC] at hvx; exact hvx.2.2.2.2.2.1
        subst hn1
        subst hp1
        have HPX := Lib.hid hpx
        have HBx := Lib.hid ((Sb.start wr).alloc (.cells #[.int .i64 k1, .int .u64 (u1 0), .int .u64 (u1 1), .int .u64 (u1 2), .int .u64 (u1 3), .slice p1 ps.length c1] 27))
        have HB3 := Lib.hid (HB.out.trans (HBx.out.1.mono HB.out.size))
        have hgx : g ≠ wr.heap.size := by omega
        clear hvx hpx hcell hcell' hv HB
        have HT2 : ∃ off2, (if cap = 1 then some ⟨g, off, none⟩ else some ⟨g, off + 6, none⟩ : Option Addr) = some ⟨g, off2, none⟩ ∧ QW w D ts (.slice (some ⟨g, off2, none⟩) ts.length (cap - 1)) wr := by
          by_cases hc : cap = 1
          · exact ⟨off, by rw [if_pos hc], by have := HTL.out.1 hc; rw [hc]; exact this⟩
          · exact ⟨off + 6, by rw [if_neg hc], HTL.out.2 hc⟩
        obtain ⟨off2, hoff2, hqw⟩ := HT2
        have HQW := Lib.hid (hqw.up HBx.out.1)
        have HX := Lib.hid HBx.out.heap
        have hlx := HBx.out.lt
        have hsx : szL (RT.mk kx ux ps :: ts) = szL ps + 1 + szL ts := by rw [szL, sz]
        have hps := len_szL ps
        have hlen := len_szL ts
        have HQ2 := Lib.hid HQ.out
        rw [hsx, List.length_cons] at HQ2
        have hwx : wid (.mk kx ux ps) ≤ 9223372036854775806 ∧ widL ts ≤ 9223372036854775806 := by
          have := HWD.out
          simp only [widL] at this
          omega
        obtain ⟨hpl, hwps⟩ := wid_mk hwx.1
        clear HQ HWD HT HTL hqw HBx hcap
        go_upto_region 6 with fail
        try rw [hoff2]
        clear hoff2 d0 d1 d2 d3 d4 d5
        generalize (wr.alloc (.cells #[.int .i64 k1, .int .u64 (u1 0), .int .u64 (u1 1), .int .u64 (u1 2), .int .u64 (u1 3), .slice p1 ps.length c1] 27)) = wx at *
        generalize cap - 1 = cap2 at *
        go_wp2
        generalize wr.heap.size = bx at *
        go_loopw [4, 6] (fun sl i w2 => ∃ j : Nat, i = .int .i64 (j : Nat) ∧ j ≤ ps.length ∧ ts.length + j ≤ 513 ∧ Hid (QW w D (ts ++ ps.take j) sl w2) ∧ Hid (Below w.heap.size w w2) ∧ Hid (w2.heap[bx]? = some (.cells #[.int .i64 k1, .int .u64 (u1 0), .int .u64 (u1 1), .int .u64 (u1 2), .int .u64 (u1 3), .slice p1 ps.length c1] 27 (0, 0))) ∧ ∀ g' o' n' c', sl = .slice (some ⟨g', o', none⟩) n' c' → g' ≠ bx) (fun _ i _ => ps.length - (intOf i).toNat)
        case atStart => exact ⟨0, rfl, by omega, by omega, by simpa using HQW, HB3, HX, fun g' o' n' c' h => by simp at h; omega⟩
        case round =>
          obtain ⟨j, rfl, hj, hjm, HTj, HBj, HXj, hown⟩ := hrel
          clear HQW HB3 HX
          have c5 : wr.cell? ⟨bx, 5, none⟩ = some (.slice p1 ps.length c1) := cell_of_row wr bx 5 _ 27 (0, 0) HXj.out
          obtain ⟨g2, o2, cap3, hsl, hcap3, hgb2, hgl2⟩ := HTj.out.sl
          have hlj : (ts ++ ps.take j).length = ts.length + j := by simp; omega
          rw [hlj] at hsl hcap3
          subst hsl
          have hg2 := hown _ _ _ _ rfl
          by_cases hlt2 : j < ps.length
          · have hlt3 : (j : Int) < ((ps.length : Nat) : Int) := by omega
            by_cases hfull : ¬ ts.length + j ≤ 512
            · have hle : ¬ ((ts.length : Nat) : Int) + (j : Int) ≤ 512 := by omega
              have htkl : (ps.take j).length = j := by rw [List.length_take]; omega
              have hpl2 := widL_take ps j
              have hbig : 512 < sz t := by
                have := HQ2.out
                omega
              have hwd2 : widL (ts ++ ps.take j) ≤ 9223372036854775806 := by
                have := widL_appL ts (ps.take j)
                have := hwps2 ps hwps
                omega
              go_wp2_with fail
              go_roundw
              case rel => exact ⟨ts ++ ps.take j, q + 1, by go_num, by omega, by rw [List.length_append, htkl]; omega, Lib.hid (.inr ⟨by rw [List.length_append, htkl]; omega, hbig⟩), Lib.hid hwd2, HTj, HBj⟩
              case measure => simp [intOf]; omega
            · have hle : ((ts.length : Nat) : Int) + (j : Int) ≤ 512 := by omega
              have hne : ps ≠ [] := by intro e; subst e; simp at hlt2
              obtain ⟨b', o', rfl, hDb, hx⟩ := HPX.out hne
              obtain ⟨k5, u5, p5, n5, c5', hv5, hc5⟩ := hx j hlt2
              have hbw := hD b' hDb
              have cc5 : ∀ i y, (nodeC k5 u5 (.slice p5 n5 c5'))[i]? = some y → wr.cell? ⟨b', o' + j * 6 + i, none⟩ = some y := fun i y hy => by
                rw [HBj.out.cell (p := ⟨b', o' + j * 6 + i, none⟩) hbw, ← hc5 i y hy, show o' + j * 6 + i = o' + (6 * j + i) by omega]
              have f0 : wr.cell? ⟨b', o' + j * 6, none⟩ = some (.int .i64 k5) := cc5 0 _ rfl
              have f1 : wr.cell? ⟨b', o' + j * 6 + 1, none⟩ = some (.int .u64 (u5 0)) := cc5 1 _ rfl
              have f2 : wr.cell? ⟨b', o' + j * 6 + 2, none⟩ = some (.int .u64 (u5 1)) := cc5 2 _ rfl
              have f3 : wr.cell? ⟨b', o' + j * 6 + 3, none⟩ = some (.int .u64 (u5 2)) := cc5 3 _ rfl
              have f4 : wr.cell? ⟨b', o' + j * 6 + 4, none⟩ = some (.int .u64 (u5 3)) := cc5 4 _ rfl
              have f5 : wr.cell? ⟨b', o' + j * 6 + 5, none⟩ = some (.slice p5 n5 c5') := cc5 5 _ rfl
              have htk : ts ++ ps.take (j + 1) = (ts ++ ps.take j) ++ [ps[j]] := by rw [List.take_succ_eq_append_getElem hlt2, List.append_assoc]
              have HV5 := Lib.hid hv5
              have hbxl := (Array.getElem?_eq_some_iff.1 HXj.out).1
              have HA : Hid (Below wr.heap.size wr (wr.alloc (.cells #[.int .i64 k5, .int .u64 (u5 0), .int .u64 (u5 1), .int .u64 (u5 2), .int .u64 (u5 3), .slice p5 n5 c5'] 27))) := Lib.hid ((Below.refl _ _).alloc (Nat.le_refl _) _)
              have hsz7 : (wr.alloc (.cells #[.int .i64 k5, .int .u64 (u5 0), .int .u64 (u5 1), .int .u64 (u5 2), .int .u64 (u5 3), .slice p5 n5 c5'] 27)).heap.size = wr.heap.size + 1 := by simp
              have hwl := HBj.out.size
              have HQX := HTj.out
              obtain ⟨g'', off'', cap'', xs, cur, y1, y2, y3, y4, y5, y6, y7, y8, y9⟩ := HQX
              rw [hlj] at y1 y6 y9
              simp only [Value.slice.injEq, Option.some.injEq, Addr.mk.injEq] at y1
              obtain ⟨⟨rfl, rfl, -⟩, -, rfl⟩ := y1
              have hfl := flat_len6 y7
              have hgA : (wr.alloc (.cells #[.int .i64 k5, .int .u64 (u5 0), .int .u64 (u5 1), .int .u64 (u5 2), .int .u64 (u5 3), .slice p5 n5 c5'] 27)).heap[g2]? = some (.cells cur 27 (0, 0)) := (HA.out.block g2 hgl2).trans y4
              have HGA := Lib.hid hgA
              have HY6 := Lib.hid y6
              have HY7 := Lib.hid y7
              have HY8 := Lib.hid y8
              have HY9 := Lib.hid y9
              have HFL := Lib.hid hfl
              have hcs := y5
              clear cc5 hc5 hx hv5 y6 y7 y8 y9 y4 hgA hfl y3 y5 y2
              go_wp2_with (at_builtin; refine wpList_append_arg _ rfl (.tmp 35) (.tmp 41) 25 rfl 27 i0 (.agg (nodeC 0 u0 (.slice none 0 0))) 6 64 Tryd.underlying25 hi hz0 hz1 hz2 rfl (by decide) g2 o2 (ts.length + j) cap3 (flat xs) rfl ?lo ?holds ⟨wr.heap.size, 0, none⟩ 1 1 (nodeC k5 u5 (.slice p5 n5 c5')).toList rfl rfl ?c1 ?c2 ?sp ?b1 ?b2 ?room ?grow)
              case lo => rw [HFL.out, HY6.out]
              case holds =>
                intro i y hy
                have hil : i < (flat xs).length := (List.getElem?_eq_some_iff.1 hy).1
                rw [HFL.out, HY6.out] at hil
                rw [cell_of_row _ g2 _ cur 27 (0, 0) HGA.out, HY9.out i hil]
                exact hy
              case c1 =>
                intro i y hy
                rw [Addr.add_mid, cell_of_row _ wr.heap.size (0 + i) _ 27 (0, 0) (heap_alloc_last wr _), Nat.zero_add]
                rw [Array.getElem?_toList] at hy; exact hy
              case c2 => exact fun u hu => (Array.all_eq_true_iff_forall_mem.1 (nodeC_one k5 u5 p5 n5 c5')) u (by simpa using hu)
              case sp =>
                intro hroom i hi'
                have hi6 : i < 6 := hi'
                refine ⟨?_, frozen_of_row _ g2 _ cur 27 HGA.out⟩
                rw [cell_of_row _ g2 _ cur 27 (0, 0) HGA.out, Array.getElem?_eq_getElem (by omega)]
                rfl
              case b1 => unfold maxLen; omega
              case b2 => omega
              case room =>
                intro hroom
                have HQN : Hid (QW w D (ts ++ ps.take (j + 1)) (.slice (some ⟨g2, o2, none⟩) (ts.length + j + 1) cap3) ((wr.alloc (.cells #[.int .i64 k5, .int .u64 (u5 0), .int .u64 (u5 1), .int .u64 (u5 2), .int .u64 (u5 3), .slice p5 n5 c5'] 27)).setCells g2 (o2 + (ts.length + j) * 6) (nodeC k5 u5 (.slice p5 n5 c5')).toList)) := Lib.hid (by
                  rw [htk]
                  have := QW.room (by rw [hlj]; exact HTj.out) HV5.out HA.out (by rw [hlj]; exact hroom)
                  rw [hlj] at this
                  exact this)
                have HBN := Lib.hid (setCells_below hgb2 (nodeC k5 u5 (.slice p5 n5 c5')).toList (o2 + (ts.length + j) * 6) _ (HBj.out.trans (HA.out.mono hwl)))
                have HXN : Hid (((wr.alloc (.cells #[.int .i64 k5, .int .u64 (u5 0), .int .u64 (u5 1), .int .u64 (u5 2), .int .u64 (u5 3), .slice p5 n5 c5'] 27)).setCells g2 (o2 + (ts.length + j) * 6) (nodeC k5 u5 (.slice p5 n5 c5')).toList).heap[bx]? = some (.cells #[.int .i64 k1, .int .u64 (u1 0), .int .u64 (u1 1), .int .u64 (u1 2), .int .u64 (u1 3), .slice (some ⟨b', o', none⟩) ps.length c1] 27 (0, 0))) := Lib.hid (by
                  rw [setCells_other (fun e => hg2 e.symm)]
                  exact (HA.out.block bx hbxl).trans HXj.out)
                generalize ((wr.alloc (.cells #[.int .i64 k5, .int .u64 (u5 0), .int .u64 (u5 1), .int .u64 (u5 2), .int .u64 (u5 3), .slice p5 n5 c5'] 27)).setCells g2 (o2 + (ts.length + j) * 6) (nodeC k5 u5 (.slice p5 n5 c5')).toList) = wN at *
                clear HTj HBj HXj HA HGA HY6 HY7 HY8 HY9 HFL HV5 htk f0 f1 f2 f3 f4 f5 c5
                go_wp2_with fail
                go_roundw
                case rel => exact ⟨j + 1, by go_num, by omega, by omega, HQN, HBN, HXN, fun g' o' n' c' h => by simp at h; rw [← h.1.1]; exact hg2⟩
                case measure => simp [intOf]; omega
              case grow =>
                intro hfullc v' w8 hown8 hgrow8
                have HQN : Hid (QW w D (ts ++ ps.take (j + 1)) v' w8) := Lib.hid (by
                  rw [htk]
                  exact QW.grow (w1 := wr.alloc (.cells #[.int .i64 k5, .int .u64 (u5 0), .int .u64 (u5 1), .int .u64 (u5 2), .int .u64 (u5 3), .slice p5 n5 c5'] 27)) (w := wr) (g := g2) (off := o2) (cap := cap3) (by rw [hlj]; exact HY6.out) HY7.out HY8.out HV5.out (by rw [hsz7]; omega) (by rw [hlj, hsz7]; exact hown8))
                have HBN := Lib.hid (below_grown (HBj.out.trans (HA.out.mono hwl)) hgrow8 (fun g h => by cases h) (by rw [hsz7]; omega))
                have HXN : Hid (w8.heap[bx]? = some (.cells #[.int .i64 k1, .int .u64 (u1 0), .int .u64 (u1 1), .int .u64 (u1 2), .int .u64 (u1 3), .slice (some ⟨b', o', none⟩) ps.length c1] 27 (0, 0))) := Lib.hid
                  ((hgrow8.block bx (by rw [hsz7]; omega) (fun e => by cases e)).trans ((HA.out.block bx hbxl).trans HXj.out))
                have hnb : ∀ g' o' n' c', v' = .slice (some ⟨g', o', none⟩) n' c' → g' ≠ bx := fun g' o' n' c' h => by
                  rcases hown8.2 with ⟨hv, _⟩ | ⟨g9, cap9, cur9, hv, hg9, _⟩
                  · rw [hv] at h; simp at h
                  · rw [hv] at h
                    simp at h
                    omega
                clear hown8 hgrow8 HTj HBj HXj HA HGA HY6 HY7 HY8 HY9 HFL HV5 htk f0 f1 f2 f3 f4 f5 c5
                go_wp2_with fail
                go_roundw
                case rel => exact ⟨j + 1, by go_num, by omega, by omega, HQN, HBN, HXN, hnb⟩
                case measure => simp [intOf]; omega
          · obtain rfl : j = ps.length := by omega
            have hlt3 : ¬ ((ps.length : Nat) : Int) < ((ps.length : Nat) : Int) := by omega
            rw [List.take_length] at HTj
            have hwd2 : widL (ts ++ ps) ≤ 9223372036854775806 := by
              have := widL_appL ts ps
              have := hwps2 ps hwps
              omega
            have hq2' : (q + 1 + szL (ts ++ ps) = sz t) ∨ (512 < q + 1 + (ts ++ ps).length ∧ 512 < sz t) := by
              have := HQ2.out
              rw [szL_app, List.length_append]
              omega
            go_wp2_with fail
            go_roundw
            case rel => exact ⟨ts ++ ps, q + 1, by go_num, by omega, by rw [List.length_append]; omega, Lib.hid hq2', Lib.hid hwd2, HTj, HBj⟩
            case measure => simp [intOf]; omega
end
section
/- The document's Check; RegsChecks: the walks. -/
theorem sizer_hid {t : RT} (hw : wid t ≤ 9223372036854775806) {D : Nat → Prop} {v : Value} {y : World} (hD : ∀ b, D b → b < y.heap.size) (h : RV D y t v) :
    Hid (∀ z, Below y.heap.size y z → Calls Tryd.prog 18 #[v] z fun e w' => e = .returned (.int .i64 (min (sz t) 513 : Nat)) ∧ Below z.heap.size z w') := Lib.hid fun z hb =>
  sizer_any hw (fun b hd => Nat.lt_of_lt_of_le (hD b hd) hb.size) (RV.mono (fun b h => h) (fun b hb' _ => hb.block b (hD b hb')) h)
theorem size_hid {t : RT} (hw : wid t ≤ 9223372036854775806) {D : Nat → Prop} {v : Value} {y : World} (hD : ∀ b, D b → b < y.heap.size) (h : RV D y t v) :
    Hid (∀ z, Below y.heap.size y z → Calls Tryd.prog 14 #[v] z fun e w' => e = .returned (.int .i64 (min (sz t) 513 : Nat)) ∧ Below z.heap.size z w') := Lib.hid fun z hb =>
  size_any (fun b hd => Nat.lt_of_lt_of_le (hD b hd) hb.size) hw (RV.mono (fun b h => h) (fun b hb' _ => hb.block b (hD b hb')) h)
theorem check_hid {t : RT} (hw : wid t ≤ 9223372036854775806) {D : Nat → Prop} {v : Value} {y : World} (hD : ∀ b, D b → b < y.heap.size) (h : RV D y t v) :
    Hid (∀ z, Below y.heap.size y z → Calls Tryd.prog 15 #[v] z fun e w' => e = .returned (.int .i64 (checkE t)) ∧ Below z.heap.size z w') := Lib.hid fun z hb =>
  check_any (fun b hd => Nat.lt_of_lt_of_le (hD b hd) hb.size) hw (RV.mono (fun b h => h) (fun b hb' _ => hb.block b (hD b hb')) h)
theorem deep_hid {t : RT} (hs : sz t ≤ 512) {D : Nat → Prop} {v : Value} {y : World} (hD : ∀ b, D b → b < y.heap.size) (h : RV D y t v) :
    Hid (∀ z, Below y.heap.size y z → Calls Tryd.prog 34 #[v] z fun e w' => e = .returned (.int .i64 (dep t : Nat)) ∧ Below z.heap.size z w') := Lib.hid fun z hb =>
  deep_any (dep t) t (Nat.le_refl _) (by have := dep_sz t; omega) (fun b hd => Nat.lt_of_lt_of_le (hD b hd) hb.size) (by have := wid_sz t; omega) (RV.mono (fun b h => h) (fun b hb' _ => hb.block b (hD b hb')) h)
theorem mayr_hid {t : RT} (hw : wid t ≤ 9223372036854775806) {D : Nat → Prop} {v : Value} {y : World} (hD : ∀ b, D b → b < y.heap.size) (h : RV D y t v) :
    Hid (∀ z, Below y.heap.size y z → Calls Tryd.prog 35 #[v] z fun e w' => e = .returned (.bool (mayB t)) ∧ Below z.heap.size z w') := Lib.hid fun z hb =>
  mayr_any (dep t) t (Nat.le_refl _) (fun b hd => Nat.lt_of_lt_of_le (hD b hd) hb.size) hw (RV.mono (fun b h => h) (fun b hb' _ => hb.block b (hD b hb')) h)
theorem twin_hid {t : RT} (hw : wid t ≤ 1000000) {D : Nat → Prop} {v : Value} {y : World} (hD : ∀ b, D b → b < y.heap.size) (h : RV D y t v) :
    Hid (∀ z, Below y.heap.size y z → Calls Tryd.prog 17 #[v] z (TwP t z)) := Lib.hid fun z hb =>
  twin_any (dep t) t (Nat.le_refl _) hw (fun b hd => Nat.lt_of_lt_of_le (hD b hd) hb.size) (RV.mono (fun b h => h) (fun b hb' _ => hb.block b (hD b hb')) h)
theorem left_hid {t : RT} (hw : wid t ≤ 1000000) {D E : Nat → Prop} {v v' : Value} {y : World} (hD : ∀ b, D b → b < y.heap.size) (hE : ∀ b, E b → b < y.heap.size) (h : TW D y t v) (g : RV E y t v') :
    Hid (∀ z, Below y.heap.size y z → Calls Tryd.prog 20 #[v, v'] z fun e w' => e = .returned (.bool true) ∧ Below z.heap.size z w') := Lib.hid fun z hb =>
  left_any (dep t) t (Nat.le_refl _) hw (fun b hd => Nat.lt_of_lt_of_le (hD b hd) hb.size) (fun b hd => Nat.lt_of_lt_of_le (hE b hd) hb.size) (TW.mono (fun b h => h) (fun b hb' _ => hb.block b (hD b hb')) h) (RV.mono (fun b h => h) (fun b hb' _ => hb.block b (hE b hb')) g)
set_option maxHeartbeats 16000000 in
theorem ckr_A {t : RT} {w : World} {ka : Int} {ua : Nat → Int} {pa : Option Addr} {na ca : Nat} (hw0 : 0 < w.heap.size) (hT : Tb w) (V1 : RV (fun b => b < w.heap.size) w t (.agg (nodeC ka ua (.slice pa na ca)))) (d1 : wid t ≤ 9223372036854775806) (hs : min (sz t) 513 = 513) :
    Calls Tryd.prog 19 #[.agg #[.int .i64 ka, .int .u64 (ua 0), .int .u64 (ua 1), .int .u64 (ua 2), .int .u64 (ua 3), .slice pa na ca]] w fun e w' => e = .returned (.int .i64 3) ∧ Below w.heap.size w w' := by
  have S1 := Lib.hid ((Below.refl w.heap.size w).alloc (Nat.le_refl _) (.cells #[.int .i64 ka, .int .u64 (ua 0), .int .u64 (ua 1), .int .u64 (ua 2), .int .u64 (ua 3), .slice pa na ca] 27) : Below w.heap.size w _)
  have B1 := Lib.hid (PBox.new (fun b h => h) V1)
  have HT := Lib.hid hT
  unfold nodeC at B1
  clear V1 hT
  go_enter Tryd.func19, Tryd.ntmps19
  go_upto_region 1 with fail
  refine at_world (fun y => Rst w w.heap.size w.heap.size t t y) ⟨B1.out, B1.out, S1.out, HT.out.mono (S1.out.block 0 hw0), by have := S1.out.size; omega⟩ fun y hy => ?_
  have R1 := Lib.hid hy
  clear B1 S1 hy
  obtain ⟨b1, hb1⟩ : ∃ b1, w.heap.size = b1 := ⟨_, rfl⟩
  rw [hb1] at R1
  obtain ⟨k1, u1, p1, n1, c1, ah, av⟩ := R1.out.1
  have a0 : y.cell? ⟨b1, 0, none⟩ = some (.int .i64 k1) := cell_of_row y b1 0 _ 27 (0, 0) ah
  have a1 : y.cell? ⟨b1, 1, none⟩ = some (.int .u64 (u1 0)) := cell_of_row y b1 1 _ 27 (0, 0) ah
  have a2 : y.cell? ⟨b1, 2, none⟩ = some (.int .u64 (u1 1)) := cell_of_row y b1 2 _ 27 (0, 0) ah
  have a3 : y.cell? ⟨b1, 3, none⟩ = some (.int .u64 (u1 2)) := cell_of_row y b1 3 _ 27 (0, 0) ah
  have a4 : y.cell? ⟨b1, 4, none⟩ = some (.int .u64 (u1 3)) := cell_of_row y b1 4 _ 27 (0, 0) ah
  have a5 : y.cell? ⟨b1, 5, none⟩ = some (.slice p1 n1 c1) := cell_of_row y b1 5 _ 27 (0, 0) ah
  have az : b1 < y.heap.size := (Array.getElem?_eq_some_iff.1 ah).1
  have HM := sizer_hid d1 (fun b h => h) av
  rw [hs] at HM
  unfold nodeC at HM
  clear ah av
  go_wp2_with fail
  refine (HM.out _ (Below.refl _ _)).mono ?_
  rintro _ y1 ⟨rfl, hb⟩
  have R' := Lib.hid (R1.out.up hb)
  clear R1 HM hb a0 a1 a2 a3 a4 a5 az
  have R1 := R'
  clear R'
  go_wp2_with fail
  go_ret
  exact ⟨rfl, R1.out.2.2.1⟩
set_option maxHeartbeats 16000000 in
theorem ckr_B {t : RT} {w : World} {ka : Int} {ua : Nat → Int} {pa : Option Addr} {na ca : Nat} (hw0 : 0 < w.heap.size) (hT : Tb w) (V1 : RV (fun b => b < w.heap.size) w t (.agg (nodeC ka ua (.slice pa na ca)))) (d1 : wid t ≤ 9223372036854775806) {N d : Nat} (hs : min (sz t) 513 = N) (hN : ¬ (512 : Int) < (N : Int)) (hs2 : sz t ≤ 512) (hd : dep t = d) (hd2 : (16 : Int) < (d : Int)) :
    Calls Tryd.prog 19 #[.agg #[.int .i64 ka, .int .u64 (ua 0), .int .u64 (ua 1), .int .u64 (ua 2), .int .u64 (ua 3), .slice pa na ca]] w fun e w' => e = .returned (.int .i64 51) ∧ Below w.heap.size w w' := by
  have S1 := Lib.hid ((Below.refl w.heap.size w).alloc (Nat.le_refl _) (.cells #[.int .i64 ka, .int .u64 (ua 0), .int .u64 (ua 1), .int .u64 (ua 2), .int .u64 (ua 3), .slice pa na ca] 27) : Below w.heap.size w _)
  have B1 := Lib.hid (PBox.new (fun b h => h) V1)
  have HT := Lib.hid hT
  unfold nodeC at B1
  clear V1 hT
  go_enter Tryd.func19, Tryd.ntmps19
  go_upto_region 1 with fail
  refine at_world (fun y => Rst w w.heap.size w.heap.size t t y) ⟨B1.out, B1.out, S1.out, HT.out.mono (S1.out.block 0 hw0), by have := S1.out.size; omega⟩ fun y hy => ?_
  have R1 := Lib.hid hy
  clear B1 S1 hy
  obtain ⟨b1, hb1⟩ : ∃ b1, w.heap.size = b1 := ⟨_, rfl⟩
  rw [hb1] at R1
  obtain ⟨k1, u1, p1, n1, c1, ah, av⟩ := R1.out.1
  have a0 : y.cell? ⟨b1, 0, none⟩ = some (.int .i64 k1) := cell_of_row y b1 0 _ 27 (0, 0) ah
  have a1 : y.cell? ⟨b1, 1, none⟩ = some (.int .u64 (u1 0)) := cell_of_row y b1 1 _ 27 (0, 0) ah
  have a2 : y.cell? ⟨b1, 2, none⟩ = some (.int .u64 (u1 1)) := cell_of_row y b1 2 _ 27 (0, 0) ah
  have a3 : y.cell? ⟨b1, 3, none⟩ = some (.int .u64 (u1 2)) := cell_of_row y b1 3 _ 27 (0, 0) ah
  have a4 : y.cell? ⟨b1, 4, none⟩ = some (.int .u64 (u1 3)) := cell_of_row y b1 4 _ 27 (0, 0) ah
  have a5 : y.cell? ⟨b1, 5, none⟩ = some (.slice p1 n1 c1) := cell_of_row y b1 5 _ 27 (0, 0) ah
  have az : b1 < y.heap.size := (Array.getElem?_eq_some_iff.1 ah).1
  have HM := sizer_hid d1 (fun b h => h) av
  rw [hs] at HM
  unfold nodeC at HM
  clear ah av
  go_wp2_with fail
  refine (HM.out _ (Below.refl _ _)).mono ?_
  rintro _ y1 ⟨rfl, hb⟩
  have R' := Lib.hid (R1.out.up hb)
  clear R1 HM hb a0 a1 a2 a3 a4 a5 az
  have R1 := R'
  clear R'
  obtain ⟨k2, u2, p2, n2, c2, ah, av⟩ := R1.out.1
  have a0 : y1.cell? ⟨b1, 0, none⟩ = some (.int .i64 k2) := cell_of_row y1 b1 0 _ 27 (0, 0) ah
  have a1 : y1.cell? ⟨b1, 1, none⟩ = some (.int .u64 (u2 0)) := cell_of_row y1 b1 1 _ 27 (0, 0) ah
  have a2 : y1.cell? ⟨b1, 2, none⟩ = some (.int .u64 (u2 1)) := cell_of_row y1 b1 2 _ 27 (0, 0) ah
  have a3 : y1.cell? ⟨b1, 3, none⟩ = some (.int .u64 (u2 2)) := cell_of_row y1 b1 3 _ 27 (0, 0) ah
  have a4 : y1.cell? ⟨b1, 4, none⟩ = some (.int .u64 (u2 3)) := cell_of_row y1 b1 4 _ 27 (0, 0) ah
  have a5 : y1.cell? ⟨b1, 5, none⟩ = some (.slice p2 n2 c2) := cell_of_row y1 b1 5 _ 27 (0, 0) ah
  have az : b1 < y1.heap.size := (Array.getElem?_eq_some_iff.1 ah).1
  have HM := deep_hid hs2 (fun b h => h) av
  rw [hd] at HM
  unfold nodeC at HM
  clear ah av
  go_wp2_with fail
  refine (HM.out _ (Below.refl _ _)).mono ?_
  rintro _ y2 ⟨rfl, hb⟩
  have R' := Lib.hid (R1.out.up hb)
  clear R1 HM hb a0 a1 a2 a3 a4 a5 az
  have R1 := R'
  clear R'
  go_wp2_with fail
  go_ret
  exact ⟨rfl, R1.out.2.2.1⟩
set_option maxHeartbeats 16000000 in
theorem ckr_C {t : RT} {w : World} {ka : Int} {ua : Nat → Int} {pa : Option Addr} {na ca : Nat} (hw0 : 0 < w.heap.size) (hT : Tb w) (V1 : RV (fun b => b < w.heap.size) w t (.agg (nodeC ka ua (.slice pa na ca)))) (d1 : wid t ≤ 9223372036854775806) {N d : Nat} (hs : min (sz t) 513 = N) (hN : ¬ (512 : Int) < (N : Int)) (hs2 : sz t ≤ 512) (hd : dep t = d) (hd2 : ¬ (16 : Int) < (d : Int)) (hm : mayB t = false) :
    Calls Tryd.prog 19 #[.agg #[.int .i64 ka, .int .u64 (ua 0), .int .u64 (ua 1), .int .u64 (ua 2), .int .u64 (ua 3), .slice pa na ca]] w fun e w' => e = .returned (.int .i64 2) ∧ Below w.heap.size w w' := by
  have S1 := Lib.hid ((Below.refl w.heap.size w).alloc (Nat.le_refl _) (.cells #[.int .i64 ka, .int .u64 (ua 0), .int .u64 (ua 1), .int .u64 (ua 2), .int .u64 (ua 3), .slice pa na ca] 27) : Below w.heap.size w _)
  have B1 := Lib.hid (PBox.new (fun b h => h) V1)
  have HT := Lib.hid hT
  unfold nodeC at B1
  clear V1 hT
  go_enter Tryd.func19, Tryd.ntmps19
  go_upto_region 1 with fail
  refine at_world (fun y => Rst w w.heap.size w.heap.size t t y) ⟨B1.out, B1.out, S1.out, HT.out.mono (S1.out.block 0 hw0), by have := S1.out.size; omega⟩ fun y hy => ?_
  have R1 := Lib.hid hy
  clear B1 S1 hy
  obtain ⟨b1, hb1⟩ : ∃ b1, w.heap.size = b1 := ⟨_, rfl⟩
  rw [hb1] at R1
  obtain ⟨k1, u1, p1, n1, c1, ah, av⟩ := R1.out.1
  have a0 : y.cell? ⟨b1, 0, none⟩ = some (.int .i64 k1) := cell_of_row y b1 0 _ 27 (0, 0) ah
  have a1 : y.cell? ⟨b1, 1, none⟩ = some (.int .u64 (u1 0)) := cell_of_row y b1 1 _ 27 (0, 0) ah
  have a2 : y.cell? ⟨b1, 2, none⟩ = some (.int .u64 (u1 1)) := cell_of_row y b1 2 _ 27 (0, 0) ah
  have a3 : y.cell? ⟨b1, 3, none⟩ = some (.int .u64 (u1 2)) := cell_of_row y b1 3 _ 27 (0, 0) ah
  have a4 : y.cell? ⟨b1, 4, none⟩ = some (.int .u64 (u1 3)) := cell_of_row y b1 4 _ 27 (0, 0) ah
  have a5 : y.cell? ⟨b1, 5, none⟩ = some (.slice p1 n1 c1) := cell_of_row y b1 5 _ 27 (0, 0) ah
  have az : b1 < y.heap.size := (Array.getElem?_eq_some_iff.1 ah).1
  have HM := sizer_hid d1 (fun b h => h) av
  rw [hs] at HM
  unfold nodeC at HM
  clear ah av
  go_wp2_with fail
  refine (HM.out _ (Below.refl _ _)).mono ?_
  rintro _ y1 ⟨rfl, hb⟩
  have R' := Lib.hid (R1.out.up hb)
  clear R1 HM hb a0 a1 a2 a3 a4 a5 az
  have R1 := R'
  clear R'
  obtain ⟨k2, u2, p2, n2, c2, ah, av⟩ := R1.out.1
  have a0 : y1.cell? ⟨b1, 0, none⟩ = some (.int .i64 k2) := cell_of_row y1 b1 0 _ 27 (0, 0) ah
  have a1 : y1.cell? ⟨b1, 1, none⟩ = some (.int .u64 (u2 0)) := cell_of_row y1 b1 1 _ 27 (0, 0) ah
  have a2 : y1.cell? ⟨b1, 2, none⟩ = some (.int .u64 (u2 1)) := cell_of_row y1 b1 2 _ 27 (0, 0) ah
  have a3 : y1.cell? ⟨b1, 3, none⟩ = some (.int .u64 (u2 2)) := cell_of_row y1 b1 3 _ 27 (0, 0) ah
  have a4 : y1.cell? ⟨b1, 4, none⟩ = some (.int .u64 (u2 3)) := cell_of_row y1 b1 4 _ 27 (0, 0) ah
  have a5 : y1.cell? ⟨b1, 5, none⟩ = some (.slice p2 n2 c2) := cell_of_row y1 b1 5 _ 27 (0, 0) ah
  have az : b1 < y1.heap.size := (Array.getElem?_eq_some_iff.1 ah).1
  have HM := deep_hid hs2 (fun b h => h) av
  rw [hd] at HM
  unfold nodeC at HM
  clear ah av
  go_wp2_with fail
  refine (HM.out _ (Below.refl _ _)).mono ?_
  rintro _ y2 ⟨rfl, hb⟩
  have R' := Lib.hid (R1.out.up hb)
  clear R1 HM hb a0 a1 a2 a3 a4 a5 az
  have R1 := R'
  clear R'
  obtain ⟨k3, u3, p3, n3, c3, ah, av⟩ := R1.out.1
  have a0 : y2.cell? ⟨b1, 0, none⟩ = some (.int .i64 k3) := cell_of_row y2 b1 0 _ 27 (0, 0) ah
  have a1 : y2.cell? ⟨b1, 1, none⟩ = some (.int .u64 (u3 0)) := cell_of_row y2 b1 1 _ 27 (0, 0) ah
  have a2 : y2.cell? ⟨b1, 2, none⟩ = some (.int .u64 (u3 1)) := cell_of_row y2 b1 2 _ 27 (0, 0) ah
  have a3 : y2.cell? ⟨b1, 3, none⟩ = some (.int .u64 (u3 2)) := cell_of_row y2 b1 3 _ 27 (0, 0) ah
  have a4 : y2.cell? ⟨b1, 4, none⟩ = some (.int .u64 (u3 3)) := cell_of_row y2 b1 4 _ 27 (0, 0) ah
  have a5 : y2.cell? ⟨b1, 5, none⟩ = some (.slice p3 n3 c3) := cell_of_row y2 b1 5 _ 27 (0, 0) ah
  have az : b1 < y2.heap.size := (Array.getElem?_eq_some_iff.1 ah).1
  have HM := mayr_hid d1 (fun b h => h) av
  rw [hm] at HM
  unfold nodeC at HM
  clear ah av
  go_wp2_with fail
  refine (HM.out _ (Below.refl _ _)).mono ?_
  rintro _ y3 ⟨rfl, hb⟩
  have R' := Lib.hid (R1.out.up hb)
  clear R1 HM hb a0 a1 a2 a3 a4 a5 az
  have R1 := R'
  clear R'
  go_wp2_with fail
  go_ret
  exact ⟨rfl, R1.out.2.2.1⟩
set_option maxHeartbeats 16000000 in
theorem ckr_D {t : RT} {w : World} {ka : Int} {ua : Nat → Int} {pa : Option Addr} {na ca : Nat} (hw0 : 0 < w.heap.size) (hT : Tb w) (V1 : RV (fun b => b < w.heap.size) w t (.agg (nodeC ka ua (.slice pa na ca)))) (d1 : wid t ≤ 9223372036854775806) {N d : Nat} (hs : min (sz t) 513 = N) (hN : ¬ (512 : Int) < (N : Int)) (hs2 : sz t ≤ 512) (hd : dep t = d) (hd2 : ¬ (16 : Int) < (d : Int)) (hm : mayB t = true) :
    Calls Tryd.prog 19 #[.agg #[.int .i64 ka, .int .u64 (ua 0), .int .u64 (ua 1), .int .u64 (ua 2), .int .u64 (ua 3), .slice pa na ca]] w fun e w' => e = .returned (.int .i64 0) ∧ Below w.heap.size w w' := by
  have S1 := Lib.hid ((Below.refl w.heap.size w).alloc (Nat.le_refl _) (.cells #[.int .i64 ka, .int .u64 (ua 0), .int .u64 (ua 1), .int .u64 (ua 2), .int .u64 (ua 3), .slice pa na ca] 27) : Below w.heap.size w _)
  have B1 := Lib.hid (PBox.new (fun b h => h) V1)
  have HT := Lib.hid hT
  unfold nodeC at B1
  clear V1 hT
  go_enter Tryd.func19, Tryd.ntmps19
  go_upto_region 1 with fail
  refine at_world (fun y => Rst w w.heap.size w.heap.size t t y) ⟨B1.out, B1.out, S1.out, HT.out.mono (S1.out.block 0 hw0), by have := S1.out.size; omega⟩ fun y hy => ?_
  have R1 := Lib.hid hy
  clear B1 S1 hy
  obtain ⟨b1, hb1⟩ : ∃ b1, w.heap.size = b1 := ⟨_, rfl⟩
  rw [hb1] at R1
  obtain ⟨k1, u1, p1, n1, c1, ah, av⟩ := R1.out.1
  have a0 : y.cell? ⟨b1, 0, none⟩ = some (.int .i64 k1) := cell_of_row y b1 0 _ 27 (0, 0) ah
  have a1 : y.cell? ⟨b1, 1, none⟩ = some (.int .u64 (u1 0)) := cell_of_row y b1 1 _ 27 (0, 0) ah
  have a2 : y.cell? ⟨b1, 2, none⟩ = some (.int .u64 (u1 1)) := cell_of_row y b1 2 _ 27 (0, 0) ah
  have a3 : y.cell? ⟨b1, 3, none⟩ = some (.int .u64 (u1 2)) := cell_of_row y b1 3 _ 27 (0, 0) ah
  have a4 : y.cell? ⟨b1, 4, none⟩ = some (.int .u64 (u1 3)) := cell_of_row y b1 4 _ 27 (0, 0) ah
  have a5 : y.cell? ⟨b1, 5, none⟩ = some (.slice p1 n1 c1) := cell_of_row y b1 5 _ 27 (0, 0) ah
  have az : b1 < y.heap.size := (Array.getElem?_eq_some_iff.1 ah).1
  have HM := sizer_hid d1 (fun b h => h) av
  rw [hs] at HM
  unfold nodeC at HM
  clear ah av
  go_wp2_with fail
  refine (HM.out _ (Below.refl _ _)).mono ?_
  rintro _ y1 ⟨rfl, hb⟩
  have R' := Lib.hid (R1.out.up hb)
  clear R1 HM hb a0 a1 a2 a3 a4 a5 az
  have R1 := R'
  clear R'
  obtain ⟨k2, u2, p2, n2, c2, ah, av⟩ := R1.out.1
  have a0 : y1.cell? ⟨b1, 0, none⟩ = some (.int .i64 k2) := cell_of_row y1 b1 0 _ 27 (0, 0) ah
  have a1 : y1.cell? ⟨b1, 1, none⟩ = some (.int .u64 (u2 0)) := cell_of_row y1 b1 1 _ 27 (0, 0) ah
  have a2 : y1.cell? ⟨b1, 2, none⟩ = some (.int .u64 (u2 1)) := cell_of_row y1 b1 2 _ 27 (0, 0) ah
  have a3 : y1.cell? ⟨b1, 3, none⟩ = some (.int .u64 (u2 2)) := cell_of_row y1 b1 3 _ 27 (0, 0) ah
  have a4 : y1.cell? ⟨b1, 4, none⟩ = some (.int .u64 (u2 3)) := cell_of_row y1 b1 4 _ 27 (0, 0) ah
  have a5 : y1.cell? ⟨b1, 5, none⟩ = some (.slice p2 n2 c2) := cell_of_row y1 b1 5 _ 27 (0, 0) ah
  have az : b1 < y1.heap.size := (Array.getElem?_eq_some_iff.1 ah).1
  have HM := deep_hid hs2 (fun b h => h) av
  rw [hd] at HM
  unfold nodeC at HM
  clear ah av
  go_wp2_with fail
  refine (HM.out _ (Below.refl _ _)).mono ?_
  rintro _ y2 ⟨rfl, hb⟩
  have R' := Lib.hid (R1.out.up hb)
  clear R1 HM hb a0 a1 a2 a3 a4 a5 az
  have R1 := R'
  clear R'
  obtain ⟨k3, u3, p3, n3, c3, ah, av⟩ := R1.out.1
  have a0 : y2.cell? ⟨b1, 0, none⟩ = some (.int .i64 k3) := cell_of_row y2 b1 0 _ 27 (0, 0) ah
  have a1 : y2.cell? ⟨b1, 1, none⟩ = some (.int .u64 (u3 0)) := cell_of_row y2 b1 1 _ 27 (0, 0) ah
  have a2 : y2.cell? ⟨b1, 2, none⟩ = some (.int .u64 (u3 1)) := cell_of_row y2 b1 2 _ 27 (0, 0) ah
  have a3 : y2.cell? ⟨b1, 3, none⟩ = some (.int .u64 (u3 2)) := cell_of_row y2 b1 3 _ 27 (0, 0) ah
  have a4 : y2.cell? ⟨b1, 4, none⟩ = some (.int .u64 (u3 3)) := cell_of_row y2 b1 4 _ 27 (0, 0) ah
  have a5 : y2.cell? ⟨b1, 5, none⟩ = some (.slice p3 n3 c3) := cell_of_row y2 b1 5 _ 27 (0, 0) ah
  have az : b1 < y2.heap.size := (Array.getElem?_eq_some_iff.1 ah).1
  have HM := mayr_hid d1 (fun b h => h) av
  rw [hm] at HM
  unfold nodeC at HM
  clear ah av
  go_wp2_with fail
  refine (HM.out _ (Below.refl _ _)).mono ?_
  rintro _ y3 ⟨rfl, hb⟩
  have R' := Lib.hid (R1.out.up hb)
  clear R1 HM hb a0 a1 a2 a3 a4 a5 az
  have R1 := R'
  clear R'
  go_wp2_with fail
  go_ret
  exact ⟨rfl, R1.out.2.2.1⟩
theorem checkr_any {t : RT} {w : World} {ka : Int} {ua : Nat → Int} {pa : Option Addr} {na ca : Nat} (hw0 : 0 < w.heap.size) (hT : Tb w) (V1 : RV (fun b => b < w.heap.size) w t (.agg (nodeC ka ua (.slice pa na ca)))) (d1 : wid t ≤ 9223372036854775806) :
    Calls Tryd.prog 19 #[.agg #[.int .i64 ka, .int .u64 (ua 0), .int .u64 (ua 1), .int .u64 (ua 2), .int .u64 (ua 3), .slice pa na ca]] w fun e w' => e = .returned (.int .i64 (checkE t)) ∧ Below w.heap.size w w' := by
  unfold checkE
  by_cases h1 : 512 < sz t
  · rw [if_pos h1]; exact ckr_A hw0 hT V1 d1 (by omega)
  · rw [if_neg h1]
    by_cases h2 : 16 < dep t
    · rw [if_pos h2]; exact ckr_B hw0 hT V1 d1 rfl (by omega) (by omega) rfl (by omega)
    · rw [if_neg h2]
      cases hm : mayB t with
      | false => exact ckr_C hw0 hT V1 d1 rfl (by omega) (by omega) rfl (by omega) hm
      | true => exact ckr_D hw0 hT V1 d1 rfl (by omega) (by omega) rfl (by omega) hm
theorem checkr_hid {t : RT} (d1 : wid t ≤ 9223372036854775806) {y : World} {ka : Int} {ua : Nat → Int} {pa : Option Addr} {na ca : Nat} (hw0 : 0 < y.heap.size) (hT : Tb y) (h : RV (fun b => b < y.heap.size) y t (.agg (nodeC ka ua (.slice pa na ca)))) :
    Hid (∀ z, Below y.heap.size y z → Calls Tryd.prog 19 #[.agg (nodeC ka ua (.slice pa na ca))] z fun e w' => e = .returned (.int .i64 (checkE t)) ∧ Below z.heap.size z w') := Lib.hid fun z hb =>
  checkr_any (by have := hb.size; omega) (hT.mono (hb.block 0 hw0)) (RV.mono (fun b hl => Nat.lt_of_lt_of_le hl hb.size) (fun b _ hlt => hb.block b hlt) h) d1
end
section
/- A pattern as an argument. -/
open Go.ChangeShapes Go.WideShapes in
theorem open_reg5 {H : Type} {enc : TypeId × Value → H} {w : World} {r : Reach} {b0 : Nat} {held : Bool} {v : Value} {d : DataW H} {p : List MemPlace} (hv : Value.okWide Tryd.prog w r b0 27 v) (h : DataW.Trod enc Tryd.prog w 0 (fun _ => true) held 27 v d p) (hw : ∀ n ∈ d.weights Tryd.prog 27, n ≤ reachBytes) :
    ∃ (t : RT) (k : Int) (u : Nat → Int) (q : Option Addr) (n c : Nat), v = .agg #[.int .i64 k, .int .u64 (u 0), .int .u64 (u 1), .int .u64 (u 2), .int .u64 (u 3), .slice q n c] ∧ RV (fun b => b < w.heap.size) w t (.agg (nodeC k u (.slice q n c))) ∧ okT t ∧ wid t ≤ 9223372036854775806 := by
  obtain ⟨cs, rfl⟩ : ∃ cs, v = .agg cs := by
    have := hv
    simp [Value.okWide, Tryd.underlying27] at this
    obtain ⟨cs, h1, _⟩ := this
    exact ⟨cs, h1⟩
  obtain ⟨fuel, hf⟩ := h
  obtain ⟨t, ht, h2, h3, h4⟩ := tree_open fuel fuel (Nat.le_refl _) hf hw
  have e : (Value.agg cs).cells.toList.toArray = cs := by simp [Value.cells]
  rw [e] at ht
  obtain ⟨k, u, q, n, c, hk⟩ := ht.form
  have hcs : cs = nodeC k u (.slice q n c) := by injection hk
  subst hcs
  exact ⟨t, k, u, q, n, c, rfl, ht, h3, h2⟩
end
end Go.Proofs.YtmjojahkbjlcdaaDoor
