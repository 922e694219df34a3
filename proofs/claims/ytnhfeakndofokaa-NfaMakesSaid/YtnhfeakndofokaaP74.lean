/- Package nfa. -/
import Derived.Test.YtnhfeakndofokaaProg
import Derived.Test.YtnhfeakndofokaaY44
import Derived.Test.YtnhfeakndofokaaY13
import Derived.WalkKit
import Derived.WalkLawsBesides
import Derived.WalkSpells
import Derived.Outline
import Derived.Lib.Walk
import Derived.Lib.Hide
import Derived.Lib.Slices
import Derived.Lib.Strings
import Derived.RegionTactic
import Derived.LoopTactic
import Derived.Below
import Derived.IntWalk
import Derived.Deep.QuietTactic
import Derived.BigQuiet
import Derived.Deep.MidRow
import Derived.Maps.AppendAt
import Derived.Laws.Rows
import Derived.Laws.Tables
import Derived.Deep.WholeRow
import Derived.Deep.Cut
import Derived.Deep.CutRange
import Derived.Lib.SliceRun
import Derived.Laws.MakeOwn
import Derived.Deep.RegionLaw
import Derived.Deep.RegionLawGrows
import Derived.Deep.RegionHeld3
import Derived.RegionCalls
import Derived.Deep.RegionWith
import Derived.Deep.Light
namespace Go.Proofs.Ytnhfeakndofokaa
set_option linter.unusedSimpArgs false
set_option linter.unusedVariables false
set_option maxRecDepth 100000
open Go.RowKit
theorem size27r : (Try.prog.info? 56).map (·.size) = some 6 := (zero_of_info infoR).2

/- TwinReg: the walk. -/
theorem TW.form2 {D : Nat → Prop} {w : World} {t : RT} {v : Value} (h : TW D w t v) : ∃ (k : Int) (u : Nat → Int) (p : Option Addr) (n c : Nat), v = .agg #[.int .i64 k, .int .u64 (u 0), .int .u64 (u 1), .int .u64 (u 2), .int .u64 (u 3), .slice p n c] := h.form
def TwP (t : RT) (w : World) (e : Ending) (w' : World) : Prop := (∃ v', e = .returned v' ∧ TW (fun b => w.heap.size ≤ b ∧ b < w'.heap.size) w' t v') ∧ Below w.heap.size w w'
theorem twin_sz (w : World) (a b : Obj) : ((w.alloc a).alloc b).heap.size = w.heap.size + 2 := by simp
set_option maxHeartbeats 16000000 in
theorem twin_walk {D : Nat → Prop} {k : Int} {u : Nat → Int} {ps : List RT} {v : Value} {w : World} (hD : ∀ b, D b → b < w.heap.size) (hl : ps.length ≤ 1000000) (h : RV D w (.mk k u ps) v)
    (hI : Hid (∀ i (hi : i < ps.length) v w, RV D w ps[i] v → (∀ b, D b → b < w.heap.size) → Calls Try.prog 37 #[v] w (TwP ps[i] w))) :
    Calls Try.prog 37 #[v] w (TwP (.mk k u ps) w) := by
  obtain ⟨i0, hi, hz0, hz1, hz2⟩ := info_parts infoN6
  obtain ⟨p, c, rfl, hp⟩ := h.parts
  have HP := Lib.hid hp
  have hz := zero27l
  have HR := Lib.hid fun w' (hb : Below w.heap.size w w') i (hi : i < ps.length) => (hp (by intro e; subst e; simp at hi))
  clear h hp
  have B0 := Lib.hid (((Below.refl w.heap.size w).alloc (Nat.le_refl _) (.cells #[.int .i64 k, .int .u64 (u 0), .int .u64 (u 1), .int .u64 (u 2), .int .u64 (u 3), .slice p ps.length c] 56)).alloc (by simp) (.cells #[.int .i64 0, .int .u64 0, .int .u64 0, .int .u64 0, .int .u64 0, .slice none 0 0] 56) : Below w.heap.size w _)
  have X0 : Hid (((w.alloc (.cells #[.int .i64 k, .int .u64 (u 0), .int .u64 (u 1), .int .u64 (u 2), .int .u64 (u 3), .slice p ps.length c] 56)).alloc (.cells #[.int .i64 0, .int .u64 0, .int .u64 0, .int .u64 0, .int .u64 0, .slice none 0 0] 56)).heap[w.heap.size]? = some (.cells #[.int .i64 k, .int .u64 (u 0), .int .u64 (u 1), .int .u64 (u 2), .int .u64 (u 3), .slice p ps.length c] 56)) := Lib.hid (by
    rw [heap_alloc_old _ _ (by simp)]; exact heap_alloc_last w _)
  have Y0 : Hid (((w.alloc (.cells #[.int .i64 k, .int .u64 (u 0), .int .u64 (u 1), .int .u64 (u 2), .int .u64 (u 3), .slice p ps.length c] 56)).alloc (.cells #[.int .i64 0, .int .u64 0, .int .u64 0, .int .u64 0, .int .u64 0, .slice none 0 0] 56)).heap[w.heap.size + 1]? = some (.cells #[.int .i64 0, .int .u64 0, .int .u64 0, .int .u64 0, .int .u64 0, .slice none 0 0] 56)) := Lib.hid (by
    have := heap_alloc_last (w.alloc (.cells #[.int .i64 k, .int .u64 (u 0), .int .u64 (u 1), .int .u64 (u 2), .int .u64 (u 3), .slice p ps.length c] 56)) (.cells #[.int .i64 0, .int .u64 0, .int .u64 0, .int .u64 0, .int .u64 0, .slice none 0 0] 56)
    simpa using this)
  have hs0 := twin_sz w (.cells #[.int .i64 k, .int .u64 (u 0), .int .u64 (u 1), .int .u64 (u 2), .int .u64 (u 3), .slice p ps.length c] 56) (.cells #[.int .i64 0, .int .u64 0, .int .u64 0, .int .u64 0, .int .u64 0, .slice none 0 0] 56)
  go_enter Try.func37, Try.ntmps37
  go_wp2
  generalize ((w.alloc (.cells #[.int .i64 k, .int .u64 (u 0), .int .u64 (u 1), .int .u64 (u 2), .int .u64 (u 3), .slice p ps.length c] 56)).alloc (.cells #[.int .i64 0, .int .u64 0, .int .u64 0, .int .u64 0, .int .u64 0, .slice none 0 0] 56)) = ws at *
  go_loopw [3, 4] (fun sl i wr => ∃ j : Nat, j ≤ ps.length ∧ i = .int .i64 (j : Nat) ∧ w.heap.size + 2 ≤ wr.heap.size ∧ Hid (ThG (w.heap.size + 2) ((ps.take j).map twE) sl wr) ∧ Hid (Below w.heap.size w wr) ∧ Hid (wr.heap[w.heap.size]? = some (.cells #[.int .i64 k, .int .u64 (u 0), .int .u64 (u 1), .int .u64 (u 2), .int .u64 (u 3), .slice p ps.length c] 56)) ∧ Hid (wr.heap[w.heap.size + 1]? = some (.cells #[.int .i64 0, .int .u64 0, .int .u64 0, .int .u64 0, .int .u64 0, .slice none 0 0] 56))) (fun _ i _ => ps.length - (intOf i).toNat)
  case atStart => exact ⟨0, by omega, rfl, by omega, Lib.hid (ThG.nil _ _), B0, X0, Y0⟩
  case round =>
    obtain ⟨j, hj, rfl, hge, HT, HB, HX, HY⟩ := hrel
    clear B0 X0 Y0 hs0
    have c5 : wr.cell? ⟨w.heap.size, 5, none⟩ = some (.slice p ps.length c) := cell_of_row wr _ 5 _ 56 (0, 0) HX.out
    obtain ⟨a, cc, hsl⟩ := HT.out.slice
    have hlj : ((ps.take j).map twE).length = j := by simp; omega
    rw [hlj] at hsl
    subst hsl
    by_cases hlt : j < ps.length
    · have hlt3 : (j : Int) < ((ps.length : Nat) : Int) := by omega
      have hne : ps ≠ [] := by intro e; subst e; simp at hlt
      obtain ⟨b', o', rfl, hDb, hx⟩ := HP.out hne
      obtain ⟨k5, u5, p5, n5, c5', hv5, hc5⟩ := hx j hlt
      have hbw := hD b' hDb
      have cc5 : ∀ i y, (nodeC k5 u5 (.slice p5 n5 c5'))[i]? = some y → wr.cell? ⟨b', o' + j * 6 + i, none⟩ = some y := fun i y hy => by
        rw [HB.out.cell (p := ⟨b', o' + j * 6 + i, none⟩) hbw, ← hc5 i y hy, show o' + j * 6 + i = o' + (6 * j + i) by omega]
      have f0 : wr.cell? ⟨b', o' + j * 6, none⟩ = some (.int .i64 k5) := cc5 0 _ rfl
      have f1 : wr.cell? ⟨b', o' + j * 6 + 1, none⟩ = some (.int .u64 (u5 0)) := cc5 1 _ rfl
      have f2 : wr.cell? ⟨b', o' + j * 6 + 2, none⟩ = some (.int .u64 (u5 1)) := cc5 2 _ rfl
      have f3 : wr.cell? ⟨b', o' + j * 6 + 3, none⟩ = some (.int .u64 (u5 2)) := cc5 3 _ rfl
      have f4 : wr.cell? ⟨b', o' + j * 6 + 4, none⟩ = some (.int .u64 (u5 3)) := cc5 4 _ rfl
      have f5 : wr.cell? ⟨b', o' + j * 6 + 5, none⟩ = some (.slice p5 n5 c5') := cc5 5 _ rfl
      have HC := Lib.hid (hI.out j hlt _ wr (RV.mono (fun b h => h) (fun b hb _ => HB.out.block b (hD b hb)) hv5) (fun b hb => Nat.lt_of_lt_of_le (hD b hb) HB.out.size))
      clear cc5 hc5 hx hv5
      go_wp2_with fail
      refine HC.out.mono ?_
      rintro _ w7 ⟨⟨v', rfl, ht⟩, hb⟩
      obtain ⟨k6, u6, p6, n6, c6, rfl⟩ := ht.form2
      obtain ⟨hm0, xs, x1, x2, x3, x4⟩ := (HT.out.up hb)
      have hown := HT.out.own
      rw [hlj] at x4
      have X1 := Lib.hid x1
      have X2 := Lib.hid x2
      have X3 := Lib.hid x3
      have X4 := Lib.hid (World.ownsRow.alloc x4 (.cells #[.int .i64 k6, .int .u64 (u6 0), .int .u64 (u6 1), .int .u64 (u6 2), .int .u64 (u6 3), .slice p6 n6 c6] 56))
      have HC0 : Hid (∀ j u, (nodeC k6 u6 (.slice p6 n6 c6)).toList[j]? = some u → (w7.alloc (.cells #[.int .i64 k6, .int .u64 (u6 0), .int .u64 (u6 1), .int .u64 (u6 2), .int .u64 (u6 3), .slice p6 n6 c6] 56)).cell? ((⟨w7.heap.size, 0, none⟩ : Addr).add j) = some u) := Lib.hid fun j u hj => by
        rw [Addr.add_mid, cell_of_row _ w7.heap.size (0 + j) _ 56 (0, 0) (heap_alloc_last w7 _), Nat.zero_add]
        rw [Array.getElem?_toList] at hj; exact hj
      have HV := Lib.hid ht
      have HM0 := Lib.hid hm0
      have HO := Lib.hid hown
      have hwl := hb.size
      have HA : Hid (Below w7.heap.size w7 (w7.alloc (.cells #[.int .i64 k6, .int .u64 (u6 0), .int .u64 (u6 1), .int .u64 (u6 2), .int .u64 (u6 3), .slice p6 n6 c6] 56))) := Lib.hid ((Below.refl _ _).alloc (Nat.le_refl _) _)
      have HB7 := Lib.hid (HB.out.trans (hb.mono HB.out.size))
      have HX7 : Hid (w7.heap[w.heap.size]? = _) := Lib.hid ((hb.block w.heap.size (by omega)).trans HX.out)
      have HY7 : Hid (w7.heap[w.heap.size + 1]? = _) := Lib.hid ((hb.block (w.heap.size + 1) (by omega)).trans HY.out)
      clear x1 x2 x3 x4 ht hm0 hown hb HC HT HB HX HY f0 f1 f2 f3 f4 f5 c5
      go_wp2_with (at_builtin; refine wpList_append_own_at _ rfl (.tmp 13) (.tmp 20) 54 rfl (w.heap.size + 2) 56 i0 (.agg (nodeC 0 u0 (.slice none 0 0))) 6 64 Try.underlying54 hi hz0 hz1 hz2 rfl (by decide) (.slice a j cc) j (flat6 xs) rfl ?c0 ⟨w7.heap.size, 0, none⟩ 1 1 (nodeC k6 u6 (.slice p6 n6 c6)).toList rfl rfl ?c1 ?c2 ?c3 ?c4 ?c5 ?_)
      case c0 => exact X4.out
      case c1 => exact HC0.out
      case c2 => exact fun u hu => (Array.all_eq_true_iff_forall_mem.1 (nodeC_one k6 u6 p6 n6 c6)) u (by simpa using hu)
      case c3 => unfold maxLen; omega
      case c4 => omega
      case c5 => simp; omega
      intro v' w8 hown8 hgrow8 _ hat8
      have hbase := fun g (hg : (Value.slice a j cc).ownBlock = some g) => (World.ownsRow.lt X4.out g hg).1
      have htk : (ps.take (j + 1)).map twE = (ps.take j).map twE ++ [twE ps[j]] := by rw [List.take_succ_eq_append_getElem hlt, List.map_append]; rfl
      have hsz7 : (w7.alloc (.cells #[.int .i64 k6, .int .u64 (u6 0), .int .u64 (u6 1), .int .u64 (u6 2), .int .u64 (u6 3), .slice p6 n6 c6] 56)).heap.size = w7.heap.size + 1 := by simp
      have HTA : Hid (ThG (w.heap.size + 2) ((ps.take (j + 1)).map twE) v' w8) := Lib.hid (by
        rw [htk]
        exact ThG.app (lo := wr.heap.size) (w := w7) HM0.out (twE_mono _) rfl X1.out X2.out X3.out rfl hge (fun g hg => (HO.out g hg).2) HV.out (by rw [hlj]; exact hown8) hgrow8 (by rw [hsz7]; exact hat8))
      have HBA : Hid (Below w.heap.size w w8) := Lib.hid (below_grown6 (HB7.out.trans (HA.out.mono HB7.out.size)) hgrow8 (fun g hg => by have := hbase g hg; omega) (Nat.le_trans HB7.out.size HA.out.size))
      have HXA : Hid (w8.heap[w.heap.size]? = some (.cells #[.int .i64 k, .int .u64 (u 0), .int .u64 (u 1), .int .u64 (u 2), .int .u64 (u 3), .slice (some ⟨b', o', none⟩) ps.length c] 56)) := Lib.hid
        ((hgrow8.block _ (by omega) (fun e => by have := hbase _ e.symm; omega)).trans ((HA.out.block _ (by omega)).trans HX7.out))
      have HYA : Hid (w8.heap[w.heap.size + 1]? = some (.cells #[.int .i64 0, .int .u64 0, .int .u64 0, .int .u64 0, .int .u64 0, .slice none 0 0] 56)) := Lib.hid
        ((hgrow8.block _ (by omega) (fun e => by have := hbase _ e.symm; omega)).trans ((HA.out.block _ (by omega)).trans HY7.out))
      have hge8 : w.heap.size + 2 ≤ w8.heap.size := by have := hgrow8.size; omega
      clear hown8 hgrow8 hat8 hbase htk X1 X2 X3 X4 HC0 HV HA HM0 HO HB7 HX7 HY7 hsz7
      go_wp2_with fail
      go_roundw
      case rel => exact ⟨j + 1, by omega, by go_num, hge8, HTA, HBA, HXA, HYA⟩
      case measure => simp [intOf]; omega
    · obtain rfl : j = ps.length := by omega
      have hlt3 : ¬ ((ps.length : Nat) : Int) < ((ps.length : Nat) : Int) := by omega
      rw [List.take_length] at HT
      clear c5 hlj
      have c5 : wr.cell? ⟨w.heap.size, 5, none⟩ = some (.slice p ps.length c) := cell_of_row wr _ 5 _ 56 (0, 0) HX.out
      go_wp2_with fail
      go_loopw [3, 5] (fun sl i wq => ∃ m : Nat, m ≤ 3 ∧ i = .int .i64 (m : Nat) ∧ w.heap.size + 2 ≤ wq.heap.size ∧ Hid (ThG (w.heap.size + 2) (ps.map twE ++ ([mkE 0, mkE 1, mkE 2].take m)) sl wq) ∧ Hid (Below w.heap.size w wq) ∧ Hid (wq.heap[w.heap.size]? = some (.cells #[.int .i64 k, .int .u64 (u 0), .int .u64 (u 1), .int .u64 (u 2), .int .u64 (u 3), .slice p ps.length c] 56)) ∧ Hid (wq.heap[w.heap.size + 1]? = some (.cells #[.int .i64 0, .int .u64 0, .int .u64 0, .int .u64 0, .int .u64 0, .slice none 0 0] 56))) (fun _ i _ => 3 - (intOf i).toNat)
      case atStart => exact ⟨0, by omega, rfl, hge, by simpa using HT, HB, HX, HY⟩
      clear HT HB HX HY c5 hge hlt3 hlt
      case round =>
        obtain ⟨m, hm, rfl, hge, HT, HB, HX, HY⟩ := hrel
        obtain ⟨a, cc, hsl⟩ := HT.out.slice
        have hlm : (ps.map twE ++ ([mkE 0, mkE 1, mkE 2].take m)).length = ps.length + m := by simp; omega
        rw [hlm] at hsl
        subst hsl
        by_cases hlt : m < 3
        · have hmk : ∃ q : Int, markV m = nodeC q u0 (.slice none 0 0) ∧ q = -7000 - (m : Int) := ⟨_, rfl, rfl⟩
          obtain ⟨q, hq, hq2⟩ := hmk
          have hlt3 : (m : Int) < 3 := by omega
          have hqw : IntKind.i64.wrap (-7000 - (m : Int)) = q := by rw [IntWalk.i64_in _ (by omega)]; exact hq2.symm
          have hown := HT.out.own
          obtain ⟨hm0, xs, x1, x2, x3, x4⟩ := HT.out
          rw [hlm] at x4
          have X1 := Lib.hid x1
          have X2 := Lib.hid x2
          have X3 := Lib.hid x3
          have X4 := Lib.hid (World.ownsRow.alloc x4 (.cells #[.int .i64 q, .int .u64 0, .int .u64 0, .int .u64 0, .int .u64 0, .slice none 0 0] 56))
          have HC0 : Hid (∀ j u, (nodeC q u0 (.slice none 0 0)).toList[j]? = some u → (wr.alloc (.cells #[.int .i64 q, .int .u64 0, .int .u64 0, .int .u64 0, .int .u64 0, .slice none 0 0] 56)).cell? ((⟨wr.heap.size, 0, none⟩ : Addr).add j) = some u) := Lib.hid fun j u hj => by
            rw [Addr.add_mid, cell_of_row _ wr.heap.size (0 + j) _ 56 (0, 0) (heap_alloc_last wr _), Nat.zero_add]
            rw [Array.getElem?_toList] at hj; exact hj
          have HM0 := Lib.hid hm0
          have HO := Lib.hid hown
          have HQ := Lib.hid hq
          have HA : Hid (Below wr.heap.size wr (wr.alloc (.cells #[.int .i64 q, .int .u64 0, .int .u64 0, .int .u64 0, .int .u64 0, .slice none 0 0] 56))) := Lib.hid ((Below.refl _ _).alloc (Nat.le_refl _) _)
          clear x1 x2 x3 x4 hm0 hown HT hq hq2
          go_wp2_with (at_builtin; refine wpList_append_own_at _ rfl (.tmp 26) (.tmp 30) 54 rfl (w.heap.size + 2) 56 i0 (.agg (nodeC 0 u0 (.slice none 0 0))) 6 64 Try.underlying54 hi hz0 hz1 hz2 rfl (by decide) (.slice a (ps.length + m) cc) (ps.length + m) (flat6 xs) rfl ?c0 ⟨wr.heap.size, 0, none⟩ 1 1 (nodeC q u0 (.slice none 0 0)).toList rfl rfl ?c1 ?c2 ?c3 ?c4 ?c5 ?_)
          case c0 => exact X4.out
          case c1 => exact HC0.out
          case c2 => exact fun u hu => (Array.all_eq_true_iff_forall_mem.1 (nodeC_one q u0 none 0 0)) u (by simpa using hu)
          case c3 => unfold maxLen; omega
          case c4 => omega
          case c5 => simp; omega
          intro v' w8 hown8 hgrow8 _ hat8
          have hbase := fun g (hg : (Value.slice a (ps.length + m) cc).ownBlock = some g) => (World.ownsRow.lt X4.out g hg).1
          have htk : ps.map twE ++ ([mkE 0, mkE 1, mkE 2].take (m + 1)) = (ps.map twE ++ ([mkE 0, mkE 1, mkE 2].take m)) ++ [mkE m] := by
            rcases (by omega : m = 0 ∨ m = 1 ∨ m = 2) with rfl | rfl | rfl <;> simp
          have hsz7 : (wr.alloc (.cells #[.int .i64 q, .int .u64 0, .int .u64 0, .int .u64 0, .int .u64 0, .slice none 0 0] 56)).heap.size = wr.heap.size + 1 := by simp
          have HTA : Hid (ThG (w.heap.size + 2) (ps.map twE ++ ([mkE 0, mkE 1, mkE 2].take (m + 1))) v' w8) := Lib.hid (by
            rw [htk]
            exact ThG.app (lo := wr.heap.size) (w := wr) (x := nodeC q u0 (.slice none 0 0)) HM0.out (mkE_mono m) rfl X1.out X2.out X3.out rfl hge (fun g hg => (HO.out g hg).2) (show _ = markV m from HQ.out.symm) (by rw [hlm]; exact hown8) hgrow8 (by rw [hsz7]; exact hat8))
          have HBA : Hid (Below w.heap.size w w8) := Lib.hid (below_grown6 (HB.out.trans (HA.out.mono HB.out.size)) hgrow8 (fun g hg => by have := hbase g hg; omega) (Nat.le_trans HB.out.size HA.out.size))
          have HXA : Hid (w8.heap[w.heap.size]? = some (.cells #[.int .i64 k, .int .u64 (u 0), .int .u64 (u 1), .int .u64 (u 2), .int .u64 (u 3), .slice p ps.length c] 56)) := Lib.hid
            ((hgrow8.block _ (by omega) (fun e => by have := hbase _ e.symm; omega)).trans ((HA.out.block _ (by omega)).trans HX.out))
          have HYA : Hid (w8.heap[w.heap.size + 1]? = some (.cells #[.int .i64 0, .int .u64 0, .int .u64 0, .int .u64 0, .int .u64 0, .slice none 0 0] 56)) := Lib.hid
            ((hgrow8.block _ (by omega) (fun e => by have := hbase _ e.symm; omega)).trans ((HA.out.block _ (by omega)).trans HY.out))
          have hge8 : w.heap.size + 2 ≤ w8.heap.size := by have := hgrow8.size; omega
          clear hown8 hgrow8 hat8 hbase htk X1 X2 X3 X4 HC0 HA HM0 HO HQ HX HY HB hsz7
          go_wp2_with fail
          go_roundw
          case rel => exact ⟨m + 1, by omega, by go_num, hge8, HTA, HBA, HXA, HYA⟩
          case measure => simp [intOf]; omega
        · obtain rfl : m = 3 := by omega
          obtain ⟨g, cap, hsl, hcap, hbg, hgl, htw⟩ := HT.out.twin k u
          have ha : a = some ⟨g, 0, none⟩ ∧ cc = cap := by simpa using hsl
          obtain ⟨rfl, rfl⟩ := ha
          have HW := Lib.hid htw
          have c0 : wr.cell? ⟨w.heap.size, 0, none⟩ = some (.int .i64 k) := cell_of_row wr _ 0 _ 56 (0, 0) HX.out
          have c1 : wr.cell? ⟨w.heap.size, 1, none⟩ = some (.int .u64 (u 0)) := cell_of_row wr _ 1 _ 56 (0, 0) HX.out
          have c2 : wr.cell? ⟨w.heap.size, 2, none⟩ = some (.int .u64 (u 1)) := cell_of_row wr _ 2 _ 56 (0, 0) HX.out
          have c3 : wr.cell? ⟨w.heap.size, 3, none⟩ = some (.int .u64 (u 2)) := cell_of_row wr _ 3 _ 56 (0, 0) HX.out
          have c4 : wr.cell? ⟨w.heap.size, 4, none⟩ = some (.int .u64 (u 3)) := cell_of_row wr _ 4 _ 56 (0, 0) HX.out
          have c5 : wr.cell? ⟨w.heap.size, 5, none⟩ = some (.slice p ps.length c) := cell_of_row wr _ 5 _ 56 (0, 0) HX.out
          have z5 : wr.frozen? ⟨w.heap.size, 5, none⟩ = false := frozen_of_row wr _ 5 _ 56 HX.out
          have i1 : ((ps.length : Nat) : Int) ≤ (cc : Int) := by omega
          have i0' : (0 : Int) ≤ ((ps.length : Nat) : Int) := by omega
          have SB0 : Sb w wr [(w.heap.size, .cells #[.int .i64 k, .int .u64 (u 0), .int .u64 (u 1), .int .u64 (u 2), .int .u64 (u 3), .slice p ps.length c] 56), (w.heap.size + 1, .cells #[.int .i64 0, .int .u64 0, .int .u64 0, .int .u64 0, .int .u64 0, .slice none 0 0] 56)] := ⟨HB.out, by
            intro x hx
            simp only [List.mem_cons, List.mem_nil_iff, or_false] at hx
            rcases hx with rfl | rfl
            · exact ⟨Nat.le_refl _, HX.out⟩
            · exact ⟨Nat.le_succ _, HY.out⟩⟩
          have SB1 := SB0.set (i := 5) (.slice (some ⟨g, 0, none⟩) ps.length cc) (by simp)
          have SB2 := Lib.hid (SB1.sub (M := [(w.heap.size + 1, .cells #[.int .i64 0, .int .u64 0, .int .u64 0, .int .u64 0, .int .u64 0, .slice none 0 0] 56)]) (by simp))
          have HY2 := Lib.hid SB2.out.heap
          have SB3 := Lib.hid (SB2.out.setRow (cs' := nodeC k u (.slice (some ⟨g, 0, none⟩) ps.length cc)) (by simp))
          have HZ : Hid (∀ b, w.heap.size + 2 ≤ b → ((wr.setCell ⟨w.heap.size, 5, none⟩ (.slice (some ⟨g, 0, none⟩) ps.length cc)).setRow (w.heap.size + 1) (nodeC k u (.slice (some ⟨g, 0, none⟩) ps.length cc))).heap[b]? = wr.heap[b]?) := Lib.hid fun b hb => by
            rw [setRow_other _ (w.heap.size + 1) b _ (by omega)]
            exact setCells_other (b := w.heap.size) (by omega) [.slice (some ⟨g, 0, none⟩) ps.length cc] 5 wr
          have hfs : ((wr.setCell ⟨w.heap.size, 5, none⟩ (.slice (some ⟨g, 0, none⟩) ps.length cc)).setRow (w.heap.size + 1) (nodeC k u (.slice (some ⟨g, 0, none⟩) ps.length cc))).heap.size = wr.heap.size := by simp
          clear htw hsl HT SB0 SB1
          go_wp2_with (refine wpList_store_row rfl 56 (.tmp 2) (.tmp 38) rfl (w.heap.size + 1) (nodeC k u (.slice (some ⟨g, 0, none⟩) ps.length cc)) rfl rfl 56 _ HY2.out size27r rfl (nodeC_one _ _ _ _ _) ?_)
          refine bodyPost_ret (v := .agg (nodeC k u (.slice (some ⟨g, 0, none⟩) ps.length cc))) (results_cell_row rfl _ _ (w.heap.size + 1) 56 _ (0, 0) _ rfl (setRow_heap _ (w.heap.size + 1) _ _ 56 (0, 0) HY2.out) Try.underlying56 rfl size27r) rfl ⟨⟨_, rfl, ?_⟩, SB3.out.1⟩
          refine TW.mono (fun b hb => ?_) (fun b hb _ => HZ.out b hb.1) HW.out
          rw [hfs]
          omega
end Go.Proofs.Ytnhfeakndofokaa
