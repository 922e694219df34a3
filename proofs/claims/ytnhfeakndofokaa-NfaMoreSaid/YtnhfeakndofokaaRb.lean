/- Package nfa. -/
import Derived.Test.YtnhfeakndofokaaProg
import Derived.Test.YtnhfeakndofokaaBg
import Derived.WalkKit
import Derived.WalkLawsBesides
import Derived.WalkSpells
import Derived.Outline
import Derived.Lib.Walk
import Derived.Lib.Hide
import Derived.Lib.Slices
import Derived.Lib.Strings
import Derived.RegionTactic
import Derived.LoopTactic
import Derived.Below
import Derived.IntWalk
import Derived.Deep.QuietTactic
import Derived.BigQuiet
import Derived.Deep.MidRow
import Derived.Maps.AppendAt
import Derived.Laws.Rows
import Derived.Laws.Tables
import Derived.Deep.WholeRow
import Derived.Deep.Cut
import Derived.Deep.CutRange
import Derived.Lib.SliceRun
import Derived.Laws.MakeOwn
import Derived.Deep.RegionLaw
import Derived.Deep.RegionLawGrows
import Derived.Deep.RegionHeld3
import Derived.RegionCalls
import Derived.Deep.RegionWith
import Derived.Deep.Light
namespace Go.Proofs.Ytnhfeakndofokaa
set_option linter.unusedSimpArgs false
set_option linter.unusedVariables false
set_option maxRecDepth 100000
open Go.RowKit
/- RulesBig of whatever rules. -/
theorem TB.nil {w0 w : World} {D : Nat → Prop} {sl : Value} (h : w.ownsRow w0.heap.size 56 6 sl 0 []) : TB w0 D [] sl w := ⟨[], rfl, by simp, by simp, h⟩
theorem TB.tree {w0 w : World} {D : Nat → Prop} {ts : List RT} {sl : Value} (hD : ∀ b, D b → b < w0.heap.size) (hb : Below w0.heap.size w0 w) (h : TB w0 D ts sl w) : RV (fun b => b < w.heap.size) w (.mk 0 u0 ts) (.agg (nodeC 0 u0 sl)) := by
  obtain ⟨xs, h1, h2, h3, h4⟩ := h
  have h6 := nodes_six h2
  have hs := hb.size
  rcases h4.2 with ⟨hv, hn⟩ | ⟨g, cap, cur, hv, hg, hh, hc1, hc2, hc3, hc4⟩
  · subst hv
    obtain rfl : ts = [] := List.eq_nil_of_length_eq_zero hn
    exact .leaf 0 u0 none 0
  · subst hv
    by_cases hne : ts = []
    · subst hne; exact .leaf 0 u0 _ _
    · exact .node 0 u0 ts g 0 cap (fun i => if h : i < xs.length then xs[i] else #[]) (Array.getElem?_eq_some_iff.1 hh).1 hne (fun i hi => by
        rw [dif_pos (by omega)]
        exact (h3 i hi (by omega)).mono (fun b h => by have := hD b h; omega) (fun b h _ => hb.block b (hD b h))) (fun i hi j hj => by
        have hx6 := h6 xs[i] (List.getElem_mem (by omega))
        refine ⟨(xs[i]'(by omega))[j]'(by omega), by rw [dif_pos (by omega)]; exact Array.getElem?_eq_getElem (by omega), ?_⟩
        have h7 := flat6_get xs h6 i (by omega) j hj
        rw [cell_of_row w g _ _ 56 (0, 0) hh, Nat.zero_add, ← Array.getElem?_eq_getElem (by omega), ← h7, ← hc4, List.getElem?_take_of_lt (by omega), Array.getElem?_toList])
theorem widL_hw : ∀ {ts : List RT}, (∀ t ∈ ts, wid t ≤ 9223372036854775806) → widL ts ≤ 9223372036854775806
  | [], _ => by simp [widL]
  | t :: r, h => by
    have h1 := widL_hw (ts := r) fun x hx => h x (List.mem_cons_of_mem _ hx)
    have h2 := h t (List.mem_cons_self ..)
    simp only [widL]; omega
set_option maxHeartbeats 8000000 in
theorem rulesbig_any {D : Nat → Prop} {w : World} {ts : List RT} {q : Option Addr} {f : Nat} (m : Nat) (hm : m ≤ 1000000) (hD : ∀ b, D b → b < w.heap.size) (hR : RuV D w ts (.slice q ts.length f)) (hln : ts.length ≤ 9223372036854775806) (hwid : ∀ t ∈ ts, wid t ≤ 9223372036854775806) :
    Calls Try.prog 19 #[.slice q ts.length f, .int .i64 (m : Nat)] w fun e w' => e = .returned (.bool (decide (m < ts.length) || decide (m < szL ts + 1))) ∧ Below w.heap.size w w' := by
  obtain ⟨i0, hi, hz0, hz1, hz2⟩ := info_parts infoN6
  have HR := Lib.hid hR
  have HD := Lib.hid hD
  have HWID := Lib.hid hwid
  have hz := zero27r
  clear hR hD hwid
  by_cases hbg : m < ts.length
  · have hbg2 : ((m : Nat) : Int) < ((ts.length : Nat) : Int) := by omega
    rw [decide_eq_true hbg, Bool.true_or]
    go_enter Try.func19, Try.ntmps19
    go_wp2_with fail
    go_ret
    exact ⟨rfl, Below.refl _ _⟩
  have hbg2 : ¬ ((m : Nat) : Int) < ((ts.length : Nat) : Int) := by omega
  rw [decide_eq_false hbg, Bool.false_or]
  go_enter Try.func19, Try.ntmps19
  go_wp2_with (at_make; refine wpList_make_own _ rfl (.const (.int .i64 0)) (.tmp 12) 54 rfl w.heap.size 56 i0 (.agg (nodeC 0 u0 (.slice none 0 0))) 6 Try.underlying54 hi hz0 hz1 .i64 .i64 _ ts.length rfl rfl ?k1 ?k2 ?k3 ?k4 ?_)
  case k1 => rfl
  case k2 => omega
  case k3 => unfold maxLen; omega
  intro wa howna hgrowa
  have HT0 : Hid (TB w D (ts.take 0) (.slice (some ⟨w.heap.size, 0, none⟩) 0 ts.length) wa) := Lib.hid (TB.nil howna)
  have HB0 : Hid (Below w.heap.size w wa) := Lib.hid (below_grown6 (Below.refl _ _) hgrowa (fun g h => by cases h) (Nat.le_refl _))
  clear howna hgrowa
  go_wp2_with fail
  go_loopw [5, 6] (fun sl i wr => ∃ j : Nat, i = .int .i64 (j : Nat) ∧ j ≤ ts.length ∧ Hid (TB w D (ts.take j) sl wr) ∧ Hid (Below w.heap.size w wr)) (fun _ i _ => ts.length - (intOf i).toNat)
  case atStart => exact ⟨0, rfl, by omega, HT0, HB0⟩
  case round =>
    obtain ⟨j, rfl, hj, HT, HB⟩ := hrel
    clear HT0 HB0
    obtain ⟨a, cc, hsl⟩ := HT.out.sl
    have hlj : (ts.take j).length = j := by simp; omega
    rw [hlj] at hsl
    subst hsl
    by_cases hlt : j < ts.length
    · have hltI : (j : Int) < ((ts.length : Nat) : Int) := by omega
      have hjI : ¬ (j : Int) < 0 := by omega
      obtain ⟨q', f', he, hh⟩ := HR.out
      cases he
      obtain ⟨b, o, rfl, hDb, hx⟩ := hh (by intro e; subst e; simp at hlt)
      obtain ⟨kd, k5, u5, p5, n5, c5', hv5, hcell⟩ := hx j hlt
      have hbw := HD.out b hDb
      have ce : ∀ i y, (#[.int .i64 kd, .int .i64 k5, .int .u64 (u5 0), .int .u64 (u5 1), .int .u64 (u5 2), .int .u64 (u5 3), .slice p5 n5 c5'] : Array Value)[i]? = some y → wr.cell? ⟨b, o + j * 7 + i, none⟩ = some y := fun i y hy => (cell_same (HB.out.block b hbw) _).trans (hcell i y hy)
      have d1 : wr.cell? ⟨b, o + j * 7 + 1, none⟩ = some (.int .i64 k5) := ce 1 _ rfl
      have d2 : wr.cell? ⟨b, o + j * 7 + 2, none⟩ = some (.int .u64 (u5 0)) := ce 2 _ rfl
      have d3 : wr.cell? ⟨b, o + j * 7 + 3, none⟩ = some (.int .u64 (u5 1)) := ce 3 _ rfl
      have d4 : wr.cell? ⟨b, o + j * 7 + 4, none⟩ = some (.int .u64 (u5 2)) := ce 4 _ rfl
      have d5 : wr.cell? ⟨b, o + j * 7 + 5, none⟩ = some (.int .u64 (u5 3)) := ce 5 _ rfl
      have d6 : wr.cell? ⟨b, o + j * 7 + 6, none⟩ = some (.slice p5 n5 c5') := ce 6 _ rfl
      obtain ⟨xs, x1, x2, x3, x4⟩ := HT.out
      rw [hlj] at x4
      have X1 := Lib.hid x1
      have X2 := Lib.hid x2
      have X3 := Lib.hid x3
      have X4 := Lib.hid (World.ownsRow.alloc x4 (.cells #[.int .i64 k5, .int .u64 (u5 0), .int .u64 (u5 1), .int .u64 (u5 2), .int .u64 (u5 3), .slice p5 n5 c5'] 56))
      have HC0 : Hid (∀ j u, (nodeC k5 u5 (.slice p5 n5 c5')).toList[j]? = some u → (wr.alloc (.cells #[.int .i64 k5, .int .u64 (u5 0), .int .u64 (u5 1), .int .u64 (u5 2), .int .u64 (u5 3), .slice p5 n5 c5'] 56)).cell? ((⟨wr.heap.size, 0, none⟩ : Addr).add j) = some u) := Lib.hid fun j u hj => by
        rw [Addr.add_mid, cell_of_row _ wr.heap.size (0 + j) _ 56 (0, 0) (heap_alloc_last wr _), Nat.zero_add]
        rw [Array.getElem?_toList] at hj; exact hj
      have HV5 := Lib.hid hv5
      have hwl := HB.out.size
      have HA : Hid (Below wr.heap.size wr (wr.alloc (.cells #[.int .i64 k5, .int .u64 (u5 0), .int .u64 (u5 1), .int .u64 (u5 2), .int .u64 (u5 3), .slice p5 n5 c5'] 56))) := Lib.hid ((Below.refl _ _).alloc (Nat.le_refl _) _)
      clear ce hcell hx hh x1 x2 x3 x4 hv5
      go_wp2_with (at_builtin; refine wpList_append_own_at _ rfl (.tmp 20) (.tmp 26) 54 rfl w.heap.size 56 i0 (.agg (nodeC 0 u0 (.slice none 0 0))) 6 64 Try.underlying54 hi hz0 hz1 hz2 rfl (by decide) (.slice a j cc) j (flat6 xs) rfl ?c0 ⟨wr.heap.size, 0, none⟩ 1 1 (nodeC k5 u5 (.slice p5 n5 c5')).toList rfl rfl ?c1 ?c2 ?c3 ?c4 ?c5 ?_)
      case c0 => exact X4.out
      case c1 => exact fun j u hu => by rw [← Array.getElem?_toList] at hu; exact hu
      case c2 => exact fun u hu => (Array.all_eq_true_iff_forall_mem.1 (nodeC_one k5 u5 p5 n5 c5')) u (by simpa using hu)
      case c3 => unfold maxLen; omega
      case c4 => omega
      case c5 => exact Nat.le_trans hwl (by simp)
      intro v' w7 hown7 hgrow7 _ hat7
      have hbase := fun g (hg : (Value.slice a j cc).ownBlock = some g) => (World.ownsRow.lt X4.out g hg).1
      have htk : ts.take (j + 1) = ts.take j ++ [ts[j]] := List.take_succ_eq_append_getElem hlt
      have HTA : Hid (TB w D (ts.take (j + 1)) v' w7) := Lib.hid (by
        rw [htk]
        exact TB.app X1.out X2.out X3.out HV5.out (by rw [hlj]; exact hown7))
      have HBA : Hid (Below w.heap.size w w7) := Lib.hid (below_grown6 (HB.out.trans (HA.out.mono hwl)) hgrow7 hbase (Nat.le_trans hwl HA.out.size))
      clear hown7 hgrow7 hat7 hbase htk X1 X2 X3 X4 HC0 HV5 HT HB HA d1 d2 d3 d4 d5 d6
      go_wp2_with fail
      go_roundw
      case rel => exact ⟨j + 1, by go_num, by omega, HTA, HBA⟩
      case measure => simp [intOf]; omega
    · obtain rfl : j = ts.length := by omega
      have hltI : ¬ ((ts.length : Nat) : Int) < ((ts.length : Nat) : Int) := by omega
      rw [List.take_length] at HT
      have HBG := Lib.hid (rbig_any (w := wr) m hm (t := .mk 0 u0 ts) (by have := widL_hw HWID.out; simp only [wid]; omega) (fun _ h => h) (HT.out.tree HD.out HB.out))
      rw [show sz (.mk 0 u0 ts) = szL ts + 1 by rw [sz]] at HBG
      unfold nodeC u0 at HBG
      go_wp2_with fail
      refine (HBG.out).mono ?_
      rintro _ y ⟨rfl, hb⟩
      have HE := Lib.hid (HB.out.trans (hb.mono HB.out.size))
      clear hb
      go_wp2_with fail
      go_ret
      exact ⟨rfl, HE.out⟩
end Go.Proofs.Ytnhfeakndofokaa
