/- Texts of package regs, one behind the other. -/
import Derived.Test.YtnhfeakndofokaaProg
import Derived.Test.YtnhfeakndofokaaBg
import Derived.WalkKit
import Derived.WalkLawsBesides
import Derived.WalkSpells
import Derived.Outline
import Derived.Lib.Walk
import Derived.Lib.Hide
import Derived.Lib.Slices
import Derived.Lib.Strings
import Derived.RegionTactic
import Derived.LoopTactic
import Derived.Below
import Derived.IntWalk
import Derived.Deep.QuietTactic
import Derived.BigQuiet
import Derived.Deep.MidRow
import Derived.Maps.AppendAt
import Derived.Laws.Rows
import Derived.Laws.Tables
import Derived.Deep.WholeRow
import Derived.Deep.Cut
import Derived.Deep.CutRange
import Derived.Lib.SliceRun
import Derived.Laws.MakeOwn
import Derived.Deep.RegionLaw
import Derived.Deep.RegionLawGrows
import Derived.Deep.RegionHeld3
import Derived.RegionCalls
import Derived.Deep.RegionWith
import Derived.Deep.Light
import Derived.Test.YtnhfeakndofokaaY21
section
/- Package nfa. -/
namespace Go.Proofs.Ytnhfeakndofokaa
set_option linter.unusedSimpArgs false
set_option linter.unusedVariables false
set_option maxRecDepth 100000
open Go.RowKit
/- RulesBig of whatever rules. -/
theorem TB.nil {w0 w : World} {D : Nat → Prop} {sl : Value} (h : w.ownsRow w0.heap.size 56 6 sl 0 []) : TB w0 D [] sl w := ⟨[], rfl, by simp, by simp, h⟩
theorem TB.tree {w0 w : World} {D : Nat → Prop} {ts : List RT} {sl : Value} (hD : ∀ b, D b → b < w0.heap.size) (hb : Below w0.heap.size w0 w) (h : TB w0 D ts sl w) : RV (fun b => b < w.heap.size) w (.mk 0 u0 ts) (.agg (nodeC 0 u0 sl)) := by
  obtain ⟨xs, h1, h2, h3, h4⟩ := h
  have h6 := nodes_six h2
  have hs := hb.size
  rcases h4.2 with ⟨hv, hn⟩ | ⟨g, cap, cur, hv, hg, hh, hc1, hc2, hc3, hc4⟩
  · subst hv
    obtain rfl : ts = [] := List.eq_nil_of_length_eq_zero hn
    exact .leaf 0 u0 none 0
  · subst hv
    by_cases hne : ts = []
    · subst hne; exact .leaf 0 u0 _ _
    · exact .node 0 u0 ts g 0 cap (fun i => if h : i < xs.length then xs[i] else #[]) (Array.getElem?_eq_some_iff.1 hh).1 hne (fun i hi => by
        rw [dif_pos (by omega)]
        exact (h3 i hi (by omega)).mono (fun b h => by have := hD b h; omega) (fun b h _ => hb.block b (hD b h))) (fun i hi j hj => by
        have hx6 := h6 xs[i] (List.getElem_mem (by omega))
        refine ⟨(xs[i]'(by omega))[j]'(by omega), by rw [dif_pos (by omega)]; exact Array.getElem?_eq_getElem (by omega), ?_⟩
        have h7 := flat6_get xs h6 i (by omega) j hj
        rw [cell_of_row w g _ _ 56 (0, 0) hh, Nat.zero_add, ← Array.getElem?_eq_getElem (by omega), ← h7, ← hc4, List.getElem?_take_of_lt (by omega), Array.getElem?_toList])
theorem widL_hw : ∀ {ts : List RT}, (∀ t ∈ ts, wid t ≤ 9223372036854775806) → widL ts ≤ 9223372036854775806
  | [], _ => by simp [widL]
  | t :: r, h => by
    have h1 := widL_hw (ts := r) fun x hx => h x (List.mem_cons_of_mem _ hx)
    have h2 := h t (List.mem_cons_self ..)
    simp only [widL]; omega
set_option maxHeartbeats 8000000 in
theorem rulesbig_any {D : Nat → Prop} {w : World} {ts : List RT} {q : Option Addr} {f : Nat} (m : Nat) (hm : m ≤ 1000000) (hD : ∀ b, D b → b < w.heap.size) (hR : RuV D w ts (.slice q ts.length f)) (hln : ts.length ≤ 9223372036854775806) (hwid : ∀ t ∈ ts, wid t ≤ 9223372036854775806) :
    Calls Try.prog 19 #[.slice q ts.length f, .int .i64 (m : Nat)] w fun e w' => e = .returned (.bool (decide (m < ts.length) || decide (m < szL ts + 1))) ∧ Below w.heap.size w w' := by
  obtain ⟨i0, hi, hz0, hz1, hz2⟩ := info_parts infoN6
  have HR := Lib.hid hR
  have HD := Lib.hid hD
  have HWID := Lib.hid hwid
  have hz := zero27r
  clear hR hD hwid
  by_cases hbg : m < ts.length
  · have hbg2 : ((m : Nat) : Int) < ((ts.length : Nat) : Int) := by omega
    rw [decide_eq_true hbg, Bool.true_or]
    go_enter Try.func19, Try.ntmps19
    go_wp2_with fail
    go_ret
    exact ⟨rfl, Below.refl _ _⟩
  have hbg2 : ¬ ((m : Nat) : Int) < ((ts.length : Nat) : Int) := by omega
  rw [decide_eq_false hbg, Bool.false_or]
  go_enter Try.func19, Try.ntmps19
  go_wp2_with (at_make; refine wpList_make_own _ rfl (.const (.int .i64 0)) (.tmp 12) 54 rfl w.heap.size 56 i0 (.agg (nodeC 0 u0 (.slice none 0 0))) 6 Try.underlying54 hi hz0 hz1 .i64 .i64 _ ts.length rfl rfl ?k1 ?k2 ?k3 ?k4 ?_)
  case k1 => rfl
  case k2 => omega
  case k3 => unfold maxLen; omega
  intro wa howna hgrowa
  have HT0 : Hid (TB w D (ts.take 0) (.slice (some ⟨w.heap.size, 0, none⟩) 0 ts.length) wa) := Lib.hid (TB.nil howna)
  have HB0 : Hid (Below w.heap.size w wa) := Lib.hid (below_grown6 (Below.refl _ _) hgrowa (fun g h => by cases h) (Nat.le_refl _))
  clear howna hgrowa
  go_wp2_with fail
  go_loopw [5, 6] (fun sl i wr => ∃ j : Nat, i = .int .i64 (j : Nat) ∧ j ≤ ts.length ∧ Hid (TB w D (ts.take j) sl wr) ∧ Hid (Below w.heap.size w wr)) (fun _ i _ => ts.length - (intOf i).toNat)
  case atStart => exact ⟨0, rfl, by omega, HT0, HB0⟩
  case round =>
    obtain ⟨j, rfl, hj, HT, HB⟩ := hrel
    clear HT0 HB0
    obtain ⟨a, cc, hsl⟩ := HT.out.sl
    have hlj : (ts.take j).length = j := by simp; omega
    rw [hlj] at hsl
    subst hsl
    by_cases hlt : j < ts.length
    · have hltI : (j : Int) < ((ts.length : Nat) : Int) := by omega
      have hjI : ¬ (j : Int) < 0 := by omega
      obtain ⟨q', f', he, hh⟩ := HR.out
      cases he
      obtain ⟨b, o, rfl, hDb, hx⟩ := hh (by intro e; subst e; simp at hlt)
      obtain ⟨kd, k5, u5, p5, n5, c5', hv5, hcell⟩ := hx j hlt
      have hbw := HD.out b hDb
      have ce : ∀ i y, (#[.int .i64 kd, .int .i64 k5, .int .u64 (u5 0), .int .u64 (u5 1), .int .u64 (u5 2), .int .u64 (u5 3), .slice p5 n5 c5'] : Array Value)[i]? = some y → wr.cell? ⟨b, o + j * 7 + i, none⟩ = some y := fun i y hy => (cell_same (HB.out.block b hbw) _).trans (hcell i y hy)
      have d1 : wr.cell? ⟨b, o + j * 7 + 1, none⟩ = some (.int .i64 k5) := ce 1 _ rfl
      have d2 : wr.cell? ⟨b, o + j * 7 + 2, none⟩ = some (.int .u64 (u5 0)) := ce 2 _ rfl
      have d3 : wr.cell? ⟨b, o + j * 7 + 3, none⟩ = some (.int .u64 (u5 1)) := ce 3 _ rfl
      have d4 : wr.cell? ⟨b, o + j * 7 + 4, none⟩ = some (.int .u64 (u5 2)) := ce 4 _ rfl
      have d5 : wr.cell? ⟨b, o + j * 7 + 5, none⟩ = some (.int .u64 (u5 3)) := ce 5 _ rfl
      have d6 : wr.cell? ⟨b, o + j * 7 + 6, none⟩ = some (.slice p5 n5 c5') := ce 6 _ rfl
      obtain ⟨xs, x1, x2, x3, x4⟩ := HT.out
      rw [hlj] at x4
      have X1 := Lib.hid x1
      have X2 := Lib.hid x2
      have X3 := Lib.hid x3
      have X4 := Lib.hid (World.ownsRow.alloc x4 (.cells #[.int .i64 k5, .int .u64 (u5 0), .int .u64 (u5 1), .int .u64 (u5 2), .int .u64 (u5 3), .slice p5 n5 c5'] 56))
      have HC0 : Hid (∀ j u, (nodeC k5 u5 (.slice p5 n5 c5')).toList[j]? = some u → (wr.alloc (.cells #[.int .i64 k5, .int .u64 (u5 0), .int .u64 (u5 1), .int .u64 (u5 2), .int .u64 (u5 3), .slice p5 n5 c5'] 56)).cell? ((⟨wr.heap.size, 0, none⟩ : Addr).add j) = some u) := Lib.hid fun j u hj => by
        rw [Addr.add_mid, cell_of_row _ wr.heap.size (0 + j) _ 56 (0, 0) (heap_alloc_last wr _), Nat.zero_add]
        rw [Array.getElem?_toList] at hj; exact hj
      have HV5 := Lib.hid hv5
      have hwl := HB.out.size
      have HA : Hid (Below wr.heap.size wr (wr.alloc (.cells #[.int .i64 k5, .int .u64 (u5 0), .int .u64 (u5 1), .int .u64 (u5 2), .int .u64 (u5 3), .slice p5 n5 c5'] 56))) := Lib.hid ((Below.refl _ _).alloc (Nat.le_refl _) _)
      clear ce hcell hx hh x1 x2 x3 x4 hv5
      go_wp2_with (at_builtin; refine wpList_append_own_at _ rfl (.tmp 20) (.tmp 26) 54 rfl w.heap.size 56 i0 (.agg (nodeC 0 u0 (.slice none 0 0))) 6 64 Try.underlying54 hi hz0 hz1 hz2 rfl (by decide) (.slice a j cc) j (flat6 xs) rfl ?c0 ⟨wr.heap.size, 0, none⟩ 1 1 (nodeC k5 u5 (.slice p5 n5 c5')).toList rfl rfl ?c1 ?c2 ?c3 ?c4 ?c5 ?_)
      case c0 => exact X4.out
      case c1 => exact fun j u hu => by rw [← Array.getElem?_toList] at hu; exact hu
      case c2 => exact fun u hu => (Array.all_eq_true_iff_forall_mem.1 (nodeC_one k5 u5 p5 n5 c5')) u (by simpa using hu)
      case c3 => unfold maxLen; omega
      case c4 => omega
      case c5 => exact Nat.le_trans hwl (by simp)
      intro v' w7 hown7 hgrow7 _ hat7
      have hbase := fun g (hg : (Value.slice a j cc).ownBlock = some g) => (World.ownsRow.lt X4.out g hg).1
      have htk : ts.take (j + 1) = ts.take j ++ [ts[j]] := List.take_succ_eq_append_getElem hlt
      have HTA : Hid (TB w D (ts.take (j + 1)) v' w7) := Lib.hid (by
        rw [htk]
        exact TB.app X1.out X2.out X3.out HV5.out (by rw [hlj]; exact hown7))
      have HBA : Hid (Below w.heap.size w w7) := Lib.hid (below_grown6 (HB.out.trans (HA.out.mono hwl)) hgrow7 hbase (Nat.le_trans hwl HA.out.size))
      clear hown7 hgrow7 hat7 hbase htk X1 X2 X3 X4 HC0 HV5 HT HB HA d1 d2 d3 d4 d5 d6
      go_wp2_with fail
      go_roundw
      case rel => exact ⟨j + 1, by go_num, by omega, HTA, HBA⟩
      case measure => simp [intOf]; omega
    · obtain rfl : j = ts.length := by omega
      have hltI : ¬ ((ts.length : Nat) : Int) < ((ts.length : Nat) : Int) := by omega
      rw [List.take_length] at HT
      have HBG := Lib.hid (rbig_any (w := wr) m hm (t := .mk 0 u0 ts) (by have := widL_hw HWID.out; simp only [wid]; omega) (fun _ h => h) (HT.out.tree HD.out HB.out))
      rw [show sz (.mk 0 u0 ts) = szL ts + 1 by rw [sz]] at HBG
      unfold nodeC u0 at HBG
      go_wp2_with fail
      refine (HBG.out).mono ?_
      rintro _ y ⟨rfl, hb⟩
      have HE := Lib.hid (HB.out.trans (hb.mono HB.out.size))
      clear hb
      go_wp2_with fail
      go_ret
      exact ⟨rfl, HE.out⟩
end Go.Proofs.Ytnhfeakndofokaa
end
section
/- Package nfa. -/
namespace Go.Proofs.Ytnhfeakndofokaa
set_option linter.unusedSimpArgs false
set_option linter.unusedVariables false
set_option maxRecDepth 100000
open Go.RowKit
/- A list of rules that was handed in. -/
mutual
/-- A pattern's words are words. -/
def okT : RT → Prop
  | .mk k u ps => okW u ∧ okTL ps
def okTL : List RT → Prop
  | [] => True
  | t :: ts => okT t ∧ okTL ts
end
theorem okTL_of : ∀ {ts : List RT}, (∀ t ∈ ts, okT t) → okTL ts
  | [], _ => by rw [okTL]; trivial
  | t :: ts, h => by rw [okTL]; exact ⟨h t (List.mem_cons_self ..), okTL_of fun x hx => h x (List.mem_cons_of_mem _ hx)⟩
theorem widL_of {n : Nat} : ∀ {ts : List RT}, (∀ t ∈ ts, wid t ≤ n) → widL ts ≤ n
  | [], _ => by simp [widL]
  | t :: ts, h => by
    have h1 := h t (List.mem_cons_self ..)
    have h2 := widL_of (ts := ts) fun x hx => h x (List.mem_cons_of_mem _ hx)
    simp only [widL]; omega
theorem bytes56 : Try.prog.bytesOf 56 = 64 := by kernel_rfl
theorem cells56 : Try.prog.cellsOf 56 = 6 := by kernel_rfl
theorem cells54 : Try.prog.cellsOf 54 = 1 := by kernel_rfl
theorem bytes58 : Try.prog.bytesOf 58 = 72 := by kernel_rfl
theorem cells58 : Try.prog.cellsOf 58 = 7 := by kernel_rfl
open Go.ChangeShapes Go.WideShapes Go.Deep in
theorem tree_open {H : Type} {enc : TypeId × Value → H} {w : World} {held : Bool} : ∀ (m fuel : Nat), fuel ≤ m → ∀ {cs : List Value} {d : DataW H} {pl : List MemPlace}, DataW.trod enc Try.prog w 0 (fun _ => true) held fuel 56 cs = some (d, pl) →
    (∀ n ∈ d.weights Try.prog 56, n ≤ reachBytes) → ∃ t : RT, RV (fun b => b < w.heap.size) w t (.agg cs.toArray) ∧ wid t ≤ 9223372036854775806 ∧ okT t ∧ cs.length = 6
  | 0, fuel, hm, cs, d, pl, h, _ => by
    obtain rfl : fuel = 0 := by omega
    simp [DataW.trod] at h
  | m + 1, fuel, hm, cs, d, pl, h, hw => by
    obtain ⟨xs, n, rfl, hx, hlen, hxl, hf⟩ := DataW.trod_struct Try.underlying56 h
    rw [cells56] at hlen
    match cs, hlen with
    | [c0, c1, c2, c3, c4, c5], _ =>
      have f0 := hf 0 _ rfl
      have f1 := hf 1 _ rfl
      have f2 := hf 2 _ rfl
      have hxl3 : xs.length = 3 := hxl
      match xs, hxl3 with
      | [y0, y1, y2], _ =>
        have g0 : DataW.trod enc Try.prog w 0 (fun _ => true) held n 3 [c0] = some y0 := f0
        have g1 : DataW.trod enc Try.prog w 0 (fun _ => true) held n 47 [c1, c2, c3, c4] = some y1 := f1
        have g2 : DataW.trod enc Try.prog w 0 (fun _ => true) held n 54 [c5] = some y2 := f2
        obtain ⟨k, e0, -, -⟩ := DataW.trod_int Try.underlying3 g0
        obtain rfl : c0 = .int .i64 k := by simpa using e0
        obtain ⟨f, rfl, rfl, rfl, rfl, hokf⟩ := words_open g1
        have hd : d = .agg [y0.1, y1.1, y2.1] := by simpa using (Prod.mk.inj hx).1
        have hw2 : ∀ q ∈ y2.1.weights Try.prog 54, q ≤ reachBytes := fun q hq => by
          refine hw q ?_
          rw [hd]
          unfold DataW.weights
          rw [Try.underlying56]
          exact DataW.weights_mem_each (j := 2) (t := 54) (d := y2.1) rfl rfl q hq
        rcases DataW.trod_slice Try.underlying54 g2 with ⟨e5, -⟩ | ⟨a, len, cap, elems, rest, n', rfl, e5, hy2, hb, hl, hm', hlen, hel, -, -⟩
        · obtain rfl : c5 = .slice none 0 0 := by simpa using e5
          exact ⟨.mk k f [], .leaf k f none 0, by simp [wid, widL], by rw [okT, okTL]; exact ⟨hokf, trivial⟩, rfl⟩
        · obtain rfl : c5 = .slice (some a) len cap := by simpa using e5
          have hw3 : (elems.length + rest.length) * 64 ≤ reachBytes ∧ ∀ y ∈ elems, ∀ q ∈ y.1.weights Try.prog 56, q ≤ reachBytes := by
            rw [hy2] at hw2
            unfold DataW.weights at hw2
            rw [Try.underlying54] at hw2
            simp only [List.length_map, bytes56] at hw2
            refine ⟨hw2 _ (List.mem_cons_self ..), fun y hy q hq => hw2 q (List.mem_cons_of_mem _ (List.mem_append_left _ (weightsAll_mem (List.mem_map_of_mem hy) q hq)))⟩
          have hlb : len ≤ 9223372036854775806 := by
            have := reachBytes_lt
            omega
          have each : ∀ i, i < len → ∃ q : RT × Array Value, RV (fun b => b < w.heap.size) w q.1 (.agg q.2) ∧ wid q.1 ≤ 9223372036854775806 ∧ okT q.1 ∧ q.2.size = 6 ∧ ∀ j, j < 6 → w.cell? ((a.add (i * 6)).add j) = q.2[j]? := fun i hi => by
            have h1 := hel i hi
            rw [List.getElem?_eq_getElem (by omega), cells56] at h1
            obtain ⟨cs', h2, h3⟩ := Option.bind_eq_some_iff.1 h1
            obtain ⟨_, hcl, hcell⟩ := World.cells?_some h2
            obtain ⟨t, ht, h4, h5, h6⟩ := tree_open m n' (by omega) (d := elems[i].1) (pl := elems[i].2) h3 (hw3.2 _ (List.getElem_mem _))
            exact ⟨(t, cs'.toArray), ht, h4, h5, by simpa using h6, fun j hj => by rw [hcell j hj]; simp⟩
          by_cases h0 : len = 0
          · subst h0
            exact ⟨.mk k f [], .leaf k f (some a) cap, by simp [wid, widL], by rw [okT, okTL]; exact ⟨hokf, trivial⟩, rfl⟩
          · have : Inhabited (RT × Array Value) := ⟨(.mk 0 u0 [], #[])⟩
            obtain ⟨q, hq⟩ := choose_lt each
            have hc0 := (hq 0 (by omega)).2.2.2.2 0 (by omega)
            rw [Array.getElem?_eq_getElem (by rw [(hq 0 (by omega)).2.2.2.1]; omega)] at hc0
            have hspot : a.spot = none := by
              have := World.cell?_spot hc0
              simpa [Addr.add] using this
            obtain ⟨b, o, sp⟩ := a
            simp only at hspot
            subst hspot
            have hbl := World.block_lt_of_cell? w _ hc0
            have hbl2 : b < w.heap.size := by simpa [Addr.add] using hbl
            have hpl : ((List.range len).map fun i => (q i).1).length = len := by simp
            refine ⟨.mk k f ((List.range len).map fun i => (q i).1), ?_, ?_, ?_, rfl⟩
            · have hn : ((List.range len).map fun i => (q i).1) ≠ [] := fun e => h0 (by rw [e] at hpl; exact hpl.symm)
              have := RV.node (D := fun b => b < w.heap.size) (w := w) k f ((List.range len).map fun i => (q i).1) b o cap (fun i => (q i).2) hbl2 hn (fun i hi => by
                have hi' : i < len := by rw [hpl] at hi; exact hi
                have e : ((List.range len).map fun i => (q i).1)[i] = (q i).1 := by simp
                rw [e]; exact (hq i hi').1) (fun i hi j hj => by
                have hi' : i < len := by rw [hpl] at hi; exact hi
                have h1 := (hq i hi').2.2.2.2 j hj
                have h2 := (hq i hi').2.2.2.1
                refine ⟨(q i).2[j]'(by omega), Array.getElem?_eq_getElem (by omega), ?_⟩
                rw [Array.getElem?_eq_getElem (by omega)] at h1
                rw [← h1, add_add, add_plain]
                rw [show o + (i * 6 + j) = o + (6 * i + j) by omega])
              rw [hpl] at this
              exact this
            · have h1 : widL ((List.range len).map fun i => (q i).1) ≤ 9223372036854775806 := widL_of fun t ht => by
                obtain ⟨i, hi, rfl⟩ := List.mem_map.1 ht
                exact (hq i (List.mem_range.1 hi)).2.1
              simp only [wid, hpl]; omega
            · rw [okT]
              exact ⟨hokf, okTL_of fun t ht => by
                obtain ⟨i, hi, rfl⟩ := List.mem_map.1 ht
                exact (hq i (List.mem_range.1 hi)).2.2.1⟩
open Go.ChangeShapes Go.WideShapes Go.Deep in
theorem rules_open {H : Type} {enc : TypeId × Value → H} {w : World} {held : Bool} {fuel : Nat} {c : Value} {x : DataW H × List MemPlace} (h : DataW.trod enc Try.prog w 0 (fun _ => true) held fuel 32 [c] = some x) (hw : ∀ q ∈ x.1.weights Try.prog 32, q ≤ reachBytes) :
    ∃ (ts : List RT) (p : Option Addr) (f : Nat), c = .slice p ts.length f ∧ RuV (fun b => b < w.heap.size) w ts c ∧ ts.length ≤ 9223372036854775806 ∧ ∀ t ∈ ts, wid t ≤ 9223372036854775806 ∧ okT t := by
  rcases DataW.trod_slice Try.underlying32 h with ⟨e5, -⟩ | ⟨a, len, cap, elems, rest, n', rfl, e5, hy2, hb, hl, hm', hlen, hel, -, -⟩
  · obtain rfl : c = .slice none 0 0 := by simpa using e5
    exact ⟨[], none, 0, rfl, ⟨none, 0, rfl, fun h => absurd rfl h⟩, by simp, by simp⟩
  · obtain rfl : c = .slice (some a) len cap := by simpa using e5
    have hw3 : (elems.length + rest.length) * 72 ≤ reachBytes ∧ ∀ y ∈ elems, ∀ q ∈ y.1.weights Try.prog 58, q ≤ reachBytes := by
      rw [hy2] at hw
      unfold DataW.weights at hw
      rw [Try.underlying32] at hw
      simp only [List.length_map, bytes58] at hw
      refine ⟨hw _ (List.mem_cons_self ..), fun y hy q hq => hw q (List.mem_cons_of_mem _ (List.mem_append_left _ (weightsAll_mem (List.mem_map_of_mem hy) q hq)))⟩
    have hlb : len ≤ 9223372036854775806 := by
      have := reachBytes_lt
      omega
    have each : ∀ i, i < len → ∃ y : RT × (Int × Array Value), RV (fun b => b < w.heap.size) w y.1 (.agg y.2.2) ∧ wid y.1 ≤ 9223372036854775806 ∧ okT y.1 ∧ ∀ j, j < 7 → w.cell? ((a.add (i * 7)).add j) = (#[.int .i64 y.2.1] ++ y.2.2 : Array Value)[j]? := fun i hi => by
      have h1 := hel i hi
      rw [List.getElem?_eq_getElem (by omega), cells58] at h1
      obtain ⟨cs', h2, h3⟩ := Option.bind_eq_some_iff.1 h1
      obtain ⟨_, hcl, hcell⟩ := World.cells?_some h2
      have hwi := hw3.2 _ (List.getElem_mem (l := elems) (n := i) (by omega))
      obtain ⟨c0, c1, c2, c3, c4, c5, c6, rfl⟩ : ∃ c0 c1 c2 c3 c4 c5 c6, cs' = [c0, c1, c2, c3, c4, c5, c6] := by
        match cs', hcl with
        | [c0, c1, c2, c3, c4, c5, c6], _ => exact ⟨_, _, _, _, _, _, _, rfl⟩
      obtain ⟨xs, n, rfl, hx, hlen', hxl, hf⟩ := DataW.trod_struct Try.underlying58 h3
      have f0 := hf 0 _ rfl
      have f1 := hf 1 _ rfl
      have hxl3 : xs.length = 2 := hxl
      match xs, hxl3 with
      | [y0, y1], _ =>
        have g0 : DataW.trod enc Try.prog w 0 (fun _ => true) held n 3 [c0] = some y0 := f0
        have g1 : DataW.trod enc Try.prog w 0 (fun _ => true) held n 56 [c1, c2, c3, c4, c5, c6] = some y1 := f1
        obtain ⟨kd, e0, -, -⟩ := DataW.trod_int Try.underlying3 g0
        obtain rfl : c0 = .int .i64 kd := by simpa using e0
        have hd : (elems[i]).1 = .agg [y0.1, y1.1] := by
          have := (Prod.mk.inj hx).1
          simpa using this
        have hw2 : ∀ q ∈ y1.1.weights Try.prog 56, q ≤ reachBytes := fun q hq => by
          refine hwi q ?_
          rw [hd]
          unfold DataW.weights
          rw [Try.underlying58]
          exact DataW.weights_mem_each (j := 1) (t := 56) (d := y1.1) rfl rfl q hq
        obtain ⟨t, ht, h4, h5, h6⟩ := tree_open n n (Nat.le_refl _) (d := y1.1) (pl := y1.2) g1 hw2
        refine ⟨(t, (kd, #[c1, c2, c3, c4, c5, c6])), ht, h4, h5, fun j hj => ?_⟩
        rw [hcell j hj]
        rcases (by omega : j = 0 ∨ j = 1 ∨ j = 2 ∨ j = 3 ∨ j = 4 ∨ j = 5 ∨ j = 6) with rfl | rfl | rfl | rfl | rfl | rfl | rfl <;> rfl
    by_cases h0 : len = 0
    · subst h0
      exact ⟨[], some a, cap, rfl, ⟨some a, cap, rfl, fun h => absurd rfl h⟩, by simp, by simp⟩
    · have : Inhabited (RT × (Int × Array Value)) := ⟨(.mk 0 u0 [], (0, #[]))⟩
      obtain ⟨q, hq⟩ := choose_lt each
      have hc0 := (hq 0 (by omega)).2.2.2 0 (by omega)
      have hc1 : w.cell? ((a.add (0 * 7)).add 0) = some (.int .i64 (q 0).2.1) := by rw [hc0]; exact Array.getElem?_append_left (Nat.zero_lt_one)
      have hspot : a.spot = none := by
        have := World.cell?_spot hc1
        simpa [Addr.add] using this
      obtain ⟨b, o, sp⟩ := a
      simp only at hspot
      subst hspot
      have hbl := World.block_lt_of_cell? w _ hc1
      have hbl2 : b < w.heap.size := by simpa [Addr.add] using hbl
      have hpl : ((List.range len).map fun i => (q i).1).length = len := by simp
      refine ⟨(List.range len).map fun i => (q i).1, some ⟨b, o, none⟩, cap, by rw [hpl], ⟨some ⟨b, o, none⟩, cap, by rw [hpl], fun _ => ⟨b, o, rfl, hbl2, fun i hi => ?_⟩⟩, by omega, fun s hs => ?_⟩
      · have hi' : i < len := by rw [hpl] at hi; exact hi
        have e : ((List.range len).map fun i => (q i).1)[i] = (q i).1 := by simp
        rw [e]
        obtain ⟨h1, _, _, h2⟩ := hq i hi'
        obtain ⟨k, u, p, n, c, hk⟩ := h1.form
        have hk' : (q i).2.2 = nodeC k u (.slice p n c) := by injection hk
        refine ⟨(q i).2.1, k, u, p, n, c, hk ▸ h1, fun j y hy => ?_⟩
        have hj : j < 7 := (Array.getElem?_eq_some_iff.1 hy).1
        have h3 := h2 j hj
        rw [hk'] at h3
        have h4 : (#[.int .i64 (q i).2.1] ++ nodeC k u (.slice p n c) : Array Value)[j]? = some y := hy
        rw [← h4, ← h3, add_add, add_plain]
        rw [show o + (i * 7 + j) = o + i * 7 + j by omega]
      · obtain ⟨i, hi, rfl⟩ := List.mem_map.1 hs
        have := hq i (List.mem_range.1 hi)
        exact ⟨this.2.1, this.2.2.1⟩
open Go.ChangeShapes Go.WideShapes in
theorem open_rules {H : Type} {enc : TypeId × Value → H} {w : World} {held : Bool} {v : Value} {d : DataW H} {p : List MemPlace} (hs : v.cells.toList = [v]) (h : DataW.Trod enc Try.prog w 0 (fun _ => true) held 32 v d p) (hw : ∀ n ∈ d.weights Try.prog 32, n ≤ reachBytes) :
    ∃ (ts : List RT) (p : Option Addr) (f : Nat), v = .slice p ts.length f ∧ RuV (fun b => b < w.heap.size) w ts v ∧ ts.length ≤ 9223372036854775806 ∧ ∀ t ∈ ts, wid t ≤ 9223372036854775806 ∧ okT t := by
  obtain ⟨fuel, hf⟩ := h
  rw [hs] at hf
  exact rules_open hf hw
end Go.Proofs.Ytnhfeakndofokaa
end
