/- Rules, their twins: as in layer 6. -/
import Derived.Test.YtemkppjdfjoipaaProg
import Derived.Test.YtemkppjdfjoipaaW16
import Derived.Test.YtemkppjdfjoipaaRS0
import Derived.WalkKit
import Derived.BigFrame
import Derived.WalkMore
import Derived.ScopeJumps
import Derived.StillTailTactics
import Derived.Stop.BytesEq
import Derived.WalkLawsBesides
import Derived.WalkSpells
import Derived.Outline
import Derived.Lib.Walk
import Derived.Lib.Hide
import Derived.Lib.Slices
import Derived.Lib.Strings
import Derived.RegionTactic
import Derived.LoopTactic
import Derived.Below
import Derived.IntWalk
import Derived.Deep.QuietTactic
import Derived.BigQuiet
import Derived.Deep.MidRow
import Derived.Maps.AppendAt
import Derived.Laws.Rows
import Derived.Laws.Tables
import Derived.Deep.WholeRow
import Derived.Deep.Cut
import Derived.Deep.CutRange
import Derived.Lib.SliceRun
import Derived.Laws.MakeOwn
import Derived.Deep.RegionLaw
import Derived.Deep.RegionLawGrows
import Derived.Deep.RegionHeld3
import Derived.RegionCalls
import Derived.Deep.RegionWith
import Derived.Deep.Light
import Derived.Laws.CopyOwn
import Derived.Laws.ResultCell
import Derived.Deep.SlicePairs
import Derived.Deep.Slices
import Derived.Laws.Entries
import Derived.Laws.IdiomArrays
import Derived.OpenShut
import Derived.WideBlind
namespace Go.Proofs.Ytemkppjdfjoipaa.R6
set_option linter.unusedSimpArgs false
set_option linter.unusedVariables false
set_option maxRecDepth 100000
open Go.RowKit
theorem widL_hw : ∀ {ts : List RT}, (∀ t ∈ ts, wid t ≤ 9223372036854775806) → widL ts ≤ 9223372036854775806
  | [], _ => by simp [widL]
  | t :: r, h => by
    have h1 := widL_hw (ts := r) fun x hx => h x (List.mem_cons_of_mem _ hx)
    have h2 := h t (List.mem_cons_self ..)
    simp only [widL]; omega
set_option maxHeartbeats 8000000 in
theorem rulesbig_any {D : Nat → Prop} {w : World} {ts : List RT} {q : Option Addr} {f : Nat} (m : Nat) (hm : m ≤ 1000000) (hD : ∀ b, D b → b < w.heap.size) (hR : RuV D w ts (.slice q ts.length f)) (hln : ts.length ≤ 9223372036854775806) (hwid : ∀ t ∈ ts, wid t ≤ 9223372036854775806) :
    Calls Try.prog 45 #[.slice q ts.length f, .int .i64 (m : Nat)] w fun e w' => e = .returned (.bool (decide (m < ts.length) || decide (m < szL ts + 1))) ∧ Below w.heap.size w w' := by
  obtain ⟨i0, hi, hz0, hz1, hz2⟩ := info_parts infoN6
  have HR := Lib.hid hR
  have HD := Lib.hid hD
  have HWID := Lib.hid hwid
  have hz := zero27r
  clear hR hD hwid
  by_cases hbg : m < ts.length
  · have hbg2 : ((m : Nat) : Int) < ((ts.length : Nat) : Int) := by omega
    rw [decide_eq_true hbg, Bool.true_or]
    go_enter Try.func45, Try.ntmps45
    go_wp2_with fail
    go_ret
    exact ⟨rfl, Below.refl _ _⟩
  have hbg2 : ¬ ((m : Nat) : Int) < ((ts.length : Nat) : Int) := by omega
  rw [decide_eq_false hbg, Bool.false_or]
  go_enter Try.func45, Try.ntmps45
  go_wp2_with (at_make; refine wpList_make_own _ rfl (.const (.int .i64 0)) (.tmp 12) 126 rfl w.heap.size 128 i0 (.agg (nodeC 0 u0 (.slice none 0 0))) 6 Try.underlying126 hi hz0 hz1 .i64 .i64 _ ts.length rfl rfl ?k1 ?k2 ?k3 ?k4 ?_)
  case k1 => rfl
  case k2 => omega
  case k3 => unfold maxLen; omega
  intro wa howna hgrowa
  have HT0 : Hid (TB w D (ts.take 0) (.slice (some ⟨w.heap.size, 0, none⟩) 0 ts.length) wa) := Lib.hid (TB.nil howna)
  have HB0 : Hid (Below w.heap.size w wa) := Lib.hid (below_grown6 (Below.refl _ _) hgrowa (fun g h => by cases h) (Nat.le_refl _))
  clear howna hgrowa
  go_wp2_with fail
  go_loopw [5, 6] (fun sl i wr => ∃ j : Nat, i = .int .i64 (j : Nat) ∧ j ≤ ts.length ∧ Hid (TB w D (ts.take j) sl wr) ∧ Hid (Below w.heap.size w wr)) (fun _ i _ => ts.length - (intOf i).toNat)
  case atStart => exact ⟨0, rfl, by omega, HT0, HB0⟩
  case round =>
    obtain ⟨j, rfl, hj, HT, HB⟩ := hrel
    clear HT0 HB0
    obtain ⟨a, cc, hsl⟩ := HT.out.sl
    have hlj : (ts.take j).length = j := by simp; omega
    rw [hlj] at hsl
    subst hsl
    by_cases hlt : j < ts.length
    · have hltI : (j : Int) < ((ts.length : Nat) : Int) := by omega
      have hjI : ¬ (j : Int) < 0 := by omega
      obtain ⟨q', f', he, hh⟩ := HR.out
      cases he
      obtain ⟨b, o, rfl, hDb, hx⟩ := hh (by intro e; subst e; simp at hlt)
      obtain ⟨kd, k5, u5, p5, n5, c5', hv5, hcell⟩ := hx j hlt
      have hbw := HD.out b hDb
      have ce : ∀ i y, (#[.int .i64 kd, .int .i64 k5, .int .u64 (u5 0), .int .u64 (u5 1), .int .u64 (u5 2), .int .u64 (u5 3), .slice p5 n5 c5'] : Array Value)[i]? = some y → wr.cell? ⟨b, o + j * 7 + i, none⟩ = some y := fun i y hy => (cell_same (HB.out.block b hbw) _).trans (hcell i y hy)
      have d1 : wr.cell? ⟨b, o + j * 7 + 1, none⟩ = some (.int .i64 k5) := ce 1 _ rfl
      have d2 : wr.cell? ⟨b, o + j * 7 + 2, none⟩ = some (.int .u64 (u5 0)) := ce 2 _ rfl
      have d3 : wr.cell? ⟨b, o + j * 7 + 3, none⟩ = some (.int .u64 (u5 1)) := ce 3 _ rfl
      have d4 : wr.cell? ⟨b, o + j * 7 + 4, none⟩ = some (.int .u64 (u5 2)) := ce 4 _ rfl
      have d5 : wr.cell? ⟨b, o + j * 7 + 5, none⟩ = some (.int .u64 (u5 3)) := ce 5 _ rfl
      have d6 : wr.cell? ⟨b, o + j * 7 + 6, none⟩ = some (.slice p5 n5 c5') := ce 6 _ rfl
      obtain ⟨xs, x1, x2, x3, x4⟩ := HT.out
      rw [hlj] at x4
      have X1 := Lib.hid x1
      have X2 := Lib.hid x2
      have X3 := Lib.hid x3
      have X4 := Lib.hid (World.ownsRow.alloc x4 (.cells #[.int .i64 k5, .int .u64 (u5 0), .int .u64 (u5 1), .int .u64 (u5 2), .int .u64 (u5 3), .slice p5 n5 c5'] 128))
      have HC0 : Hid (∀ j u, (nodeC k5 u5 (.slice p5 n5 c5')).toList[j]? = some u → (wr.alloc (.cells #[.int .i64 k5, .int .u64 (u5 0), .int .u64 (u5 1), .int .u64 (u5 2), .int .u64 (u5 3), .slice p5 n5 c5'] 128)).cell? ((⟨wr.heap.size, 0, none⟩ : Addr).add j) = some u) := Lib.hid fun j u hj => by
        rw [Addr.add_mid, cell_of_row _ wr.heap.size (0 + j) _ 128 (0, 0) (heap_alloc_last wr _), Nat.zero_add]
        rw [Array.getElem?_toList] at hj; exact hj
      have HV5 := Lib.hid hv5
      have hwl := HB.out.size
      have HA : Hid (Below wr.heap.size wr (wr.alloc (.cells #[.int .i64 k5, .int .u64 (u5 0), .int .u64 (u5 1), .int .u64 (u5 2), .int .u64 (u5 3), .slice p5 n5 c5'] 128))) := Lib.hid ((Below.refl _ _).alloc (Nat.le_refl _) _)
      clear ce hcell hx hh x1 x2 x3 x4 hv5
      go_wp2_with (at_builtin; refine wpList_append_own_at _ rfl (.tmp 20) (.tmp 26) 126 rfl w.heap.size 128 i0 (.agg (nodeC 0 u0 (.slice none 0 0))) 6 64 Try.underlying126 hi hz0 hz1 hz2 rfl (by decide) (.slice a j cc) j (flat6 xs) rfl ?c0 ⟨wr.heap.size, 0, none⟩ 1 1 (nodeC k5 u5 (.slice p5 n5 c5')).toList rfl rfl ?c1 ?c2 ?c3 ?c4 ?c5 ?_)
      case c0 => exact X4.out
      case c1 => exact fun j u hu => by rw [← Array.getElem?_toList] at hu; exact hu
      case c2 => exact fun u hu => (Array.all_eq_true_iff_forall_mem.1 (nodeC_one k5 u5 p5 n5 c5')) u (by simpa using hu)
      case c3 => unfold maxLen; omega
      case c4 => omega
      case c5 => exact Nat.le_trans hwl (by simp)
      intro v' w7 hown7 hgrow7 _ hat7
      have hbase := fun g (hg : (Value.slice a j cc).ownBlock = some g) => (World.ownsRow.lt X4.out g hg).1
      have htk : ts.take (j + 1) = ts.take j ++ [ts[j]] := List.take_succ_eq_append_getElem hlt
      have HTA : Hid (TB w D (ts.take (j + 1)) v' w7) := Lib.hid (by
        rw [htk]
        exact TB.app X1.out X2.out X3.out HV5.out (by rw [hlj]; exact hown7))
      have HBA : Hid (Below w.heap.size w w7) := Lib.hid (below_grown6 (HB.out.trans (HA.out.mono hwl)) hgrow7 hbase (Nat.le_trans hwl HA.out.size))
      clear hown7 hgrow7 hat7 hbase htk X1 X2 X3 X4 HC0 HV5 HT HB HA d1 d2 d3 d4 d5 d6
      go_wp2_with fail
      go_roundw
      case rel => exact ⟨j + 1, by go_num, by omega, HTA, HBA⟩
      case measure => simp [intOf]; omega
    · obtain rfl : j = ts.length := by omega
      have hltI : ¬ ((ts.length : Nat) : Int) < ((ts.length : Nat) : Int) := by omega
      rw [List.take_length] at HT
      have HBG := Lib.hid (rbig_any (w := wr) m hm (t := .mk 0 u0 ts) (by have := widL_hw HWID.out; simp only [wid]; omega) (fun _ h => h) (HT.out.tree HD.out HB.out))
      rw [show sz (.mk 0 u0 ts) = szL ts + 1 by rw [sz]] at HBG
      unfold nodeC u0 at HBG
      go_wp2_with fail
      refine (HBG.out).mono ?_
      rintro _ y ⟨rfl, hb⟩
      have HE := Lib.hid (HB.out.trans (hb.mono HB.out.size))
      clear hb
      go_wp2_with fail
      go_ret
      exact ⟨rfl, HE.out⟩
mutual
/-- A pattern's words are words. -/
def okT : RT → Prop
  | .mk k u ps => okW u ∧ okTL ps
def okTL : List RT → Prop
  | [] => True
  | t :: ts => okT t ∧ okTL ts
end
theorem okTL_of : ∀ {ts : List RT}, (∀ t ∈ ts, okT t) → okTL ts
  | [], _ => by rw [okTL]; trivial
  | t :: ts, h => by rw [okTL]; exact ⟨h t (List.mem_cons_self ..), okTL_of fun x hx => h x (List.mem_cons_of_mem _ hx)⟩
theorem widL_of {n : Nat} : ∀ {ts : List RT}, (∀ t ∈ ts, wid t ≤ n) → widL ts ≤ n
  | [], _ => by simp [widL]
  | t :: ts, h => by
    have h1 := h t (List.mem_cons_self ..)
    have h2 := widL_of (ts := ts) fun x hx => h x (List.mem_cons_of_mem _ hx)
    simp only [widL]; omega
theorem bytes56 : Try.prog.bytesOf 128 = 64 := by kernel_rfl
theorem cells56 : Try.prog.cellsOf 128 = 6 := by kernel_rfl
theorem bytes58 : Try.prog.bytesOf 130 = 72 := by kernel_rfl
theorem cells58 : Try.prog.cellsOf 130 = 7 := by kernel_rfl
open Go.ChangeShapes Go.WideShapes Go.Deep in
theorem tree_open {H : Type} {enc : TypeId × Value → H} {w : World} {held : Bool} : ∀ (m fuel : Nat), fuel ≤ m → ∀ {cs : List Value} {d : DataW H} {pl : List MemPlace}, DataW.trod enc Try.prog w 0 (fun _ => true) held fuel 128 cs = some (d, pl) →
    (∀ n ∈ d.weights Try.prog 128, n ≤ reachBytes) → ∃ t : RT, RV (fun b => b < w.heap.size) w t (.agg cs.toArray) ∧ wid t ≤ 9223372036854775806 ∧ okT t ∧ cs.length = 6
  | 0, fuel, hm, cs, d, pl, h, _ => by
    obtain rfl : fuel = 0 := by omega
    simp [DataW.trod] at h
  | m + 1, fuel, hm, cs, d, pl, h, hw => by
    obtain ⟨xs, n, rfl, hx, hlen, hxl, hf⟩ := DataW.trod_struct Try.underlying128 h
    rw [cells56] at hlen
    match cs, hlen with
    | [c0, c1, c2, c3, c4, c5], _ =>
      have f0 := hf 0 _ rfl
      have f1 := hf 1 _ rfl
      have f2 := hf 2 _ rfl
      have hxl3 : xs.length = 3 := hxl
      match xs, hxl3 with
      | [y0, y1, y2], _ =>
        have g0 : DataW.trod enc Try.prog w 0 (fun _ => true) held n 3 [c0] = some y0 := f0
        have g1 : DataW.trod enc Try.prog w 0 (fun _ => true) held n 125 [c1, c2, c3, c4] = some y1 := f1
        have g2 : DataW.trod enc Try.prog w 0 (fun _ => true) held n 126 [c5] = some y2 := f2
        obtain ⟨k, e0, -, -⟩ := DataW.trod_int Try.underlying3 g0
        obtain rfl : c0 = .int .i64 k := by simpa using e0
        obtain ⟨f, rfl, rfl, rfl, rfl, hokf⟩ := words_open g1
        have hd : d = .agg [y0.1, y1.1, y2.1] := by simpa using (Prod.mk.inj hx).1
        have hw2 : ∀ q ∈ y2.1.weights Try.prog 126, q ≤ reachBytes := fun q hq => by
          refine hw q ?_
          rw [hd]
          unfold DataW.weights
          rw [Try.underlying128]
          exact DataW.weights_mem_each (j := 2) (t := 126) (d := y2.1) rfl rfl q hq
        rcases DataW.trod_slice Try.underlying126 g2 with ⟨e5, -⟩ | ⟨a, len, cap, elems, rest, n', rfl, e5, hy2, hb, hl, hm', hlen, hel, -, -⟩
        · obtain rfl : c5 = .slice none 0 0 := by simpa using e5
          exact ⟨.mk k f [], .leaf k f none 0, by simp [wid, widL], by rw [okT, okTL]; exact ⟨hokf, trivial⟩, rfl⟩
        · obtain rfl : c5 = .slice (some a) len cap := by simpa using e5
          have hw3 : (elems.length + rest.length) * 64 ≤ reachBytes ∧ ∀ y ∈ elems, ∀ q ∈ y.1.weights Try.prog 128, q ≤ reachBytes := by
            rw [hy2] at hw2
            unfold DataW.weights at hw2
            rw [Try.underlying126] at hw2
            simp only [List.length_map, bytes56] at hw2
            refine ⟨hw2 _ (List.mem_cons_self ..), fun y hy q hq => hw2 q (List.mem_cons_of_mem _ (List.mem_append_left _ (weightsAll_mem (List.mem_map_of_mem hy) q hq)))⟩
          have hlb : len ≤ 9223372036854775806 := by
            have := reachBytes_lt
            omega
          have each : ∀ i, i < len → ∃ q : RT × Array Value, RV (fun b => b < w.heap.size) w q.1 (.agg q.2) ∧ wid q.1 ≤ 9223372036854775806 ∧ okT q.1 ∧ q.2.size = 6 ∧ ∀ j, j < 6 → w.cell? ((a.add (i * 6)).add j) = q.2[j]? := fun i hi => by
            have h1 := hel i hi
            rw [List.getElem?_eq_getElem (by omega), cells56] at h1
            obtain ⟨cs', h2, h3⟩ := Option.bind_eq_some_iff.1 h1
            obtain ⟨_, hcl, hcell⟩ := World.cells?_some h2
            obtain ⟨t, ht, h4, h5, h6⟩ := tree_open m n' (by omega) (d := elems[i].1) (pl := elems[i].2) h3 (hw3.2 _ (List.getElem_mem _))
            exact ⟨(t, cs'.toArray), ht, h4, h5, by simpa using h6, fun j hj => by rw [hcell j hj]; simp⟩
          by_cases h0 : len = 0
          · subst h0
            exact ⟨.mk k f [], .leaf k f (some a) cap, by simp [wid, widL], by rw [okT, okTL]; exact ⟨hokf, trivial⟩, rfl⟩
          · have : Inhabited (RT × Array Value) := ⟨(.mk 0 u0 [], #[])⟩
            obtain ⟨q, hq⟩ := choose_lt each
            have hc0 := (hq 0 (by omega)).2.2.2.2 0 (by omega)
            rw [Array.getElem?_eq_getElem (by rw [(hq 0 (by omega)).2.2.2.1]; omega)] at hc0
            have hspot : a.spot = none := by
              have := World.cell?_spot hc0
              simpa [Addr.add] using this
            obtain ⟨b, o, sp⟩ := a
            simp only at hspot
            subst hspot
            have hbl := World.block_lt_of_cell? w _ hc0
            have hbl2 : b < w.heap.size := by simpa [Addr.add] using hbl
            have hpl : ((List.range len).map fun i => (q i).1).length = len := by simp
            refine ⟨.mk k f ((List.range len).map fun i => (q i).1), ?_, ?_, ?_, rfl⟩
            · have hn : ((List.range len).map fun i => (q i).1) ≠ [] := fun e => h0 (by rw [e] at hpl; exact hpl.symm)
              have := RV.node (D := fun b => b < w.heap.size) (w := w) k f ((List.range len).map fun i => (q i).1) b o cap (fun i => (q i).2) hbl2 hn (fun i hi => by
                have hi' : i < len := by rw [hpl] at hi; exact hi
                have e : ((List.range len).map fun i => (q i).1)[i] = (q i).1 := by simp
                rw [e]; exact (hq i hi').1) (fun i hi j hj => by
                have hi' : i < len := by rw [hpl] at hi; exact hi
                have h1 := (hq i hi').2.2.2.2 j hj
                have h2 := (hq i hi').2.2.2.1
                refine ⟨(q i).2[j]'(by omega), Array.getElem?_eq_getElem (by omega), ?_⟩
                rw [Array.getElem?_eq_getElem (by omega)] at h1
                rw [← h1, add_add, add_plain]
                rw [show o + (i * 6 + j) = o + (6 * i + j) by omega])
              rw [hpl] at this
              exact this
            · have h1 : widL ((List.range len).map fun i => (q i).1) ≤ 9223372036854775806 := widL_of fun t ht => by
                obtain ⟨i, hi, rfl⟩ := List.mem_map.1 ht
                exact (hq i (List.mem_range.1 hi)).2.1
              simp only [wid, hpl]; omega
            · rw [okT]
              exact ⟨hokf, okTL_of fun t ht => by
                obtain ⟨i, hi, rfl⟩ := List.mem_map.1 ht
                exact (hq i (List.mem_range.1 hi)).2.2.1⟩
open Go.ChangeShapes Go.WideShapes Go.Deep in
theorem rules_open {H : Type} {enc : TypeId × Value → H} {w : World} {held : Bool} {fuel : Nat} {c : Value} {x : DataW H × List MemPlace} (h : DataW.trod enc Try.prog w 0 (fun _ => true) held fuel 57 [c] = some x) (hw : ∀ q ∈ x.1.weights Try.prog 57, q ≤ reachBytes) :
    ∃ (ts : List RT) (p : Option Addr) (f : Nat), c = .slice p ts.length f ∧ RuV (fun b => b < w.heap.size) w ts c ∧ ts.length ≤ 9223372036854775806 ∧ ∀ t ∈ ts, wid t ≤ 9223372036854775806 ∧ okT t := by
  rcases DataW.trod_slice Try.underlying57 h with ⟨e5, -⟩ | ⟨a, len, cap, elems, rest, n', rfl, e5, hy2, hb, hl, hm', hlen, hel, -, -⟩
  · obtain rfl : c = .slice none 0 0 := by simpa using e5
    exact ⟨[], none, 0, rfl, ⟨none, 0, rfl, fun h => absurd rfl h⟩, by simp, by simp⟩
  · obtain rfl : c = .slice (some a) len cap := by simpa using e5
    have hw3 : (elems.length + rest.length) * 72 ≤ reachBytes ∧ ∀ y ∈ elems, ∀ q ∈ y.1.weights Try.prog 130, q ≤ reachBytes := by
      rw [hy2] at hw
      unfold DataW.weights at hw
      rw [Try.underlying57] at hw
      simp only [List.length_map, bytes58] at hw
      refine ⟨hw _ (List.mem_cons_self ..), fun y hy q hq => hw q (List.mem_cons_of_mem _ (List.mem_append_left _ (weightsAll_mem (List.mem_map_of_mem hy) q hq)))⟩
    have hlb : len ≤ 9223372036854775806 := by
      have := reachBytes_lt
      omega
    have each : ∀ i, i < len → ∃ y : RT × (Int × Array Value), RV (fun b => b < w.heap.size) w y.1 (.agg y.2.2) ∧ wid y.1 ≤ 9223372036854775806 ∧ okT y.1 ∧ ∀ j, j < 7 → w.cell? ((a.add (i * 7)).add j) = (#[.int .i64 y.2.1] ++ y.2.2 : Array Value)[j]? := fun i hi => by
      have h1 := hel i hi
      rw [List.getElem?_eq_getElem (by omega), cells58] at h1
      obtain ⟨cs', h2, h3⟩ := Option.bind_eq_some_iff.1 h1
      obtain ⟨_, hcl, hcell⟩ := World.cells?_some h2
      have hwi := hw3.2 _ (List.getElem_mem (l := elems) (n := i) (by omega))
      obtain ⟨c0, c1, c2, c3, c4, c5, c6, rfl⟩ : ∃ c0 c1 c2 c3 c4 c5 c6, cs' = [c0, c1, c2, c3, c4, c5, c6] := by
        match cs', hcl with
        | [c0, c1, c2, c3, c4, c5, c6], _ => exact ⟨_, _, _, _, _, _, _, rfl⟩
      obtain ⟨xs, n, rfl, hx, hlen', hxl, hf⟩ := DataW.trod_struct Try.underlying130 h3
      have f0 := hf 0 _ rfl
      have f1 := hf 1 _ rfl
      have hxl3 : xs.length = 2 := hxl
      match xs, hxl3 with
      | [y0, y1], _ =>
        have g0 : DataW.trod enc Try.prog w 0 (fun _ => true) held n 3 [c0] = some y0 := f0
        have g1 : DataW.trod enc Try.prog w 0 (fun _ => true) held n 128 [c1, c2, c3, c4, c5, c6] = some y1 := f1
        obtain ⟨kd, e0, -, -⟩ := DataW.trod_int Try.underlying3 g0
        obtain rfl : c0 = .int .i64 kd := by simpa using e0
        have hd : (elems[i]).1 = .agg [y0.1, y1.1] := by
          have := (Prod.mk.inj hx).1
          simpa using this
        have hw2 : ∀ q ∈ y1.1.weights Try.prog 128, q ≤ reachBytes := fun q hq => by
          refine hwi q ?_
          rw [hd]
          unfold DataW.weights
          rw [Try.underlying130]
          exact DataW.weights_mem_each (j := 1) (t := 128) (d := y1.1) rfl rfl q hq
        obtain ⟨t, ht, h4, h5, h6⟩ := tree_open n n (Nat.le_refl _) (d := y1.1) (pl := y1.2) g1 hw2
        refine ⟨(t, (kd, #[c1, c2, c3, c4, c5, c6])), ht, h4, h5, fun j hj => ?_⟩
        rw [hcell j hj]
        rcases (by omega : j = 0 ∨ j = 1 ∨ j = 2 ∨ j = 3 ∨ j = 4 ∨ j = 5 ∨ j = 6) with rfl | rfl | rfl | rfl | rfl | rfl | rfl <;> rfl
    by_cases h0 : len = 0
    · subst h0
      exact ⟨[], some a, cap, rfl, ⟨some a, cap, rfl, fun h => absurd rfl h⟩, by simp, by simp⟩
    · have : Inhabited (RT × (Int × Array Value)) := ⟨(.mk 0 u0 [], (0, #[]))⟩
      obtain ⟨q, hq⟩ := choose_lt each
      have hc0 := (hq 0 (by omega)).2.2.2 0 (by omega)
      have hc1 : w.cell? ((a.add (0 * 7)).add 0) = some (.int .i64 (q 0).2.1) := by rw [hc0]; exact Array.getElem?_append_left (Nat.zero_lt_one)
      have hspot : a.spot = none := by
        have := World.cell?_spot hc1
        simpa [Addr.add] using this
      obtain ⟨b, o, sp⟩ := a
      simp only at hspot
      subst hspot
      have hbl := World.block_lt_of_cell? w _ hc1
      have hbl2 : b < w.heap.size := by simpa [Addr.add] using hbl
      have hpl : ((List.range len).map fun i => (q i).1).length = len := by simp
      refine ⟨(List.range len).map fun i => (q i).1, some ⟨b, o, none⟩, cap, by rw [hpl], ⟨some ⟨b, o, none⟩, cap, by rw [hpl], fun _ => ⟨b, o, rfl, hbl2, fun i hi => ?_⟩⟩, by omega, fun s hs => ?_⟩
      · have hi' : i < len := by rw [hpl] at hi; exact hi
        have e : ((List.range len).map fun i => (q i).1)[i] = (q i).1 := by simp
        rw [e]
        obtain ⟨h1, _, _, h2⟩ := hq i hi'
        obtain ⟨k, u, p, n, c, hk⟩ := h1.form
        have hk' : (q i).2.2 = nodeC k u (.slice p n c) := by injection hk
        refine ⟨(q i).2.1, k, u, p, n, c, hk ▸ h1, fun j y hy => ?_⟩
        have hj : j < 7 := (Array.getElem?_eq_some_iff.1 hy).1
        have h3 := h2 j hj
        rw [hk'] at h3
        have h4 : (#[.int .i64 (q i).2.1] ++ nodeC k u (.slice p n c) : Array Value)[j]? = some y := hy
        rw [← h4, ← h3, add_add, add_plain]
        rw [show o + (i * 7 + j) = o + i * 7 + j by omega]
      · obtain ⟨i, hi, rfl⟩ := List.mem_map.1 hs
        have := hq i (List.mem_range.1 hi)
        exact ⟨this.2.1, this.2.2.1⟩
/-- What an element is, by the blocks that it lies in. -/
abbrev EP := (Nat → Prop) → World → Array Value → Prop
def EMono (p : EP) : Prop := ∀ {D E : Nat → Prop} {w w' : World} {x : Array Value}, (∀ b, D b → E b) → (∀ b, D b → b < w.heap.size → w'.heap[b]? = w.heap[b]?) → p D w x → p E w' x
/-- The elements ps lie in the row of the slice sl. -/
def ThG (base : Nat) (ps : List EP) (sl : Value) (w : World) : Prop :=
  (∀ p ∈ ps, EMono p) ∧ ∃ xs : List (Array Value), xs.length = ps.length ∧ (∀ x ∈ xs, x.size = 6) ∧ (∀ i (h : i < ps.length) (h' : i < xs.length), ps[i] (fun b => base ≤ b ∧ b < w.heap.size ∧ some b ≠ sl.ownBlock) w xs[i]) ∧ w.ownsRow base 128 6 sl ps.length (flat6 xs)
theorem ThG.nil (base : Nat) (w : World) : ThG base [] (.slice none 0 0) w := ⟨by simp, [], rfl, by simp, by simp, rfl, .inl ⟨rfl, rfl⟩⟩
theorem ThG.up {base : Nat} {ps : List EP} {sl : Value} {w w' : World} (h : ThG base ps sl w) (hb : Below w.heap.size w w') : ThG base ps sl w' := by
  obtain ⟨h0, xs, h1, h2, h3, h4⟩ := h
  refine ⟨h0, xs, h1, h2, fun i hi hi' => h0 _ (List.getElem_mem hi) (fun b hb' => ⟨hb'.1, Nat.lt_of_lt_of_le hb'.2.1 hb.size, hb'.2.2⟩) (fun b _ hlt => hb.block b hlt) (h3 i hi hi'), h4.1, ?_⟩
  rcases h4.2 with hn | ⟨g, cap, cur, hv, hg, hh, rest⟩
  · exact .inl hn
  · exact .inr ⟨g, cap, cur, hv, hg, (hb.block g (Array.getElem?_eq_some_iff.1 hh).1).trans hh, rest⟩
theorem ThG.app {base lo : Nat} {ps : List EP} {sl sl' : Value} {w w1 w2 : World} {p : EP} {x : Array Value} {xs : List (Array Value)} {o : Obj} (h0 : ∀ p ∈ ps, EMono p) (hp : EMono p) (hx6 : x.size = 6)
    (h1 : xs.length = ps.length) (h2 : ∀ x ∈ xs, x.size = 6) (h3 : ∀ i (h : i < ps.length) (h' : i < xs.length), ps[i] (fun b => base ≤ b ∧ b < w.heap.size ∧ some b ≠ sl.ownBlock) w xs[i])
    (hw1 : w1 = w.alloc o) (hbl : base ≤ lo) (hlo : ∀ g, sl.ownBlock = some g → g < lo) (ht : p (fun b => lo ≤ b ∧ b < w.heap.size) w x)
    (hown : w2.ownsRow base 128 6 sl' (ps.length + 1) (flat6 xs ++ x.toList)) (hg : w1.grownBy w2 sl.ownBlock) (hat : sl'.ownBlock = sl.ownBlock ∨ sl'.ownBlock = some w1.heap.size) : ThG base (ps ++ [p]) sl' w2 := by
  have hsz : w1.heap.size = w.heap.size + 1 := by subst hw1; simp
  have hkeep : ∀ b, b < w.heap.size → some b ≠ sl.ownBlock → w2.heap[b]? = w.heap[b]? := fun b hb hne => by
    rw [hg.block b (by omega) (fun e => hne e), hw1, heap_alloc_old w _ hb]
  have hD : ∀ b, b < w.heap.size → some b ≠ sl.ownBlock → some b ≠ sl'.ownBlock := fun b hb hne e => by
    rcases hat with h | h
    · rw [h] at e; exact hne e
    · rw [h] at e; cases e; omega
  refine ⟨fun q hq => ?_, xs ++ [x], by simp [h1], fun y hy => ?_, fun i hi hi' => ?_, by rw [flat6_app]; simpa using hown⟩
  · rcases List.mem_append.1 hq with hq | hq
    · exact h0 q hq
    · rw [List.mem_singleton.1 hq]; exact hp
  · rcases List.mem_append.1 hy with hy | hy
    · exact h2 y hy
    · simp at hy; subst hy; exact hx6
  · by_cases hlt : i < ps.length
    · rw [List.getElem_append_left hlt, List.getElem_append_left (by omega)]
      exact h0 _ (List.getElem_mem hlt) (fun b hb => ⟨hb.1, by have := hg.size; omega, hD b hb.2.1 hb.2.2⟩) (fun b hb hlt => hkeep b hlt hb.2.2) (h3 i hlt (by omega))
    · have hi2 : i = ps.length := by simp at hi; omega
      subst hi2
      have e1 : (ps ++ [p])[ps.length]'hi = p := by simp
      have e2 : (xs ++ [x])[ps.length]'hi' = x := by
        rw [List.getElem_append_right (by omega)]; simp [h1]
      rw [e1, e2]
      have hno : ∀ b, lo ≤ b → some b ≠ sl.ownBlock := fun b hb e => by have := hlo b e.symm; omega
      exact hp (fun b hb => ⟨by omega, by have := hg.size; omega, hD b hb.2 (hno b hb.1)⟩) (fun b hb hlt => hkeep b hlt (hno b hb.1)) ht
theorem ThG.slice {base : Nat} {ps : List EP} {sl : Value} {w : World} (h : ThG base ps sl w) : ∃ p c, sl = .slice p ps.length c := by
  obtain ⟨_, xs, h1, h2, h3, h4⟩ := h
  rcases h4.2 with ⟨hv, hn⟩ | ⟨g, cap, cur, hv, _⟩
  · exact ⟨none, 0, by rw [hv, hn]⟩
  · exact ⟨_, _, hv⟩
theorem ThG.own {base : Nat} {ps : List EP} {sl : Value} {w : World} (h : ThG base ps sl w) : ∀ g, sl.ownBlock = some g → base ≤ g ∧ g < w.heap.size := by
  obtain ⟨_, xs, h1, h2, h3, h4⟩ := h
  intro g hg
  rcases h4.2 with ⟨hv, hn⟩ | ⟨g', cap, cur, hv, hb, hh, _⟩
  · rw [hv] at hg; simp [Value.ownBlock] at hg
  · rw [hv] at hg
    have : g' = g := by simpa [Value.ownBlock] using hg
    subst this
    exact ⟨hb, (Array.getElem?_eq_some_iff.1 hh).1⟩
/-- The row's cells, and its elements. -/
theorem ThG.row {base : Nat} {ps : List EP} {sl : Value} {w : World} (h : ThG base ps sl w) (hn : ps ≠ []) : ∃ (g cap : Nat) (X : Nat → Array Value), sl = .slice (some ⟨g, 0, none⟩) ps.length cap ∧ base ≤ g ∧ g < w.heap.size ∧ ps.length ≤ cap ∧
    ∀ i (hi : i < ps.length), ps[i] (fun b => base ≤ b ∧ b < w.heap.size) w (X i) ∧ (X i).size = 6 ∧ ∀ j, j < 6 → ∃ y, (X i)[j]? = some y ∧ w.cell? ⟨g, 6 * i + j, none⟩ = some y := by
  obtain ⟨h0, xs, h1, h2, h3, h4⟩ := h
  have hown := h4
  rcases h4.2 with ⟨_, h00⟩ | ⟨g, cap, cur, rfl, hb, hg, hcap, _⟩
  · exact absurd (List.length_eq_zero_iff.1 h00) hn
  · have hgs := (Array.getElem?_eq_some_iff.1 hg).1
    refine ⟨g, cap, fun i => xs.getD i #[], rfl, hb, hgs, hcap, fun i hi => ?_⟩
    have hi' : i < xs.length := by omega
    have e : xs.getD i #[] = xs[i] := by simp [List.getD, hi']
    show ps[i] _ w (xs.getD i #[]) ∧ (xs.getD i #[]).size = 6 ∧ ∀ j, j < 6 → ∃ y, (xs.getD i #[])[j]? = some y ∧ w.cell? ⟨g, 6 * i + j, none⟩ = some y
    rw [e]
    have h6 := h2 xs[i] (List.getElem_mem hi')
    refine ⟨h0 _ (List.getElem_mem hi) (fun b hb => ⟨hb.1, hb.2.1⟩) (fun b hb hlt => rfl) (h3 i hi hi'), h6, fun j hj => ?_⟩
    have hf := flat6_get xs h2 i hi' j hj
    have hj' : j < (xs[i]).size := by omega
    rw [Array.getElem?_eq_getElem hj'] at hf
    refine ⟨(xs[i])[j], Array.getElem?_eq_getElem hj', ?_⟩
    have := World.ownsRow.cells hown rfl _ _ hf
    rw [Addr.add_mid, Nat.zero_add] at this; exact this
/-- A mark behind a list. -/
def markV (i : Nat) : Array Value := nodeC (-7000 - i) u0 (.slice none 0 0)
/-- A twin of the pattern t: its lists have three marks behind them; it lies in blocks of D. -/
inductive TW (D : Nat → Prop) (w : World) : RT → Value → Prop where
  | mk (k : Int) (u : Nat → Int) (ps : List RT) (b c : Nat) (X : Nat → Array Value) (hD : D b) (hb : b < w.heap.size) (hx : ∀ i (h : i < ps.length), TW D w ps[i] (.agg (X i)))
      (hc : ∀ i, i < ps.length → ∀ j, j < 6 → ∃ y, (X i)[j]? = some y ∧ w.cell? ⟨b, 6 * i + j, none⟩ = some y) (hm : ∀ i, i < 3 → ∀ j, j < 6 → ∃ y, (markV i)[j]? = some y ∧ w.cell? ⟨b, 6 * (ps.length + i) + j, none⟩ = some y) (hcap : ps.length + 3 ≤ c) :
      TW D w (.mk k u ps) (.agg (nodeC k u (.slice (some ⟨b, 0, none⟩) ps.length c)))
theorem TW.mono {D E : Nat → Prop} {w w' : World} (hE : ∀ b, D b → E b) (hw : ∀ b, D b → b < w.heap.size → w'.heap[b]? = w.heap[b]?) {t : RT} {v : Value} (h : TW D w t v) : TW E w' t v := by
  induction h with
  | mk k u ps b c X hD hb hx hc hm hcap ih =>
    have hk : ∀ o y, w.cell? ⟨b, o, none⟩ = some y → w'.cell? ⟨b, o, none⟩ = some y := fun o y h => by
      rw [← h]; unfold World.cell?; simp only [hw b hD hb]
    have hb' : b < w'.heap.size := by
      obtain ⟨y, _, h2⟩ := hm 0 (by omega) 0 (by omega)
      exact World.block_lt_of_cell? w' _ (hk _ _ h2)
    exact .mk k u ps b c X (hE b hD) hb' ih (fun i hi j hj => by obtain ⟨y, h1, h2⟩ := hc i hi j hj; exact ⟨y, h1, hk _ _ h2⟩) (fun i hi j hj => by obtain ⟨y, h1, h2⟩ := hm i hi j hj; exact ⟨y, h1, hk _ _ h2⟩) hcap
theorem TW.rv {D : Nat → Prop} {w : World} {t : RT} {v : Value} (h : TW D w t v) : RV D w t v := by
  induction h with
  | mk k u ps b c X hD hb hx hc hm hcap ih =>
    by_cases hn : ps = []
    · subst hn; exact .leaf k u _ c
    · exact .node k u ps b 0 c X hD hn ih (fun i hi j hj => by rw [Nat.zero_add]; exact hc i hi j hj)
theorem TW.form {D : Nat → Prop} {w : World} {t : RT} {v : Value} (h : TW D w t v) : ∃ (k : Int) (u : Nat → Int) (p : Option Addr) (n c : Nat), v = .agg (nodeC k u (.slice p n c)) := by
  cases h with
  | mk k u ps b c X hD hb hx hc hm hcap => exact ⟨k, u, _, _, _, rfl⟩
def twE (t : RT) : EP := fun D w x => TW D w t (.agg x)
def mkE (i : Nat) : EP := fun _ _ x => x = markV i
theorem ThG.twin {base : Nat} {ps : List RT} {sl : Value} {w : World} (h : ThG base (ps.map twE ++ [mkE 0, mkE 1, mkE 2]) sl w) (k : Int) (u : Nat → Int) : ∃ g cap, sl = .slice (some ⟨g, 0, none⟩) (ps.length + 3) cap ∧ ps.length + 3 ≤ cap ∧ base ≤ g ∧ g < w.heap.size ∧
    TW (fun b => base ≤ b ∧ b < w.heap.size) w (.mk k u ps) (.agg (nodeC k u (.slice (some ⟨g, 0, none⟩) ps.length cap))) := by
  obtain ⟨g, cap, X, hs, hb, hg, hcap, hX⟩ := h.row (by simp)
  have hl : (ps.map twE ++ [mkE 0, mkE 1, mkE 2]).length = ps.length + 3 := by simp
  rw [hl] at hs hcap
  refine ⟨g, cap, hs, hcap, hb, hg, .mk k u ps g cap X ⟨hb, hg⟩ hg (fun i hi => ?_) (fun i hi j hj => (hX i (by omega)).2.2 j hj) (fun i hi j hj => ?_) hcap⟩
  · have := (hX i (by omega)).1
    rw [List.getElem_append_left (by simpa using hi), List.getElem_map] at this
    exact this
  · have h1 := hX (ps.length + i) (by omega)
    have h2 := h1.1
    have e : (ps.map twE ++ [mkE 0, mkE 1, mkE 2])[ps.length + i]'(by omega) = mkE i := by
      rw [List.getElem_append_right (by simp)]
      rcases (by omega : i = 0 ∨ i = 1 ∨ i = 2) with rfl | rfl | rfl <;> simp
    rw [e] at h2
    have h3 : X (ps.length + i) = markV i := h2
    have := h1.2.2 j hj
    rwa [h3] at this
end Go.Proofs.Ytemkppjdfjoipaa.R6
