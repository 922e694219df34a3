/- Texts of package regs, one behind the other. -/
import Derived.Test.YtemkppjdfjoipaaProg
import Derived.Test.YtemkppjdfjoipaaW23
import Derived.Test.YtemkppjdfjoipaaW16
import Derived.WalkKit
import Derived.BigFrame
import Derived.WalkMore
import Derived.ScopeJumps
import Derived.StillTailTactics
import Derived.Stop.BytesEq
import Derived.WalkLawsBesides
import Derived.WalkSpells
import Derived.Outline
import Derived.Lib.Walk
import Derived.Lib.Hide
import Derived.Lib.Slices
import Derived.Lib.Strings
import Derived.RegionTactic
import Derived.LoopTactic
import Derived.Below
import Derived.IntWalk
import Derived.Deep.QuietTactic
import Derived.BigQuiet
import Derived.Deep.MidRow
import Derived.Maps.AppendAt
import Derived.Laws.Rows
import Derived.Laws.Tables
import Derived.Deep.WholeRow
import Derived.Deep.Cut
import Derived.Deep.CutRange
import Derived.Lib.SliceRun
import Derived.Laws.MakeOwn
import Derived.Deep.RegionLaw
import Derived.Deep.RegionLawGrows
import Derived.Deep.RegionHeld3
import Derived.RegionCalls
import Derived.Deep.RegionWith
import Derived.Deep.Light
import Derived.Laws.CopyOwn
import Derived.Laws.ResultCell
import Derived.Test.YtemkppjdfjoipaaW38
import Derived.Test.YtemkppjdfjoipaaW45
import Derived.Test.YtemkppjdfjoipaaRS1
import Derived.Deep.SlicePairs
import Derived.Deep.Slices
import Derived.Laws.IdiomArrays
import Derived.OpenShut
import Derived.WideBlind
import Derived.Test.YtemkppjdfjoipaaW43
import Derived.Test.YtemkppjdfjoipaaW15
import Derived.Great.BuildSlice
import Derived.Maps.OwnSet
import Derived.Maps.OwnOps
import Derived.Maps.Own
import Derived.DeepKeys5
section
/- Package raws. -/
namespace Go.Proofs.Ytemkppjdfjoipaa
set_option linter.unusedSimpArgs false
set_option linter.unusedVariables false
set_option maxRecDepth 100000
open Go.RowKit
/- SameRaws. -/
/-- Pieces in memory. -/
def XV (D : Nat → Prop) (w : World) (l : List (Int × Nat × Nat)) (sl : Value) : Prop := ∃ p c, sl = .slice p l.length c ∧ (l ≠ [] → ∃ b o, p = some ⟨b, o, none⟩ ∧ D b ∧ ∀ i (h : i < l.length), w.cell? ⟨b, o + i * 3, none⟩ = some (.int .i64 l[i].1) ∧ w.cell? ⟨b, o + i * 3 + 1, none⟩ = some (.int .i64 (l[i].2.1 : Nat)) ∧ w.cell? ⟨b, o + i * 3 + 2, none⟩ = some (.int .i64 (l[i].2.2 : Nat)))
theorem XV.mono {D E : Nat → Prop} {w w' : World} (hE : ∀ b, D b → E b) (hw : ∀ b, D b → b < w.heap.size → w'.heap[b]? = w.heap[b]?) {l : List (Int × Nat × Nat)} {sl : Value} (h : XV D w l sl) : XV E w' l sl := by
  obtain ⟨p, c, rfl, h⟩ := h
  refine ⟨p, c, rfl, fun hn => ?_⟩
  obtain ⟨b, o, hp, hD, hc⟩ := h hn
  refine ⟨b, o, hp, hE b hD, fun i hi => ?_⟩
  obtain ⟨h1, h2, h3⟩ := hc i hi
  have hk : ∀ o v, w.cell? ⟨b, o, none⟩ = some v → w'.cell? ⟨b, o, none⟩ = some v := fun o v h => by rw [← h]; exact cell_same (hw b hD (blk_lt h)) _
  exact ⟨hk _ _ h1, hk _ _ h2, hk _ _ h3⟩
theorem XV.up {w w' : World} {D : Nat → Prop} (hD : ∀ b, D b → b < w.heap.size) {l : List (Int × Nat × Nat)} {sl : Value} (h : XV D w l sl) (hb : Below w.heap.size w w') : XV D w' l sl := h.mono (fun b h => h) (fun b h _ => hb.block b (hD b h))
theorem rwL_len : ∀ l : List (Int × Nat × Nat), (rwL l).length = l.length * 3
  | [] => rfl
  | x :: l => by
    have := rwL_len l
    show ((rwA x).toList ++ rwL l).length = _
    rw [List.length_append, this, List.length_cons]
    simp [rwA]; omega
theorem rwL_get : ∀ (l : List (Int × Nat × Nat)) (i : Nat) (h : i < l.length), (rwL l)[i * 3]? = some (.int .i64 l[i].1) ∧ (rwL l)[i * 3 + 1]? = some (.int .i64 (l[i].2.1 : Nat)) ∧ (rwL l)[i * 3 + 2]? = some (.int .i64 (l[i].2.2 : Nat))
  | x :: l, 0, h => ⟨rfl, rfl, rfl⟩
  | x :: l, i + 1, h => by
    have := rwL_get l i (by simpa using h)
    have e : rwL (x :: l) = (rwA x).toList ++ rwL l := rfl
    have e3 : ((rwA x).toList).length = 3 := rfl
    rw [e]
    refine ⟨?_, ?_, ?_⟩
    · rw [List.getElem?_append_right (by omega), e3, show (i + 1) * 3 - 3 = i * 3 by omega]; simpa using this.1
    · rw [List.getElem?_append_right (by omega), e3, show (i + 1) * 3 + 1 - 3 = i * 3 + 1 by omega]; simpa using this.2.1
    · rw [List.getElem?_append_right (by omega), e3, show (i + 1) * 3 + 2 - 3 = i * 3 + 2 by omega]; simpa using this.2.2
theorem eq3g (n : Nat) (x y : Int) (w : World) : (Op.equalIn (n + 1) 3 (.int .i64 x) (.int .i64 y)).run Try.prog w = .ok (x == y) w := by
  rw [Op.equalIn]
  simp [run_underlying Try.underlying3]
end Go.Proofs.Ytemkppjdfjoipaa
end
section
/- Package raws. -/
namespace Go.Proofs.Ytemkppjdfjoipaa
set_option linter.unusedSimpArgs false
set_option linter.unusedVariables false
set_option maxRecDepth 100000
open Go.RowKit
/- RawsKeep. -/
theorem wpList_load_Do {ops : Array Oper} {rest : List Oper} {op : Oper} {a : Act} {w : World} {Q : Exit → Act → World → Prop} (x : Operand) (ho : op.op = .load 61 x) (b o : Nat) (ds : Array Value) (hx : a.eval x = .pointer (some ⟨b, o, none⟩)) (hc : ∀ j v, ds[j]? = some v → w.cell? ⟨b, o + j, none⟩ = some v) (hs : ds.size = 259)
    (hw : Region.wanted op (yielded ops a.tmps) = true) (h : wpList Try.prog ops Q rest (a.put op.dst (.agg ds)) w) : wpList Try.prog ops Q (op :: rest) a w :=
  BigFrame.wpList_want hw fun K hK => wp_load_mid 61 x ho b o hx ds.toList _ (fun j v hj => hc j v (by simpa using hj)) Try.underlying61 rfl (by rw [info26]; simp [hs]) (by simpa using hK _ _ h)
/-- A Scan's cells. -/
structure SC (vs ds : Array Value) (qr : Option Addr) (n fr : Nat) : Prop where
  sz : vs.size = 260
  r : vs[0]? = some (.slice qr n fr)
  d : ∀ j v, ds[j]? = some v → vs[1 + j]? = some v
end Go.Proofs.Ytemkppjdfjoipaa
end
section
/- Package raws. -/
namespace Go.Proofs.Ytemkppjdfjoipaa
set_option linter.unusedSimpArgs false
set_option linter.unusedVariables false
set_option maxRecDepth 100000
open Go.RowKit
/- A Scan that was handed in. -/
open Go.ChangeShapes Go.WideShapes in
theorem dfa_open {H : Type} {enc : TypeId × Value → H} {w : World} {held : Bool} {fuel : Nat} {cs : List Value} {x : DataW H × List MemPlace} (h : DataW.trod enc Try.prog w 0 (fun _ => true) held fuel 61 cs = some x) (hw : ∀ n ∈ x.1.weights Try.prog 61, n ≤ reachBytes) :
    ∃ (a : Df) (q q2 : Option Addr) (c c2 : Nat), DC a cs.toArray q q2 c c2 ∧ DM (fun b => b < w.heap.size) w a q q2 c c2 := by
  obtain ⟨xs, n, rfl, hx, hlen', hxl, hf⟩ := DataW.trod_struct Try.underlying61 h
  rw [cells26] at hlen'
  have f0 := hf 0 _ rfl
  have f1 := hf 1 _ rfl
  have f2 := hf 2 _ rfl
  have f3 := hf 3 _ rfl
  have hxl3 : xs.length = 4 := hxl
  match xs, hxl3 with
  | [y0, y1, y2, y3], _ =>
    have g0 : DataW.trod enc Try.prog w 0 (fun _ => true) held n 3 ((cs.drop 0).take (Try.prog.cellsOf 3)) = some y0 := f0
    have g1 : DataW.trod enc Try.prog w 0 (fun _ => true) held n 58 ((cs.drop 1).take (Try.prog.cellsOf 58)) = some y1 := f1
    have g2 : DataW.trod enc Try.prog w 0 (fun _ => true) held n 59 ((cs.drop 257).take (Try.prog.cellsOf 59)) = some y2 := f2
    have g3 : DataW.trod enc Try.prog w 0 (fun _ => true) held n 25 ((cs.drop 258).take (Try.prog.cellsOf 25)) = some y3 := f3
    rw [cells3, take1 (by omega)] at g0
    rw [cells22] at g1
    rw [cells23, take1 (by omega)] at g2
    rw [cells24, take1 (by omega)] at g3
    have hd : x.1 = .agg [y0.1, y1.1, y2.1, y3.1] := by rw [hx]; rfl
    have hw2 : ∀ q ∈ y2.1.weights Try.prog 59, q ≤ reachBytes := fun q hq => by
      refine hw q ?_
      rw [hd]
      unfold DataW.weights
      rw [Try.underlying61]
      exact DataW.weights_mem_each (j := 2) (t := 59) (d := y2.1) rfl rfl q hq
    have hw3 : ∀ q ∈ y3.1.weights Try.prog 25, q ≤ reachBytes := fun q hq => by
      refine hw q ?_
      rw [hd]
      unfold DataW.weights
      rw [Try.underlying61]
      exact DataW.weights_mem_each (j := 3) (t := 25) (d := y3.1) rfl rfl q hq
    obtain ⟨st, e0, -, hst⟩ := DataW.trod_int Try.underlying3 g0
    obtain ⟨_, cl, hcl⟩ := class_open g1
    obtain ⟨ls, q, c, e2, h2, l2, l3⟩ := rows_open g2 hw2
    obtain ⟨rl, q2, c2, e3, h3, l4⟩ := ints_open g3 hw3
    have hst' : -9223372036854775808 ≤ st ∧ st ≤ 9223372036854775807 := by simpa [Lit.wf, IntKind.min, IntKind.max, IntKind.signed, IntKind.bits] using hst
    have hsz : cs.toArray.size = 259 := by simpa using hlen'
    have c0 : cs.toArray[0]? = some (.int .i64 st) := by
      have e1 : cs[0] = .int .i64 st := by simpa using e0
      rw [List.getElem?_toArray, List.getElem?_eq_getElem (by omega), e1]
    have cc : ∀ i, i < 256 → cs.toArray[1 + i]? = some (.int .u8 (cl i : Nat)) ∧ cl i < 256 := fun i hi => by
      have h1 := hcl i hi
      rw [List.getElem?_take_of_lt hi, List.getElem?_drop] at h1
      rw [List.getElem?_toArray]
      exact h1
    have c257 : cs.toArray[257]? = some (.slice q ls.length c) := by rw [List.getElem?_toArray, List.getElem?_eq_getElem (by omega), e2]
    have c258 : cs.toArray[258]? = some (.slice q2 rl.length c2) := by rw [List.getElem?_toArray, List.getElem?_eq_getElem (by omega), e3]
    refine ⟨⟨st, cl, ls, rl⟩, q, q2, c, c2, ⟨hsz, fun v hv => ?_, c0, cc, c257, c258⟩, ⟨by rw [← e2]; exact h2, by rw [← e3]; exact h3, fun b h => h, l2, l4, l3⟩⟩
    rw [Array.mem_iff_getElem?] at hv
    obtain ⟨i, hi⟩ := hv
    have hlt := (Array.getElem?_eq_some_iff.1 hi).1
    by_cases i0 : i = 0
    · subst i0; rw [c0] at hi; cases hi; rfl
    · by_cases i1 : i < 257
      · have := (cc (i - 1) (by omega)).1
        rw [show 1 + (i - 1) = i by omega, hi] at this
        cases this; rfl
      · by_cases i2 : i = 257
        · subst i2; rw [c257] at hi; cases hi; rfl
        · have : i = 258 := by omega
          subst this; rw [c258] at hi; cases hi; rfl
theorem cells63 : Try.prog.cellsOf 63 = 260 := by kernel_rfl
theorem cells52 : Try.prog.cellsOf 57 = 1 := by kernel_rfl
def zero72 : Array Value := #[.slice none 0 0] ++ zero26
end Go.Proofs.Ytemkppjdfjoipaa
end
section
/- small -/
namespace Go.Proofs.Ytemkppjdfjoipaa.I1.X
set_option linter.unusedSimpArgs false
set_option linter.unusedVariables false
set_option maxRecDepth 100000
open Go.RowKit
/- small; rules as they are read. -/
theorem list_ex {P : Nat → Int → Prop} : ∀ n, (∀ i, i < n → ∃ x, P i x) → ∃ l : List Int, l.length = n ∧ ∀ i (h : i < l.length), P i l[i]
  | 0, _ => ⟨[], rfl, fun i h => by simp at h⟩
  | n + 1, h => by
    obtain ⟨l, hl, hp⟩ := list_ex n (fun i hi => h i (by omega))
    obtain ⟨x, hx⟩ := h n (by omega)
    refine ⟨l ++ [x], by simp [hl], fun i hi => ?_⟩
    by_cases e : i < l.length
    · rw [List.getElem_append_left e]; exact hp i e
    · have e2 : i = n := by simp [hl] at hi; omega
      subst e2
      rw [List.getElem_append_right (by omega)]
      simp only [hl, Nat.sub_self, List.getElem_cons_zero]
      exact hx
theorem kr_of {D : Nat → Prop} {w : World} {ts : List R6.RT} {q : Option Addr} {f : Nat} (h : R6.RuV D w ts (.slice q ts.length f)) : ∃ kl : List Int, kl.length = ts.length ∧ KR D w kl q := by
  obtain ⟨q', f', he, hh⟩ := h
  injection he with e1 e2 e3
  subst e1 e3
  by_cases hn : ts = []
  · subst hn; exact ⟨[], rfl, fun h => absurd rfl h⟩
  · obtain ⟨b, o, rfl, hD, hc⟩ := hh hn
    obtain ⟨kl, hl, hp⟩ := list_ex (P := fun i x => ∃ (k u0 u1 u2 u3 : Int) (p : Option Addr) (n c : Nat),
      w.cell? ⟨b, o + i * 7, none⟩ = some (.int .i64 x) ∧ w.cell? ⟨b, o + i * 7 + 1, none⟩ = some (.int .i64 k) ∧ w.cell? ⟨b, o + i * 7 + 2, none⟩ = some (.int .u64 u0) ∧ w.cell? ⟨b, o + i * 7 + 3, none⟩ = some (.int .u64 u1) ∧ w.cell? ⟨b, o + i * 7 + 4, none⟩ = some (.int .u64 u2) ∧ w.cell? ⟨b, o + i * 7 + 5, none⟩ = some (.int .u64 u3) ∧ w.cell? ⟨b, o + i * 7 + 6, none⟩ = some (.slice p n c)) ts.length (fun i hi => by
        obtain ⟨kd, k, u, p, n, c, _, hcc⟩ := hc i hi
        exact ⟨kd, k, u 0, u 1, u 2, u 3, p, n, c, hcc 0 _ rfl, hcc 1 _ rfl, hcc 2 _ rfl, hcc 3 _ rfl, hcc 4 _ rfl, hcc 5 _ rfl, hcc 6 _ rfl⟩)
    exact ⟨kl, hl, fun _ => ⟨b, o, rfl, hD, hp⟩⟩
def smA (x : ByteArray) (d : Df) (ts : List R6.RT) : Bool := decide (x.size ≤ 300) && (!bigD 20000 d && !(decide (5000 < ts.length) || decide (5000 < R6.szL ts + 1)))
theorem smA_true {x : ByteArray} {d : Df} {ts : List R6.RT} (h : smA x d ts = true) : x.size ≤ 300 ∧ d.nx.length + d.rl.length + sumL d.nx ≤ 20000 ∧ ts.length ≤ 5000 := by
  unfold smA at h
  simp only [Bool.and_eq_true, decide_eq_true_eq, Bool.not_eq_true', Bool.or_eq_false_iff, decide_eq_false_iff_not] at h
  exact ⟨h.1, bigD_no h.2.1, by omega⟩
set_option maxHeartbeats 8000000 in
theorem small12_any {w : World} {D : Nat → Prop} {d : Df} {ds : Array Value} {p q : Option Addr} {c f fr : Nat} {ts : List R6.RT} {qr : Option Addr} (s : ByteArray) (hd : DC d ds p q c f) (hm : DM D w d p q c f) (hR : R6.RuV D w ts (.slice qr ts.length fr)) (hln : ts.length ≤ 9223372036854775806) (hwid : ∀ t ∈ ts, R6.wid t ≤ 9223372036854775806) :
    Calls Try.prog 20 #[.slice qr ts.length fr, .agg ds, .string s] w fun e w' => e = .returned (.bool (smA s d ts)) ∧ Below w.heap.size w w' := by
  have HSZ := Lib.hid hd.sz
  have S0 := Lib.hid ((Sb.start w).alloc (.cells ds 61))
  have HB0 : Hid (BX (w.alloc (.cells ds 61)) w.heap.size ds) := Lib.hid S0.out.heap
  have HBG := Lib.hid (big_any 20000 (by omega) hd (hm.up S0.out.1))
  have HRB : Hid (∀ z, Below w.heap.size w z → Calls Try.prog 45 #[.slice qr ts.length fr, .int .i64 (5000 : Nat)] z fun e w' => e = .returned (.bool (decide (5000 < ts.length) || decide (5000 < R6.szL ts + 1))) ∧ Below z.heap.size z w') := Lib.hid fun z hz => R6.rulesbig_any 5000 (by omega) (fun b hb => Nat.lt_of_lt_of_le (hm.lt b hb) hz.size) (hR.mono (fun b h => h) (fun b hb _ => hz.block b (hm.lt b hb))) hln hwid
  obtain ⟨b1, hb1⟩ : ∃ b, bigD 20000 d = b := ⟨_, rfl⟩
  obtain ⟨b2, hb2⟩ : ∃ b, (decide (5000 < ts.length) || decide (5000 < R6.szL ts + 1)) = b := ⟨_, rfl⟩
  have HX : Hid (smA s d ts = (decide (s.size ≤ 300) && (!b1 && !b2))) := Lib.hid (by unfold smA; rw [hb1, hb2])
  rw [HX.out]
  rw [hb1] at HBG
  rw [hb2] at HRB
  obtain ⟨nt, hnt⟩ : ∃ n, ts.length = n := ⟨_, rfl⟩
  rw [hnt] at HRB ⊢
  clear hd hm hR hwid hln hb1 hb2 HX hnt
  go_enter Try.func20, Try.ntmps20
  by_cases h300 : s.size ≤ 300
  · have h300' : (s.size : Int) ≤ 300 := by omega
    rw [decide_eq_true h300]
    go_wp2_with (refine wpList_load_Dg _ rfl w.heap.size ds rfl HB0.out HSZ.out rfl ?_)
    refine HBG.out.mono ?_
    rintro _ w1 ⟨rfl, hb⟩
    have S1 := Lib.hid (S0.out.up hb)
    clear hb S0 HB0 HBG
    cases b1 with
    | true =>
      go_wp2_with fail
      go_ret
      exact ⟨rfl, S1.out.1⟩
    | false =>
      go_wp2_with fail
      refine (HRB.out _ S1.out.1).mono ?_
      rintro _ w2 ⟨rfl, hb⟩
      have S2 := Lib.hid (S1.out.up hb)
      clear hb
      cases b2 <;> (go_wp2_with fail; go_ret; exact ⟨rfl, S2.out.1⟩)
  · have h300' : ¬ (s.size : Int) ≤ 300 := by omega
    rw [decide_eq_false h300]
    go_wp2_with fail
    go_ret
    exact ⟨rfl, S0.out.1⟩
/-- What stood there, put there. -/
theorem splice_same (x : ByteArray) {a b : Nat} (h1 : a ≤ b) (h2 : b ≤ x.size) : Ed.splice x a b (x.extract a b) = x := by
  have hx : x = ⟨x.data.toList.toArray⟩ := by cases x; simp
  unfold Ed.splice
  have e1 : (x.extract a b).data.toList = (x.data.toList.drop a).take (b - a) := by
    rw [ByteArray.data_extract, Array.toList_extract]
  have e2 : x.data.toList.take a ++ (x.data.toList.drop a).take (b - a) ++ x.data.toList.drop b = x.data.toList := by
    have h3 : x.data.toList.take b = x.data.toList.take a ++ (x.data.toList.drop a).take (b - a) := by
      rw [← List.take_add]; congr 1; omega
    rw [← h3, List.take_append_drop]
  rw [e1, e2]
theorem chk_same (x : ByteArray) {a b : Nat} (h0 : x.size ≤ 65536) (h1 : a ≤ b) (h2 : b ≤ x.size) : Ed.checkZ x.size (a : Nat) (b : Nat) (x.extract a b) = 0 := by
  have hs : (x.extract a b).size = b - a := by simp; omega
  have hw : Ed.withinB (a : Nat) (b : Nat) x.size = true := by
    unfold Ed.withinB
    simp only [Bool.and_eq_true, decide_eq_true_eq]
    omega
  unfold Ed.checkZ
  rw [if_neg (by omega), hw, if_neg (by simp), if_neg (by rw [hs]; omega)]
end Go.Proofs.Ytemkppjdfjoipaa.I1.X
end
section
/- A scanner as an argument -/
namespace Go.Proofs.Ytemkppjdfjoipaa.AB
set_option linter.unusedSimpArgs false
set_option linter.unusedVariables false
set_option maxRecDepth 100000
open Go.RowKit
/- A scanner as an argument. -/
theorem open_scanner {H : Type} {enc : TypeId × Value → H} {w : World} {r : Reach} {b0 : Nat} {held : Bool} {v : Value} {d : DataW H} {p : List MemPlace} (hv : Value.okWide Try.prog w r b0 63 v) (h : DataW.Trod enc Try.prog w 0 (fun _ => true) held 63 v d p) (hw : ∀ n ∈ d.weights Try.prog 63, n ≤ reachBytes) :
    ∃ (vs : Array Value) (ts : List R6.RT) (qa : Option Addr) (ca : Nat) (a : Df) (ds : Array Value) (q q2 : Option Addr) (c c2 : Nat), v = .agg vs ∧ SC vs ds qa ts.length ca ∧ R6.RuV (fun b => b < w.heap.size) w ts (.slice qa ts.length ca) ∧ ts.length ≤ 9223372036854775806 ∧ DC a ds q q2 c c2 ∧ DM (fun b => b < w.heap.size) w a q q2 c c2 ∧ ∀ t ∈ ts, R6.wid t ≤ 9223372036854775806 := by
  obtain ⟨cs, rfl⟩ : ∃ cs, v = .agg cs := by
    have := hv
    simp [Value.okWide, Try.underlying63] at this
    obtain ⟨cs, h1, _⟩ := this
    exact ⟨cs, h1⟩
  obtain ⟨fuel, hf⟩ := h
  obtain ⟨xs, n, rfl, hx, hlen', hxl, hf⟩ := DataW.trod_struct Try.underlying63 hf
  rw [cells63] at hlen'
  have e : (Value.agg cs).cells.toList = cs.toList := by simp [Value.cells]
  rw [e] at hlen' hf
  have f0 := hf 0 _ rfl
  have f1 := hf 1 _ rfl
  have hxl3 : xs.length = 2 := hxl
  match xs, hxl3 with
  | [y0, y1], _ =>
    have g0 : DataW.trod enc Try.prog w 0 (fun _ => true) held n 57 ((cs.toList.drop 0).take (Try.prog.cellsOf 57)) = some y0 := f0
    have g1 : DataW.trod enc Try.prog w 0 (fun _ => true) held n 61 ((cs.toList.drop 1).take (Try.prog.cellsOf 61)) = some y1 := f1
    rw [cells52, take1 (by omega)] at g0
    rw [cells26] at g1
    have hd : d = .agg [y0.1, y1.1] := by simpa using (Prod.mk.inj hx).1
    have hw0 : ∀ q ∈ y0.1.weights Try.prog 57, q ≤ reachBytes := fun q hq => by
      refine hw q ?_
      rw [hd]
      unfold DataW.weights
      rw [Try.underlying63]
      exact DataW.weights_mem_each (j := 0) (t := 57) (d := y0.1) rfl rfl q hq
    have hw1 : ∀ q ∈ y1.1.weights Try.prog 61, q ≤ reachBytes := fun q hq => by
      refine hw q ?_
      rw [hd]
      unfold DataW.weights
      rw [Try.underlying63]
      exact DataW.weights_mem_each (j := 1) (t := 61) (d := y1.1) rfl rfl q hq
    obtain ⟨ts, qa, ca, e0, hV, hl, hwd⟩ := R6.rules_open g0 hw0
    obtain ⟨a, q, q2, c, c2, hdc, hdm⟩ := dfa_open g1 hw1
    rw [e0] at hV
    refine ⟨cs, ts, qa, ca, a, _, q, q2, c, c2, rfl, ⟨by simpa using hlen', ?_, fun j v hj => ?_⟩, hV, hl, hdc, hdm, fun t ht => (hwd t ht).1⟩
    · rw [← Array.getElem?_toList, List.getElem?_eq_getElem (by omega)]
      exact congrArg some (by simpa using e0)
    · have hlt := (Array.getElem?_eq_some_iff.1 hj).1
      rw [hdc.sz] at hlt
      rw [List.getElem?_toArray, List.getElem?_take_of_lt hlt, List.getElem?_drop, Array.getElem?_toList] at hj
      exact hj
end Go.Proofs.Ytemkppjdfjoipaa.AB
end
