/- Texts of package regs, one behind the other. -/
import Derived.Test.YthglciccejholaaDoorProg
import Derived.Test.YthglciccejholaaDoorDh
import Derived.WalkKit
import Derived.BigFrame
import Derived.Stop.BytesEq
import Derived.WalkLawsBesides
import Derived.WalkSpells
import Derived.Outline
import Derived.Lib.Walk
import Derived.Lib.Hide
import Derived.Lib.Slices
import Derived.Lib.Strings
import Derived.RegionTactic
import Derived.LoopTactic
import Derived.Below
import Derived.IntWalk
import Derived.Deep.QuietTactic
import Derived.BigQuiet
import Derived.Deep.MidRow
import Derived.Maps.AppendAt
import Derived.Laws.Rows
import Derived.Laws.Tables
import Derived.Deep.WholeRow
import Derived.Deep.Cut
import Derived.Deep.CutRange
import Derived.Lib.SliceRun
import Derived.Laws.MakeOwn
import Derived.Deep.RegionLaw
import Derived.Deep.RegionLawGrows
import Derived.Deep.RegionHeld3
import Derived.RegionCalls
import Derived.Deep.RegionWith
import Derived.Deep.Light
import Derived.Laws.CopyOwn
import Derived.Laws.ResultCell
import Derived.Test.YthglciccejholaaDoorZ2
section
/- Packages dfa, mini, munch. -/
namespace Go.Proofs.YthglciccejholaaDoor
set_option linter.unusedSimpArgs false
set_option linter.unusedVariables false
set_option maxRecDepth 100000
open Go.RowKit
/- SameDfa. -/
def clsEq (a b : Df) : Bool := (List.range 256).all fun i => decide (a.cl i = b.cl i)
def sameD (a b : Df) : Bool := decide (a.st = b.st) && (clsEq a b && (decide (a.rl = b.rl) && decide (a.nx = b.nx)))
def clU (d : Df) : List UInt8 := (List.range 256).map fun i => UInt8.ofNat (d.cl i)
theorem clU_len (d : Df) : (clU d).length = 256 := by unfold clU; rw [List.length_map, List.length_range]
theorem clA_cells {d : Df} (h : ∀ i, i < 256 → d.cl i < 256) : clA d = (clU d).map Extern.Stop.cell := by
  unfold clA clU
  rw [List.map_map]
  refine List.map_congr_left fun i hi => ?_
  have := h i (List.mem_range.1 hi)
  show Value.int .u8 (d.cl i : Nat) = Value.int .u8 (Int.ofNat (UInt8.ofNat (d.cl i)).toNat)
  rw [UInt8.toNat_ofNat_of_lt' (by omega)]; rfl
theorem clU_eq {a b : Df} (ha : ∀ i, i < 256 → a.cl i < 256) (hb : ∀ i, i < 256 → b.cl i < 256) : (clU a == clU b) = clsEq a b := by
  rw [Bool.eq_iff_iff, beq_iff_eq]
  unfold clsEq clU
  rw [List.all_eq_true]
  constructor
  · intro h i hi
    have hi' := List.mem_range.1 hi
    have h1 := congrArg (fun l => l[i]?) h
    simp only [List.getElem?_map, List.getElem?_range hi', Option.map_some, Option.some.injEq] at h1
    have h2 := congrArg UInt8.toNat h1
    rw [UInt8.toNat_ofNat_of_lt' (by have := ha i hi'; omega), UInt8.toNat_ofNat_of_lt' (by have := hb i hi'; omega)] at h2
    simpa using h2
  · intro h
    refine List.map_congr_left fun i hi => ?_
    have := h i hi
    simp only [decide_eq_true_eq] at this
    rw [this]
theorem size5 (w : World) : (sizeOf 5).run Tryd.prog w = .ok 1 w := by
  simp [go_sem, Tryd.sizeOf5]
theorem eq22 {a b : Df} (ha : ∀ i, i < 256 → a.cl i < 256) (hb : ∀ i, i < 256 → b.cl i < 256) (w : World) : (binOp .neq 45 (.agg (clA a).toArray) (.agg (clA b).toArray)).run Tryd.prog w = .ok (.bool (!clsEq a b)) w := by
  have e := fun w => run_equalIn_bytes (P := Tryd.prog) w 9998 45 5 256 Tryd.underlying45 Tryd.underlying5 size5 (clU a) (clU b) (clU_len a) (clU_len b)
  rw [clA_cells ha, clA_cells hb, ← clU_eq ha hb]
  simp only [binOp]
  simp [Op.equal, Op.maxDepth, e]
theorem guard22 (x y : Operand) (xs ys : Array Value) (w : World) : (eqGuard .neq 45 x y (.agg xs) (.agg ys)).run Tryd.prog w = .ok () w := by
  have h : Tryd.prog.eqGuardType Tryd.prog.depth 45 = false := by kernel_rfl
  simp [eqGuard, h, go_sem]
theorem wpList_neq22 {ops : Array Oper} {rest : List Oper} {op : Oper} {a : Act} {w : World} {Q : Exit → Act → World → Prop} (x y : Operand) (t : TypeId) (ho : op.op = .binOp .neq 45 x y t) (d e : Df) (hx : a.eval x = .agg (clA d).toArray) (hy : a.eval y = .agg (clA e).toArray)
    (hd : ∀ i, i < 256 → d.cl i < 256) (he : ∀ i, i < 256 → e.cl i < 256) (r : Bool) (hr : (!clsEq d e) = r)
    (hw : Region.wanted op (yielded ops a.tmps) = true) (h : wpList Tryd.prog ops Q rest (a.put op.dst (.bool r)) w) : wpList Tryd.prog ops Q (op :: rest) a w :=
  BigFrame.wpList_want hw fun K hK => by
    unfold Oper.wp execOp
    simp only [ho, hx, hy]
    simp only [Sem.run_bind, guard22, Result.andThen_ok, eq22 hd he, hr]
    exact hK _ _ h
theorem wpList_load_22 {ops : Array Oper} {rest : List Oper} {op : Oper} {a : Act} {w : World} {Q : Exit → Act → World → Prop} (x : Operand) (ho : op.op = .load 45 x) (b : Nat) (d : Df) (hx : a.eval x = .pointer (some ⟨b, 1, none⟩)) (hr : w.rangeAt b 1 (clA d))
    (hw : Region.wanted op (yielded ops a.tmps) = true) (h : wpList Tryd.prog ops Q rest (a.put op.dst (.agg (clA d).toArray)) w) : wpList Tryd.prog ops Q (op :: rest) a w :=
  BigFrame.wpList_want hw fun K hK => wp_load_mid 45 x ho b 1 hx (clA d) _ hr Tryd.underlying45 rfl (by rw [info22, clA_len]) (hK _ _ h)
end Go.Proofs.YthglciccejholaaDoor
end
section
/- Packages dfa, mini, munch. -/
namespace Go.Proofs.YthglciccejholaaDoor
set_option linter.unusedSimpArgs false
set_option linter.unusedVariables false
set_option maxRecDepth 100000
open Go.RowKit
/- SameDfa. -/
theorem two_boxes (w : World) (ds es : Array Value) : BX ((w.alloc (.cells ds 48)).alloc (.cells es 48)) w.heap.size ds ∧ BX ((w.alloc (.cells ds 48)).alloc (.cells es 48)) (w.heap.size + 1) es ∧ Below w.heap.size w ((w.alloc (.cells ds 48)).alloc (.cells es 48)) := by
  have hs : (w.alloc (.cells ds 48)).heap.size = w.heap.size + 1 := by simp
  have h1 := (Below.refl w.heap.size w).alloc (Nat.le_refl _) (.cells ds 48)
  refine ⟨?_, ?_, h1.alloc (by omega) _⟩
  · exact (heap_alloc_old _ _ (by omega)).trans (heap_alloc_last w _)
  · have := heap_alloc_last (w.alloc (.cells ds 48)) (.cells es 48)
    rw [hs] at this; exact this
set_option maxHeartbeats 8000000 in
theorem samedfa_any {D E : Nat → Prop} {w : World} {d e : Df} {ds es : Array Value} {p q p2 q2 : Option Addr} {c f c2 f2 : Nat} (hd : DC d ds p q c f) (hm : DM D w d p q c f) (he : DC e es p2 q2 c2 f2) (hn : DM E w e p2 q2 c2 f2) :
    Calls Tryd.prog 27 #[.agg ds, .agg es] w fun r w' => r = .returned (.bool (sameD d e)) ∧ Below w.heap.size w w' := by
  obtain ⟨k1, k2, s0⟩ := two_boxes w ds es
  have S0 := Lib.hid s0
  have K1 := Lib.hid k1
  have K2 := Lib.hid k2
  have HR1 := Lib.hid (hd.range k1)
  have HR2 := Lib.hid (he.range k2)
  have HC1 := Lib.hid fun i h => (hd.cl i h).2
  have HC2 := Lib.hid fun i h => (he.cl i h).2
  have a0 := (k1.cell 0).trans hd.st
  have a1 := (k1.cell 257).trans hd.nx
  have a2 := (k1.cell 258).trans hd.rl
  have b0 := (k2.cell 0).trans he.st
  have b1 := (k2.cell 257).trans he.nx
  have b2 := (k2.cell 258).trans he.rl
  have A1 := Lib.hid hd.nx
  have B1 := Lib.hid he.nx
  have HSM := Lib.hid (d7_same_any (pa := q) (pb := q2) (ca := f) (cb := f2) hm.l2 (hm.up s0).lt (hn.up s0).lt (hm.up s0).rl (hn.up s0).rl)
  have HNV := Lib.hid hm.nx
  have HNV2 := Lib.hid hn.nx
  have HLT := Lib.hid hm.lt
  have HLT2 := Lib.hid hn.lt
  have HL3 := Lib.hid hm.l3
  have hl1 := hm.l1
  have hl2 := hn.l1
  obtain ⟨R, hR⟩ : ∃ R, sameD d e = R := ⟨_, rfl⟩
  rw [hR]
  unfold sameD at hR
  generalize d.st = st at *
  generalize e.st = st2 at *
  have HRR := Lib.hid hR
  obtain ⟨ls, hls⟩ : ∃ ls, d.nx = ls := ⟨_, rfl⟩
  obtain ⟨ls2, hls2⟩ : ∃ ls2, e.nx = ls2 := ⟨_, rfl⟩
  rw [hls] at HNV HL3 hl1 a1 HRR A1
  rw [hls2] at HNV2 hl2 b1 HRR B1
  clear hd hm he hn s0 k1 k2 hR hls hls2
  obtain ⟨n1, hn1⟩ : ∃ n1, ls.length = n1 := ⟨_, rfl⟩
  obtain ⟨n2, hn2⟩ : ∃ n2, ls2.length = n2 := ⟨_, rfl⟩
  rw [hn1] at hl1 a1 A1
  rw [hn2] at hl2 b1 B1
  have HN1 := Lib.hid hn1
  have HN2 := Lib.hid hn2
  clear hn1 hn2
  obtain ⟨ce, hce⟩ : ∃ ce, (!clsEq d e) = ce := ⟨_, rfl⟩
  have HCE := Lib.hid hce
  clear hce
  go_enter Tryd.func27, Tryd.ntmps27
  by_cases hst : st = st2
  · have hst' : (st != st2) = false := by simp [hst]
    cases ce with
    | true =>
      go_wp2_with (first | (refine wpList_load_22 _ rfl w.heap.size d rfl HR1.out rfl ?_) | (refine wpList_load_22 _ rfl (w.heap.size + 1) e rfl HR2.out rfl ?_) | (refine wpList_neq22 _ _ _ rfl d e rfl rfl HC1.out HC2.out _ HCE.out rfl ?_))
      go_ret
      exact ⟨vbool (by rw [← HRR.out]; have := HCE.out; simp at this; simp [this]), S0.out⟩
    | false =>
      by_cases hnn : n1 = n2
      · subst hnn
        have hn' : ((n1 : Int) != (n1 : Int)) = false := by simp
        go_wp2_with (first | (refine wpList_load_22 _ rfl w.heap.size d rfl HR1.out rfl ?_) | (refine wpList_load_22 _ rfl (w.heap.size + 1) e rfl HR2.out rfl ?_) | (refine wpList_neq22 _ _ _ rfl d e rfl rfl HC1.out HC2.out _ HCE.out rfl ?_))
        refine HSM.out.mono ?_
        rintro _ w1 ⟨rfl, hb1⟩
        have S1 := Lib.hid (S0.out.trans (hb1.mono S0.out.size))
        have L1 := Lib.hid (K1.out.up hb1)
        have L2 := Lib.hid (K2.out.up hb1)
        clear hb1 a0 a1 a2 b0 b1 b2 HSM S0 K1 K2 HR1 HR2 hst' hn'
        obtain ⟨rle, hrle⟩ : ∃ rle, decide (d.rl = e.rl) = rle := ⟨_, rfl⟩
        rw [hrle] at HRR ⊢
        clear hrle
        cases rle with
        | false =>
          go_wp2_with fail
          go_ret
          exact ⟨vbool (by rw [← HRR.out]; simp), S1.out⟩
        | true =>
          have HRES : Hid (decide (ls = ls2) = R) := Lib.hid (by rw [← HRR.out, hst]; have := HCE.out; simp at this; simp [this])
          clear HRR hst HCE HC1 HC2
          go_wp2_with fail
          go_loopw [5] (fun i wr => ∃ j : Nat, i = .int .i64 (j : Nat) ∧ j ≤ n1 ∧ Hid (ls.take j = ls2.take j) ∧ Hid (BX wr w.heap.size ds) ∧ Hid (BX wr (w.heap.size + 1) es) ∧ Hid (Below w.heap.size w wr)) (fun i _ => n1 - (intOf i).toNat)
          case atStart => exact ⟨0, rfl, by omega, Lib.hid (by simp), L1, L2, S1⟩
          case round =>
          clear S1 L1 L2
          obtain ⟨j, rfl, hj, HT, L1, L2, HS⟩ := hrel
          have x1 : wr.cell? ⟨w.heap.size, 257, none⟩ = some (.slice p n1 c) := (L1.out.cell 257).trans A1.out
          have x2 : wr.cell? ⟨w.heap.size + 1, 257, none⟩ = some (.slice p2 n1 c2) := (L2.out.cell 257).trans B1.out
          by_cases hlt : j < n1
          · have hlt1 : j < ls.length := by rw [HN1.out]; exact hlt
            have hlt2 : j < ls2.length := by rw [HN2.out]; exact hlt
            obtain ⟨p', c', he, hh⟩ := HNV.out
            injection he with e1 e2 e3
            subst e1 e3
            clear e2
            obtain ⟨b, o, rfl, hb, hc⟩ := hh (by intro e; rw [e] at hlt1; simp at hlt1)
            obtain ⟨qf, ff, hiv, hcj⟩ := hc j hlt1
            obtain ⟨p', c', he, hh2⟩ := HNV2.out
            injection he with e1 e2 e3
            subst e1 e3
            clear e2
            obtain ⟨b2, o2, rfl, hb2, hc2⟩ := hh2 (by intro e; rw [e] at hlt2; simp at hlt2)
            obtain ⟨qg, fg, hiv2, hcj2⟩ := hc2 j hlt2
            have y1 : wr.cell? ⟨b, o + j, none⟩ = some (.slice qf ls[j].length ff) := (cell_same (HS.out.block b (HLT.out b hb)) _).trans hcj
            have y2 : wr.cell? ⟨b2, o2 + j, none⟩ = some (.slice qg ls2[j].length fg) := (cell_same (HS.out.block b2 (HLT2.out b2 hb2)) _).trans hcj2
            have z1 := L1.out.lt
            have z2 := L2.out.lt
            have z3 : b < wr.heap.size := Nat.lt_of_lt_of_le (HLT.out b hb) HS.out.size
            have z4 : b2 < wr.heap.size := Nat.lt_of_lt_of_le (HLT2.out b2 hb2) HS.out.size
            have HT1 : Hid (ls.take (j + 1) = ls.take j ++ [ls[j]]) := Lib.hid (by rw [List.take_add_one, List.getElem?_eq_getElem hlt1]; rfl)
            have HT2 : Hid (ls2.take (j + 1) = ls2.take j ++ [ls2[j]]) := Lib.hid (by rw [List.take_add_one, List.getElem?_eq_getElem hlt2]; rfl)
            have HNE : Hid (ls[j] ≠ ls2[j] → ls ≠ ls2) := Lib.hid fun h e => h (by subst e; rfl)
            have HCALL : Hid (∀ z : World, Below wr.heap.size wr z → Calls Tryd.prog 43 #[.slice qf ls[j].length ff, .slice qg ls2[j].length fg] z fun e w' => e = .returned (.bool (decide (ls[j] = ls2[j]))) ∧ Below z.heap.size z w') := Lib.hid fun z hz => by
              have hz1 := HS.out.trans (hz.mono HS.out.size)
              exact d7_same_any (D := D) (E := E) (by have := HL3.out ls[j] (List.getElem_mem hlt1); omega) (fun b hb => Nat.lt_of_lt_of_le (HLT.out b hb) hz1.size) (fun b hb => Nat.lt_of_lt_of_le (HLT2.out b hb) hz1.size) (hiv.mono (fun b h => h) (fun b h _ => hz1.block b (HLT.out b h))) (hiv2.mono (fun b h => h) (fun b h _ => hz1.block b (HLT2.out b h)))
            have hltI : (j : Int) < (n1 : Int) := by omega
            have hjI : ¬ (j : Int) < 0 := by omega
            clear hh hh2 hc hc2 hcj hcj2 hiv hiv2 hb hb2 
            generalize ls[j] = r1 at *
            generalize ls2[j] = r2 at *
            obtain ⟨re, hre⟩ : ∃ re, decide (r1 = r2) = re := ⟨_, rfl⟩
            rw [hre] at HCALL
            have HRE := Lib.hid hre
            clear hre
            generalize r1.length = m1 at *
            generalize r2.length = m2 at *
            go_wp2_with fail
            have hX : ∀ w', Below wr.drew.heap.size wr.drew w' → w'.cell? ⟨w.heap.size, 257, none⟩ = some (.slice (some ⟨b, o, none⟩) n1 c) ∧ w'.cell? ⟨w.heap.size + 1, 257, none⟩ = some (.slice (some ⟨b2, o2, none⟩) n1 c2) ∧ w'.cell? ⟨b, o + j, none⟩ = some (.slice qf m1 ff) ∧ w'.cell? ⟨b2, o2 + j, none⟩ = some (.slice qg m2 fg) ∧ Below wr.heap.size wr w' := fun w' hb => 
              have hb' : Below wr.heap.size wr w' := ((Below.refl wr.heap.size wr).drew).trans hb
              ⟨(hb'.cell (p := ⟨w.heap.size, 257, none⟩) z1).trans x1, (hb'.cell (p := ⟨w.heap.size + 1, 257, none⟩) z2).trans x2, (hb'.cell (p := ⟨b, o + j, none⟩) z3).trans y1, (hb'.cell (p := ⟨b2, o2 + j, none⟩) z4).trans y2, hb'⟩
            go_region_held3 (fun w' => w'.cell? ⟨w.heap.size, 257, none⟩ = some (.slice (some ⟨b, o, none⟩) n1 c) ∧ w'.cell? ⟨w.heap.size + 1, 257, none⟩ = some (.slice (some ⟨b2, o2, none⟩) n1 c2) ∧ w'.cell? ⟨b, o + j, none⟩ = some (.slice qf m1 ff) ∧ w'.cell? ⟨b2, o2 + j, none⟩ = some (.slice qg m2 fg) ∧ Below wr.heap.size wr w')
              (first | assumption | exact ⟨x1, x2, y1, y2, (Below.refl wr.heap.size wr).drew⟩ | exact hX _ hb)
              (first | (go_at_call 43; refine (HCALL.out _ (Below.refl wr.heap.size wr).drew).mono ?_; rintro _ w' ⟨rfl, hb⟩))
            have hb' : Below wr.heap.size wr w' := ((Below.refl wr.heap.size wr).drew).trans hb
            have HS2 := Lib.hid (HS.out.trans (hb'.mono HS.out.size))
            have M1 := Lib.hid (L1.out.up hb')
            have M2 := Lib.hid (L2.out.up hb')
            clear hb hb' hX HS L1 L2 x1 x2 y1 y2 HCALL
            cases re with
            | true =>
              have HT3 : Hid (ls.take (j + 1) = ls2.take (j + 1)) := Lib.hid (by rw [HT1.out, HT2.out, HT.out]; have := HRE.out; rw [decide_eq_true_eq] at this; rw [this])
              clear HT HT1 HT2 HNE HRE
              go_wp2_with fail
              go_roundw
              case rel => exact ⟨j + 1, by go_num, by omega, HT3, M1, M2, HS2⟩
              case measure => simp [intOf]; omega
            | false =>
              have HF : Hid (false = R) := Lib.hid (by rw [← HRES.out]; have := HRE.out; rw [decide_eq_false_iff_not] at this; simpa using HNE.out this)
              clear HT HT1 HT2 HNE HRE
              go_wp2_with fail
              go_ret
              exact ⟨vbool HF.out, HS2.out⟩
          · obtain rfl : j = n1 := by omega
            have HF : Hid (true = R) := Lib.hid (by
              rw [← HRES.out]
              have := HT.out
              rw [List.take_of_length_le (by rw [HN1.out]; omega), List.take_of_length_le (by rw [HN2.out]; omega)] at this
              simpa using this)
            have hltI : ¬ (j : Int) < (j : Int) := by omega
            clear HT
            go_wp2_with fail
            go_ret
            exact ⟨vbool HF.out, HS.out⟩
      · have hn' : ((n1 : Int) != (n2 : Int)) = true := by simp; omega
        have HF : Hid (false = R) := Lib.hid (by rw [← HRR.out]; have : ls ≠ ls2 := (fun e => hnn (by rw [← HN1.out, ← HN2.out, e])); simp [this])
        go_wp2_with (first | (refine wpList_load_22 _ rfl w.heap.size d rfl HR1.out rfl ?_) | (refine wpList_load_22 _ rfl (w.heap.size + 1) e rfl HR2.out rfl ?_) | (refine wpList_neq22 _ _ _ rfl d e rfl rfl HC1.out HC2.out _ HCE.out rfl ?_))
        go_ret
        exact ⟨vbool HF.out, S0.out⟩
  · have hst' : (st != st2) = true := by simpa using hst
    go_wp2_with fail
    go_ret
    exact ⟨vbool (by rw [← HRR.out]; simp [hst]), S0.out⟩
end Go.Proofs.YthglciccejholaaDoor
end
section
/- Packages dfa, mini, munch. -/
namespace Go.Proofs.YthglciccejholaaDoor
set_option linter.unusedSimpArgs false
set_option linter.unusedVariables false
set_option maxRecDepth 100000
open Go.RowKit
/- Twins of rows in memory. -/
/-- A list, what stands behind it, its block, its room. -/
abbrev Ni := List Int × List Int × Nat × Nat
def d7_nV (z : Ni) : Value := .slice (some ⟨z.2.2.1, 0, none⟩) z.1.length z.2.2.2
def TR (B : Nat) (w : World) (z : Ni) : Prop := w.ownsRow B 3 1 (.slice (some ⟨z.2.2.1, 0, none⟩) (z.1 ++ z.2.1).length z.2.2.2) (z.1 ++ z.2.1).length (zi (z.1 ++ z.2.1)) 
theorem row_base {w : World} {B C : Nat} {e : TypeId} {size : Nat} {v : Value} {n : Nat} {xs : List Value} (h : w.ownsRow B e size v n xs) (hc : C ≤ B) : w.ownsRow C e size v n xs := by
  refine ⟨h.1, ?_⟩
  rcases h.2 with h1 | ⟨g, cap, cur, hv, hb, hr⟩
  · exact .inl h1
  · exact .inr ⟨g, cap, cur, hv, Nat.le_trans hc hb, hr⟩
theorem TR.kept {B : Nat} {w w' : World} {z : Ni} {row : Option Nat} (h : TR B w z) (hg : w.grownBy w' row) (hn : some z.2.2.1 ≠ row) : TR B w' z :=
  World.ownsRow.kept h hg (.inr hn)
theorem TR.lt {B : Nat} {w : World} {z : Ni} (h : TR B w z) : B ≤ z.2.2.1 ∧ z.2.2.1 < w.heap.size := World.ownsRow.lt h _ rfl
/-- Rows of one's own in a row of one's own. -/
def TN (B : Nat) (zs : List Ni) (sl : Value) (w : World) : Prop := (∀ z ∈ zs, TR B w z ∧ some z.2.2.1 ≠ sl.ownBlock) ∧ w.ownsRow B 39 1 sl zs.length (zs.map d7_nV)
theorem TN.nil (B : Nat) (w : World) : TN B [] (.slice none 0 0) w := ⟨fun z hz => absurd hz (by simp), ⟨by simp, .inl ⟨rfl, rfl⟩⟩⟩
theorem TN.up {B : Nat} {zs : List Ni} {sl : Value} {w w' : World} (h : TN B zs sl w) (hb : Below w.heap.size w w') : TN B zs sl w' := by
  have hg : w.grownBy w' none := ⟨hb.os, hb.tape, hb.output, hb.size, fun k hk _ => hb.block k hk⟩
  refine ⟨fun z hz => ⟨(h.1 z hz).1.kept hg (by simp), (h.1 z hz).2⟩, World.ownsRow.kept h.2 hg ?_⟩
  by_cases hp : sl.ownBlock = none
  · exact .inl hp
  · exact .inr hp
theorem TN.base {B C : Nat} {zs : List Ni} {sl : Value} {w : World} (h : TN B zs sl w) (hc : C ≤ B) : TN C zs sl w :=
  ⟨fun z hz => ⟨row_base (h.1 z hz).1 hc, (h.1 z hz).2⟩, row_base h.2 hc⟩
/-- One more. -/
theorem TN.app {B : Nat} {zs : List Ni} {sl sl' : Value} {w w2 : World} {z : Ni} (h : TN B zs sl w) (hz : TR B w z) (hne : some z.2.2.1 ≠ sl.ownBlock)
    (hown : w2.ownsRow B 39 1 sl' (zs.length + 1) (zs.map d7_nV ++ [d7_nV z])) (hg : w.grownBy w2 sl.ownBlock) (hat : sl'.ownBlock = sl.ownBlock ∨ sl'.ownBlock = some w.heap.size) : TN B (zs ++ [z]) sl' w2 := by
  refine ⟨fun y hy => ?_, ?_⟩
  · have key : ∀ y, TR B w y → some y.2.2.1 ≠ sl.ownBlock → TR B w2 y ∧ some y.2.2.1 ≠ sl'.ownBlock := fun y h1 h2 => by
      refine ⟨h1.kept hg h2, fun e => ?_⟩
      rcases hat with ha | ha
      · rw [ha] at e; exact h2 e
      · rw [ha] at e
        have := h1.lt.2
        have e2 := Option.some.inj e
        omega
    rcases List.mem_append.1 hy with hy | hy
    · exact key y (h.1 y hy).1 (h.1 y hy).2
    · simp at hy
      subst hy
      exact key y hz hne
  · rw [List.map_append, List.length_append]
    exact hown
theorem TN.other {B b : Nat} {zs : List Ni} {sl : Value} {w w' : World} (h : TN B zs sl w) (hg : w.grownBy w' (some b)) (h1 : ∀ z ∈ zs, z.2.2.1 ≠ b) (h2 : sl.ownBlock ≠ some b) : TN B zs sl w' :=
  ⟨fun z hz => ⟨(h.1 z hz).1.kept hg (fun e => h1 z hz (by simpa using e)), (h.1 z hz).2⟩, World.ownsRow.kept h.2 hg (.inr h2)⟩
theorem d7_row_form {y : World} {B : Nat} {e : TypeId} {sl : Value} {n : Nat} {xs : List Value} {k : Nat} (h : y.ownsRow B e k sl n xs) : ∃ p c, sl = .slice p n c := by
  rcases h.2 with ⟨rfl, rfl⟩ | ⟨g, cap, cur, rfl, _⟩
  · exact ⟨_, _, rfl⟩
  · exact ⟨_, _, rfl⟩
theorem TN.form {B : Nat} {zs : List Ni} {sl : Value} {w : World} (h : TN B zs sl w) : ∃ p c, sl = .slice p zs.length c := d7_row_form h.2
def tw (l : List Int) (g cap : Nat) : Ni := (l, mk7 3, g, cap)
def mkr (k g c : Nat) : Ni := ([-7000 - (k : Int)], [], g, c)
/-- The marks: their lists. -/
def mks (k : Nat) : List (List Int) := (List.range k).map fun i : Nat => [-7000 - (i : Int)]
theorem mks_succ (k : Nat) : mks (k + 1) = mks k ++ [[-7000 - (k : Int)]] := by simp [mks, List.range_succ]
theorem mks_len (k : Nat) : (mks k).length = k := by simp [mks]
theorem d7_set_grown (w : World) (b i : Nat) (v : Value) : w.grownBy (w.setCell ⟨b, i, none⟩ v) (some b) := by
  have hb := (Below.refl 0 w).setCell (p := ⟨b, i, none⟩) (Nat.zero_le _) v
  exact ⟨hb.os, hb.tape, hb.output, hb.size, fun k _ hk => setCells_other (b := b) (by intro e; exact hk (by rw [e])) [v] i w⟩
theorem row_grown (w : World) (b : Nat) (cs : Array Value) : w.grownBy (w.setRow b cs) (some b) :=
  ⟨rfl, rfl, rfl, by simp, fun k _ hk => setRow_other w b k cs (by intro e; exact hk (by rw [e]))⟩
theorem Sb.grown {w0 w w' : World} {L : List (Nat × Obj)} {row : Option Nat} (h : Sb w0 w L) (hg : w.grownBy w' row) (hr : ∀ g, row = some g → w0.heap.size ≤ g ∧ ∀ c ∈ L, c.1 ≠ g) : Sb w0 w' L :=
  ⟨d7_below_grown h.1 hg (fun g e => (hr g e).1) h.1.size, fun c hc => ⟨(h.2 c hc).1, (hg.block _ (Array.getElem?_eq_some_iff.1 (h.2 c hc).2).1 (fun e => (hr c.1 e.symm).2 c hc rfl)).trans (h.2 c hc).2⟩⟩
theorem info24b : (Tryd.prog.info? 39).map (fun i => (i.zero, i.size, i.bytes)) = some (some (.slice none 0 0), 1, 24) := by kernel_rfl
def zero26 : Array Value := #[.int .i64 0] ++ Array.replicate 256 (.int .u8 0) ++ #[.slice none 0 0, .slice none 0 0]
theorem info26r : (Tryd.prog.info? 48).map (fun i => (i.zero, i.size)) = some (some (.agg zero26), 259) := by kernel_rfl
theorem zero26_size : zero26.size = 259 := by kernel_rfl
end Go.Proofs.YthglciccejholaaDoor
end
