/- Texts of package regs, one behind the other. -/
import Derived.Test.YthglciccejholaaDoorProg
import Derived.Test.YthglciccejholaaDoorY29
import Derived.WalkKit
import Derived.WalkLawsBesides
import Derived.WalkSpells
import Derived.Outline
import Derived.Lib.Walk
import Derived.Lib.Hide
import Derived.Lib.Slices
import Derived.Lib.Strings
import Derived.RegionTactic
import Derived.LoopTactic
import Derived.Below
import Derived.IntWalk
import Derived.Deep.QuietTactic
import Derived.BigQuiet
import Derived.Deep.MidRow
import Derived.Maps.AppendAt
import Derived.Laws.Rows
import Derived.Laws.Tables
import Derived.Deep.WholeRow
import Derived.Deep.Cut
import Derived.Deep.CutRange
import Derived.Lib.SliceRun
import Derived.Laws.MakeOwn
import Derived.Deep.RegionLaw
import Derived.Deep.RegionLawGrows
import Derived.Test.YthglciccejholaaDoorRg
section
/- Package nfa. -/
namespace Go.Proofs.YthglciccejholaaDoor
set_option linter.unusedSimpArgs false
set_option linter.unusedVariables false
set_option maxRecDepth 100000
open Go.RowKit
/- What is laid of a star of a set. -/
set_option maxHeartbeats 8000000 in
theorem lay_star {B : Nat} {P : Nat → Prop} {w0 y : World} {bb : Nat} {ss : List Nq} {sl : Value} {u us : Nat → Int} {t : Int} {p : Option Addr} {n c b o cs : Nat} (h : BB B P w0 y bb ss sl) (hlen : ss.length ≤ 4000)
    (hc : ∀ j v, (nodeC 2 u (.slice p n c))[j]? = some v → y.cell? ⟨b, o + j, none⟩ = some v) :
    Calls Tryd.prog 39 #[.pointer (some ⟨bb, 0, none⟩), .agg (nodeC 5 us (.slice (some ⟨b, o, none⟩) 1 cs)), .int .i64 t] y fun e y' => e = .returned (.int .i64 (ss.length : Nat)) ∧ (∃ sl' q f, BB B P w0 y' bb (ss ++ [(⟨uZ, -1, [t, (ss.length : Int) + 1], -1⟩, q, f), (⟨u, (ss.length : Nat), [], -1⟩, none, 0)]) sl') ∧ ∀ b, P b → y'.heap[b]? = y.heap[b]? := by
  have hbl := blk_lt (hc 0 _ rfl)
  have hb0 := (((Below.refl y.heap.size y).alloc (Nat.le_refl _) (.cells #[.pointer (some ⟨bb, 0, none⟩)] 118)).alloc (by simp) (.cells (nodeC 5 us (.slice (some ⟨b, o, none⟩) 1 cs)) 27)).alloc (by simp; omega) (.cells #[.int .i64 t] 3)
  have HB := Lib.hid (h.up hb0)
  have HK := Lib.hid fun b (hp : P b) => hb0.block b (h.pr b hp).1
  have HCC := Lib.hid fun j v hv => (cell_same (hb0.block b hbl) _).trans (hc j v hv)
  have S0 := Lib.hid ((((Sb.start y).alloc (.cells #[.pointer (some ⟨bb, 0, none⟩)] 118)).alloc (.cells (nodeC 5 us (.slice (some ⟨b, o, none⟩) 1 cs)) 27)).alloc (.cells #[.int .i64 t] 3))
  clear h hc hb0
  unfold nodeC at *
  go_enter Tryd.func39, Tryd.ntmps39
  go_upto_region 14 with fail
  have z1 : (y.alloc (.cells #[.pointer (some ⟨bb, 0, none⟩)] 118)).heap.size = y.heap.size + 1 := by simp
  have z2 : ((y.alloc (.cells #[.pointer (some ⟨bb, 0, none⟩)] 118)).alloc (.cells #[.int .i64 5, .int .u64 (us 0), .int .u64 (us 1), .int .u64 (us 2), .int .u64 (us 3), .slice (some ⟨b, o, none⟩) 1 cs] 27)).heap.size = y.heap.size + 1 + 1 := by simp
  rw [z1, z2] at S0
  clear z1 z2
  refine at_world (fun z => BB B P w0 z bb ss sl ∧ Sb y z [(y.heap.size + 1 + 1, .cells #[.int .i64 t] 3), (y.heap.size + 1, .cells #[.int .i64 5, .int .u64 (us 0), .int .u64 (us 1), .int .u64 (us 2), .int .u64 (us 3), .slice (some ⟨b, o, none⟩) 1 cs] 27), (y.heap.size, .cells #[.pointer (some ⟨bb, 0, none⟩)] 118)] ∧ (∀ j v, (#[.int .i64 2, .int .u64 (u 0), .int .u64 (u 1), .int .u64 (u 2), .int .u64 (u 3), .slice p n c] : Array Value)[j]? = some v → z.cell? ⟨b, o + j, none⟩ = some v) ∧ ∀ b, P b → z.heap[b]? = y.heap[b]?) ⟨HB.out, S0.out, HCC.out, HK.out⟩ fun z hz => ?_
  have H1 := Lib.hid hz.1
  have S1 := Lib.hid hz.2.1
  have HK1 := Lib.hid hz.2.2.2
  have d0 : z.cell? ⟨b, o, none⟩ = some (.int .i64 2) := hz.2.2.1 0 _ rfl
  have d1 : z.cell? ⟨b, o + 1, none⟩ = some (.int .u64 (u 0)) := hz.2.2.1 1 _ rfl
  have d2 : z.cell? ⟨b, o + 2, none⟩ = some (.int .u64 (u 1)) := hz.2.2.1 2 _ rfl
  have d3 : z.cell? ⟨b, o + 3, none⟩ = some (.int .u64 (u 2)) := hz.2.2.1 3 _ rfl
  have d4 : z.cell? ⟨b, o + 4, none⟩ = some (.int .u64 (u 3)) := hz.2.2.1 4 _ rfl
  have d5 : z.cell? ⟨b, o + 5, none⟩ = some (.slice p n c) := hz.2.2.1 5 _ rfl
  have x0 : z.cell? ⟨y.heap.size, 0, none⟩ = some (.pointer (some ⟨bb, 0, none⟩)) := S1.out.tl.tl.cell 0
  have x1 : z.cell? ⟨y.heap.size + 1, 5, none⟩ = some (.slice (some ⟨b, o, none⟩) 1 cs) := S1.out.tl.cell 5
  have x2 : z.cell? ⟨y.heap.size + 1 + 1, 0, none⟩ = some (.int .i64 t) := S1.out.cell 0
  have HC := Lib.hid (loop_set (u := u) (t := t) (p := p) (n := n) (c := c) (H1.out.up (below_drewN (Below.refl z.heap.size z) 1)) hlen)
  unfold nodeC at HC
  clear hz HB S0 HCC HK S1
  go_region_law (go_simp; go_at_call 79; refine HC.out.mono ?_; rintro _ y5 ⟨rfl, h5, hk5⟩)
  all_goals
    simp only [Act.put, List.getElem_toArray, List.getElem_cons_zero, List.getElem_cons_succ, List.setIfInBounds_toArray, List.set_cons_zero, List.set_cons_succ]
    obtain ⟨sl5, q5, f5, h6⟩ := h5
    have H6 := Lib.hid h6
    have HK6 := Lib.hid fun b hp => (hk5 b hp).trans (HK1.out b hp)
    clear h6 hk5 HC H1 HK1 d0 d1 d2 d3 d4 d5 x0 x1 x2
    refine at_worldQ (fun x => BB B P w0 x bb (ss ++ [(⟨uZ, -1, [t, (ss.length : Int) + 1], -1⟩, q5, f5), (⟨u, (ss.length : Nat), [], -1⟩, none, 0)]) sl5 ∧ ∀ b, P b → x.heap[b]? = y.heap[b]?) ⟨H6.out, HK6.out⟩ fun x hx => ?_
    have H9 := Lib.hid hx
    clear hx H6 HK6
    go_wp2_with fail
    go_ret
    exact ⟨rfl, ⟨_, _, _, H9.out.1⟩, H9.out.2⟩
end Go.Proofs.YthglciccejholaaDoor
end
section
/- Package nfa. -/
namespace Go.Proofs.YthglciccejholaaDoor
set_option linter.unusedSimpArgs false
set_option linter.unusedVariables false
set_option maxRecDepth 100000
open Go.RowKit
/- matchesSome of a set, of a star; refused, where every pattern may be. -/
set_option maxHeartbeats 4000000 in
theorem some_set (u : Nat → Int) (p : Option Addr) (n c : Nat) (w : World) : Calls Tryd.prog 75 #[.agg (nodeC 2 u (.slice p n c))] w fun e w' => e = .returned (.bool (!zeroU u)) ∧ Below w.heap.size w w' := by
  have hnq := neq24g u
  have S0 := Lib.hid (((Below.refl w.heap.size w).alloc (Nat.le_refl _) (.cells (nodeC 2 u (.slice p n c)) 27)))
  generalize zeroU u = zb at *
  unfold nodeC at *
  go_enter Tryd.func75, Tryd.ntmps75
  go_wp2_with fail
  go_ret
  exact ⟨rfl, S0.out⟩
set_option maxHeartbeats 4000000 in
theorem some_star (u : Nat → Int) (p : Option Addr) (n c : Nat) (w : World) : Calls Tryd.prog 75 #[.agg (nodeC 5 u (.slice p n c))] w fun e w' => e = .returned (.bool true) ∧ Below w.heap.size w w' := by
  have S0 := Lib.hid (((Below.refl w.heap.size w).alloc (Nat.le_refl _) (.cells (nodeC 5 u (.slice p n c)) 27)))
  unfold nodeC at *
  go_enter Tryd.func75, Tryd.ntmps75
  go_wp2_with fail
  go_ret
  exact ⟨rfl, S0.out⟩
set_option maxHeartbeats 4000000 in
theorem some_none (u : Nat → Int) (p : Option Addr) (n c : Nat) (w : World) : Calls Tryd.prog 75 #[.agg (nodeC 0 u (.slice p n c))] w fun e w' => e = .returned (.bool false) ∧ Below w.heap.size w w' := by
  have S0 := Lib.hid (((Below.refl w.heap.size w).alloc (Nat.le_refl _) (.cells (nodeC 0 u (.slice p n c)) 27)))
  unfold nodeC at *
  go_enter Tryd.func75, Tryd.ntmps75
  go_wp2_with fail
  go_ret
  exact ⟨rfl, S0.out⟩
end Go.Proofs.YthglciccejholaaDoor
end
section
/- Package nfa. -/
namespace Go.Proofs.YthglciccejholaaDoor
set_option linter.unusedSimpArgs false
set_option linter.unusedVariables false
set_option maxRecDepth 100000
open Go.RowKit
/- refused, where every pattern may be. -/
/-- Rules in memory: their kinds, their patterns. -/
def RuV (D : Nat → Prop) (w : World) (ts : List RT) (sl : Value) : Prop := ∃ q f, sl = .slice q ts.length f ∧ (ts ≠ [] → ∃ b o, q = some ⟨b, o, none⟩ ∧ D b ∧ ∀ i (h : i < ts.length), ∃ (kd k : Int) (u : Nat → Int) (p : Option Addr) (n c : Nat), RV D w ts[i] (.agg (nodeC k u (.slice p n c))) ∧
    ∀ j y, (#[.int .i64 kd, .int .i64 k, .int .u64 (u 0), .int .u64 (u 1), .int .u64 (u 2), .int .u64 (u 3), .slice p n c] : Array Value)[j]? = some y → w.cell? ⟨b, o + i * 7 + j, none⟩ = some y)
theorem RuV.mono {D E : Nat → Prop} {w w' : World} (hE : ∀ b, D b → E b) (hw : ∀ b, D b → b < w.heap.size → w'.heap[b]? = w.heap[b]?) {ts : List RT} {sl : Value} (h : RuV D w ts sl) : RuV E w' ts sl := by
  obtain ⟨p, c, rfl, h⟩ := h
  refine ⟨p, c, rfl, fun hn => ?_⟩
  obtain ⟨b, o, hp, hD, hc⟩ := h hn
  refine ⟨b, o, hp, hE b hD, fun i hi => ?_⟩
  obtain ⟨kd, k, u, p', n, c', h1, h2⟩ := hc i hi
  refine ⟨kd, k, u, p', n, c', h1.mono hE hw, fun j y hy => ?_⟩
  have h3 := h2 j y hy
  rw [← h3]
  exact cell_same (hw b hD (blk_lt h3)) _
theorem info58 : (Tryd.prog.info? 29).map (fun i => (i.zero, i.size)) = some (some (.agg #[.int .i64 0, .int .i64 0, .int .u64 0, .int .u64 0, .int .u64 0, .int .u64 0, .slice none 0 0]), 7) := by kernel_rfl
theorem zero58 (w : World) : (zeroValue 29).run Tryd.prog w = .ok (.agg #[.int .i64 0, .int .i64 0, .int .u64 0, .int .u64 0, .int .u64 0, .int .u64 0, .slice none 0 0]) w := (zero_of_info info58).1 w
theorem szL_take (ts : List RT) (j : Nat) (h : j < ts.length) : szL (ts.take (j + 1)) = szL (ts.take j) + sz ts[j] := by
  rw [List.take_add_one, List.getElem?_eq_getElem h, szL_app]; simp [szL]
theorem szL_take_le : ∀ (ts : List RT) (j : Nat), szL (ts.take j) ≤ szL ts
  | [], j => by simp
  | t :: ts, 0 => by simp [szL]
  | t :: ts, j + 1 => by have := szL_take_le ts j; simp only [List.take_succ_cons, szL]; omega
theorem all_take2 (p : RT → Bool) (l : List RT) (j : Nat) (h : j < l.length) : (l.take (j + 1)).all p = ((l.take j).all p && p l[j]) := by
  rw [List.take_add_one, List.getElem?_eq_getElem h, List.all_append]; simp
theorem checkE_sz {t : RT} (h : checkE t = 0) : sz t ≤ 512 := by
  unfold checkE at h
  by_cases h1 : 512 < sz t
  · rw [if_pos h1] at h; cases h
  · omega
set_option maxHeartbeats 8000000 in
theorem refused_ok {D : Nat → Prop} {w : World} {ts : List RT} {q : Option Addr} {f : Nat} (M : RT → Bool) (hD : ∀ b, D b → b < w.heap.size) (hR : RuV D w ts (.slice q ts.length f)) (hlen : ts.length ≤ 48) (hck : ∀ t ∈ ts, checkE t = 0) (hsz : szL ts ≤ 2047)
    (hM : ∀ t ∈ ts, ∀ (v : Value) (z : World), RV D z t v → (∀ b, D b → b < z.heap.size) → Calls Tryd.prog 75 #[v] z fun e z' => e = .returned (.bool (M t)) ∧ Below z.heap.size z z') :
    Calls Tryd.prog 38 #[.slice q ts.length f] w fun e w' => e = .returned (.int .i64 (if ts.all M = true then 0 else 70)) ∧ Below w.heap.size w w' := by
  have HR := Lib.hid hR
  have HD := Lib.hid hD
  have HCK := Lib.hid hck
  have HM := Lib.hid hM
  have HSZ := Lib.hid hsz
  have hz := zero58
  have S0 := Lib.hid (Below.refl w.heap.size w)
  obtain ⟨R, hRR⟩ : ∃ R : Int, (if ts.all M = true then 0 else 70) = R := ⟨_, rfl⟩
  rw [hRR]
  have HRES := Lib.hid hRR
  have hl48 : ¬ (48 : Int) < (ts.length : Int) := by omega
  clear hR hD hck hM hsz hRR
  go_enter Tryd.func38, Tryd.ntmps38
  go_wp2_with fail
  go_loopw [3, 14] (fun a i wr => ∃ j : Nat, i = .int .i64 (j : Nat) ∧ a = .int .i64 (szL (ts.take j) : Nat) ∧ j ≤ ts.length ∧ Hid (Below w.heap.size w wr)) (fun _ i _ => ts.length - (intOf i).toNat)
  case atStart => exact ⟨0, rfl, by simp [szL], by omega, S0⟩
  case round =>
    clear S0
    obtain ⟨j, rfl, rfl, hj, HS⟩ := hrel
    obtain ⟨wo, rfl⟩ : ∃ wo : World, wo = wr := ⟨_, rfl⟩
    by_cases hlt : j < ts.length
    · obtain ⟨q', f', he, hh⟩ := HR.out
      cases he
      obtain ⟨b, o, rfl, hDb, hx⟩ := hh (by intro e; subst e; simp at hlt)
      obtain ⟨kd, k, u, p, n, c, hv, hcell⟩ := hx j hlt
      have hbw := HD.out b hDb
      have ce : ∀ i y, (#[.int .i64 kd, .int .i64 k, .int .u64 (u 0), .int .u64 (u 1), .int .u64 (u 2), .int .u64 (u 3), .slice p n c] : Array Value)[i]? = some y → wo.cell? ⟨b, o + j * 7 + i, none⟩ = some y := fun i y hy => (cell_same (HS.out.block b hbw) _).trans (hcell i y hy)
      have d0 : wo.cell? ⟨b, o + j * 7, none⟩ = some (.int .i64 kd) := ce 0 _ rfl
      have d1 : wo.cell? ⟨b, o + j * 7 + 1, none⟩ = some (.int .i64 k) := ce 1 _ rfl
      have d2 : wo.cell? ⟨b, o + j * 7 + 2, none⟩ = some (.int .u64 (u 0)) := ce 2 _ rfl
      have d3 : wo.cell? ⟨b, o + j * 7 + 3, none⟩ = some (.int .u64 (u 1)) := ce 3 _ rfl
      have d4 : wo.cell? ⟨b, o + j * 7 + 4, none⟩ = some (.int .u64 (u 2)) := ce 4 _ rfl
      have d5 : wo.cell? ⟨b, o + j * 7 + 5, none⟩ = some (.int .u64 (u 3)) := ce 5 _ rfl
      have d6 : wo.cell? ⟨b, o + j * 7 + 6, none⟩ = some (.slice p n c) := ce 6 _ rfl
      have hmem := List.getElem_mem hlt
      have hck := HCK.out _ hmem
      have hsz1 := checkE_sz hck
      have hst := szL_take ts j hlt
      have hsl := szL_take_le ts (j + 1)
      have hw2 := wid_sz ts[j]
      have HV := Lib.hid (hv.mono (w' := wo) (fun b h => h) (fun b hb _ => HS.out.block b (HD.out b hb)))
      have HC := Lib.hid fun z (hb : Below wo.heap.size wo z) => rcheck_any (w := z) (D := D) (fun b h => Nat.lt_of_lt_of_le (HD.out b h) (Nat.le_trans HS.out.size hb.size)) (by omega) (HV.out.mono (fun b h => h) (fun b h _ => hb.block b (Nat.lt_of_lt_of_le (HD.out b h) HS.out.size)))
      have HZ := Lib.hid fun z (hb : Below wo.heap.size wo z) => size_any (w := z) (D := D) (fun b h => Nat.lt_of_lt_of_le (HD.out b h) (Nat.le_trans HS.out.size hb.size)) (by omega) (HV.out.mono (fun b h => h) (fun b h _ => hb.block b (Nat.lt_of_lt_of_le (HD.out b h) HS.out.size)))
      unfold nodeC at HC HZ
      rw [hck] at HC
      rw [show min (sz ts[j]) 513 = sz ts[j] by omega] at HZ
      generalize sz ts[j] = s1 at *
      generalize szL (ts.take j) = a at *
      have HST := Lib.hid hst
      have S1 := Lib.hid ((Sb.start wo).alloc (.cells #[.int .i64 kd, .int .i64 k, .int .u64 (u 0), .int .u64 (u 1), .int .u64 (u 2), .int .u64 (u 3), .slice p n c] 29))
      have hltI : (j : Int) < (ts.length : Int) := by omega
      have hjI : ¬ (j : Int) < 0 := by omega
      have hszz := HSZ.out
      have hab : a + s1 ≤ 2047 := by omega
      clear hsl hszz
      clear hh hx hcell hv ce hck hmem hst
      go_wp2_with fail
      refine (HC.out _ S1.out.1).mono ?_
      rintro _ y1 ⟨rfl, hb1⟩
      have S2 := Lib.hid (S1.out.up hb1)
      have g1 : y1.cell? ⟨wo.heap.size, 1, none⟩ = some (.int .i64 k) := S2.out.cell 1
      have g2 : y1.cell? ⟨wo.heap.size, 2, none⟩ = some (.int .u64 (u 0)) := S2.out.cell 2
      have g3 : y1.cell? ⟨wo.heap.size, 3, none⟩ = some (.int .u64 (u 1)) := S2.out.cell 3
      have g4 : y1.cell? ⟨wo.heap.size, 4, none⟩ = some (.int .u64 (u 2)) := S2.out.cell 4
      have g5 : y1.cell? ⟨wo.heap.size, 5, none⟩ = some (.int .u64 (u 3)) := S2.out.cell 5
      have g6 : y1.cell? ⟨wo.heap.size, 6, none⟩ = some (.slice p n c) := S2.out.cell 6
      clear hb1 S1 HC d0 d1 d2 d3 d4 d5 d6
      go_wp2_with fail
      refine (HZ.out _ S2.out.1).mono ?_
      rintro _ y2 ⟨rfl, hb2⟩
      have S3 := Lib.hid (HS.out.trans ((S2.out.up hb2).1.mono HS.out.size))
      clear hb2 S2 HZ g1 g2 g3 g4 g5 g6
      go_wp2_with fail
      go_roundw
      case rel => exact ⟨j + 1, by go_num, vint6 (by have := HST.out; omega), by omega, S3⟩
      case measure => simp [intOf]; omega
    · obtain rfl : j = ts.length := by omega
      rw [List.take_length]
      have hltI : ¬ (ts.length : Int) < (ts.length : Int) := by omega
      have hszI : ¬ (2047 : Int) < (szL ts : Nat) := by have := HSZ.out; omega
      go_wp2_with fail
      go_loopw [34] (fun i wr => ∃ j : Nat, i = .int .i64 (j : Nat) ∧ j ≤ ts.length ∧ Hid ((ts.take j).all M = true) ∧ Hid (Below w.heap.size w wr)) (fun i _ => ts.length - (intOf i).toNat)
      case atStart => exact ⟨0, rfl, by omega, Lib.hid (by simp), HS⟩
      case round =>
        clear HS
        obtain ⟨j, rfl, hj, HA, HS⟩ := hrel
        obtain ⟨wo, rfl⟩ : ∃ wo : World, wo = wr := ⟨_, rfl⟩
        by_cases hlt : j < ts.length
        · obtain ⟨q', f', he, hh⟩ := HR.out
          cases he
          obtain ⟨b, o, rfl, hDb, hx⟩ := hh (by intro e; subst e; simp at hlt)
          obtain ⟨kd, k, u, p, n, c, hv, hcell⟩ := hx j hlt
          have hbw := HD.out b hDb
          have ce : ∀ i y, (#[.int .i64 kd, .int .i64 k, .int .u64 (u 0), .int .u64 (u 1), .int .u64 (u 2), .int .u64 (u 3), .slice p n c] : Array Value)[i]? = some y → wo.cell? ⟨b, o + j * 7 + i, none⟩ = some y := fun i y hy => (cell_same (HS.out.block b hbw) _).trans (hcell i y hy)
          have d0 : wo.cell? ⟨b, o + j * 7, none⟩ = some (.int .i64 kd) := ce 0 _ rfl
          have d1 : wo.cell? ⟨b, o + j * 7 + 1, none⟩ = some (.int .i64 k) := ce 1 _ rfl
          have d2 : wo.cell? ⟨b, o + j * 7 + 2, none⟩ = some (.int .u64 (u 0)) := ce 2 _ rfl
          have d3 : wo.cell? ⟨b, o + j * 7 + 3, none⟩ = some (.int .u64 (u 1)) := ce 3 _ rfl
          have d4 : wo.cell? ⟨b, o + j * 7 + 4, none⟩ = some (.int .u64 (u 2)) := ce 4 _ rfl
          have d5 : wo.cell? ⟨b, o + j * 7 + 5, none⟩ = some (.int .u64 (u 3)) := ce 5 _ rfl
          have d6 : wo.cell? ⟨b, o + j * 7 + 6, none⟩ = some (.slice p n c) := ce 6 _ rfl
          have hmem := List.getElem_mem hlt
          have hal := all_take2 M ts j hlt
          rw [HA.out, Bool.true_and] at hal
          have HNO := Lib.hid fun (h : M ts[j] = false) => (by rw [List.all_eq_false]; exact ⟨ts[j], hmem, by simp [h]⟩ : ts.all M = false)
          have HV := Lib.hid (hv.mono (w' := wo) (fun b h => h) (fun b hb _ => HS.out.block b (HD.out b hb)))
          have HC := Lib.hid fun z (hb : Below wo.heap.size wo z) => HM.out _ hmem _ z (HV.out.mono (fun b h => h) (fun b h _ => hb.block b (Nat.lt_of_lt_of_le (HD.out b h) HS.out.size))) (fun b h => Nat.lt_of_lt_of_le (HD.out b h) (Nat.le_trans HS.out.size hb.size))
          unfold nodeC at HC
          generalize M ts[j] = mj at *
          have HAL := Lib.hid hal
          have S1 := Lib.hid ((Sb.start wo).alloc (.cells #[.int .i64 kd, .int .i64 k, .int .u64 (u 0), .int .u64 (u 1), .int .u64 (u 2), .int .u64 (u 3), .slice p n c] 29))
          have hltI : (j : Int) < (ts.length : Int) := by omega
          have hjI : ¬ (j : Int) < 0 := by omega
          clear hh hx hcell hv ce hmem hal
          go_wp2_with fail
          refine (HC.out _ S1.out.1).mono ?_
          rintro _ y1 ⟨rfl, hb1⟩
          have S3 := Lib.hid (HS.out.trans ((S1.out.up hb1).1.mono HS.out.size))
          clear hb1 S1 HC d0 d1 d2 d3 d4 d5 d6
          cases mj with
          | true =>
            go_wp2_with fail
            go_roundw
            case rel => exact ⟨j + 1, by go_num, by omega, HAL, S3⟩
            case measure => simp [intOf]; omega
          | false =>
            have HRR : Hid ((70 : Int) = R) := Lib.hid (by rw [← HRES.out, HNO.out rfl]; rfl)
            go_wp2_with fail
            go_ret
            exact ⟨ret_i6 HRR.out, S3.out⟩
        · obtain rfl : j = ts.length := by omega
          have hall := HA.out
          rw [List.take_length] at hall
          have HRR : Hid ((0 : Int) = R) := Lib.hid (by rw [← HRES.out, if_pos hall])
          have hltI : ¬ (ts.length : Int) < (ts.length : Int) := by omega
          clear hall HA
          go_wp2_with fail
          go_ret
          exact ⟨ret_i6 HRR.out, HS.out⟩
end Go.Proofs.YthglciccejholaaDoor
end
