/- Texts of package regs, one behind the other. -/
import Derived.Test.YthglciccejholaaDoorProg
import Derived.Test.YthglciccejholaaDoorV32
import Derived.WalkKit
import Derived.BigFrame
import Derived.Stop.BytesEq
import Derived.WalkLawsBesides
import Derived.WalkSpells
import Derived.Outline
import Derived.Lib.Walk
import Derived.Lib.Hide
import Derived.Lib.Slices
import Derived.Lib.Strings
import Derived.RegionTactic
import Derived.LoopTactic
import Derived.Below
import Derived.IntWalk
import Derived.Deep.QuietTactic
import Derived.BigQuiet
import Derived.Deep.MidRow
import Derived.Maps.AppendAt
import Derived.Laws.Rows
import Derived.Laws.Tables
import Derived.Deep.WholeRow
import Derived.Deep.Cut
import Derived.Deep.CutRange
import Derived.Lib.SliceRun
import Derived.Laws.MakeOwn
import Derived.Deep.RegionLaw
import Derived.Deep.RegionLawGrows
import Derived.Deep.RegionHeld3
import Derived.RegionCalls
import Derived.Deep.RegionWith
import Derived.Deep.Light
import Derived.Laws.CopyOwn
import Derived.Laws.ResultCell
import Derived.WalkMore
import Derived.ScopeJumps
import Derived.StillTailTactics
import Derived.Test.YthglciccejholaaDoorV37
import Derived.Test.YthglciccejholaaDoorV36
import Derived.Test.YthglciccejholaaDoorV34
import Derived.RangeFuncNested
import Derived.RangeFuncBound
import Derived.RangeFuncCalls
import Derived.RangeFuncLeaves
import Derived.RangeFuncBox
import Derived.Shelf.Abstract
import Derived.Shelf.RegionOpen
import Derived.OwnWalkIn
import Derived.TacticsInMore
import Derived.LoopNIn
import Derived.LoopIn
section
/- Packages dfa, mini, munch. -/
namespace Go.Proofs.YthglciccejholaaDoor
set_option linter.unusedSimpArgs false
set_option linter.unusedVariables false
set_option maxRecDepth 100000
open Go.RowKit
/- LeftDfa. -/
theorem TR.cells {B : Nat} {w : World} {z : Ni} (h : TR B w z) : ∀ i (hi : i < z.1.length), w.cell? ⟨z.2.2.1, i, none⟩ = some (.int .i64 z.1[i]) := fun i hi => by
  have := World.ownsRow.cells h (g := z.2.2.1) rfl i (.int .i64 z.1[i]) (by
    rw [zi, List.getElem?_map, List.getElem?_append_left hi, List.getElem?_eq_getElem hi]; rfl)
  rwa [Addr.add_mid, Nat.zero_add] at this
theorem TR.iv {B : Nat} {w : World} {z : Ni} (h : TR B w z) : IV (fun b => b < w.heap.size) w z.1 (d7_nV z) :=
  ⟨_, _, rfl, fun _ => ⟨z.2.2.1, 0, rfl, h.lt.2, fun i hi => by rw [Nat.zero_add]; exact h.cells i hi⟩⟩
/-- A twin of an automaton. -/
structure TD (B : Nat) (w : World) (d : Df) (g cap : Nat) (q : Option Addr) (f : Nat) : Prop where
  tn : ∃ zs ms, zs.map (fun z : Ni => z.1) = d.nx ∧ (∀ z ∈ zs, z.2.1 = mk7 3) ∧ ms.map (fun z : Ni => z.1) = mks 3 ∧ TN B (zs ++ ms) (.slice (some ⟨g, 0, none⟩) (d.nx.length + 3) cap) w
  ti : TI B w d.rl (.slice q d.rl.length f)
theorem TD.up {B : Nat} {w w' : World} {d : Df} {g cap f : Nat} {q : Option Addr} (h : TD B w d g cap q f) (hb : Below w.heap.size w w') : TD B w' d g cap q f := by
  obtain ⟨⟨zs, ms, h1, h2, h3, h4⟩, g', cp, e, h5⟩ := h
  exact ⟨⟨zs, ms, h1, h2, h3, h4.up hb⟩, g', cp, e, World.ownsRow.kept (row := none) h5 ⟨hb.os, hb.tape, hb.output, hb.size, fun k hk _ => hb.block k hk⟩ (.inr (by simp [Value.ownBlock]))⟩
end Go.Proofs.YthglciccejholaaDoor
end
section
/- Packages dfa, mini, munch. -/
namespace Go.Proofs.YthglciccejholaaDoor
set_option linter.unusedSimpArgs false
set_option linter.unusedVariables false
set_option maxRecDepth 100000
open Go.RowKit
/- LeftDfa. -/
end Go.Proofs.YthglciccejholaaDoor
end
section
/- Packages dfa, mini, munch. -/
namespace Go.Proofs.YthglciccejholaaDoor
set_option linter.unusedSimpArgs false
set_option linter.unusedVariables false
set_option maxRecDepth 100000
open Go.RowKit
def bl (s : ByteArray) : List Nat := s.data.toList.map UInt8.toNat
theorem bl_len (s : ByteArray) : (bl s).length = s.size := by simp [bl]
/- The document's Check. -/
end Go.Proofs.YthglciccejholaaDoor
end
section
/- Packages dfa, mini, munch. -/
namespace Go.Proofs.YthglciccejholaaDoor
set_option linter.unusedSimpArgs false
set_option linter.unusedVariables false
set_option maxRecDepth 100000
open Go.RowKit
theorem index9 (s : ByteArray) (k x : Nat) (h : (bl s)[k]? = some x) (w : World) : (Instr.index 9 (.string s) (.int .i64 (k : Nat))).run Tryd.prog w = .ok (.int .u8 (x : Nat)) w := by
  unfold bl at h
  rw [List.getElem?_map, Array.getElem?_toList] at h
  obtain ⟨c, hc, hx⟩ := Option.map_eq_some_iff.1 h
  obtain ⟨h1, h2⟩ := Array.getElem?_eq_some_iff.1 hc
  have hs : k < s.size := h1
  subst hx
  simp [Instr.index, go_sem, hs]
  rw [← h2]
  rfl
/- The document's Go, Walk, RuleAt, GoesOn. -/
theorem nx_open {D : Nat → Prop} {w : World} {d : Df} {p q : Option Addr} {c f : Nat} (hm : DM D w d p q c f) (hmay : MayD d) (n : Nat) (hn : n < d.nx.length) :
    ∃ b o qf ff, p = some ⟨b, o, none⟩ ∧ b < w.heap.size ∧ w.cell? ⟨b, o + n, none⟩ = some (.slice qf (row0 d).length ff) ∧ (∀ x, x < (row0 d).length → ∃ bf of, qf = some ⟨bf, of, none⟩ ∧ bf < w.heap.size ∧ w.cell? ⟨bf, of + x, none⟩ = some (.int .i64 (cellAt d n x))) ∧ IV D w d.nx[n] (.slice qf (row0 d).length ff) ∧ (d.nx[n]).length = (row0 d).length := by
  obtain ⟨p', c', he, hh⟩ := hm.nx
  injection he with e1 e2 e3
  subst e1 e3
  obtain ⟨b, o, rfl, hb, hc⟩ := hh (by intro e; rw [e] at hn; simp at hn)
  obtain ⟨qf, ff, hiv, hcj⟩ := hc n hn
  have hrw := (hmay.rw d.nx[n] (List.getElem_mem hn)).1
  rw [hrw] at hcj hiv
  refine ⟨b, o, qf, ff, rfl, hm.lt b hb, hcj, fun x hx => ?_, hiv, hrw⟩
  have hiv2 := hiv
  rw [← hrw] at hiv2
  obtain ⟨p', c', he, hh2⟩ := hiv2
  injection he with e1 e5 e4
  subst e1 e4
  have hx2 : x < (d.nx[n]).length := by rw [hrw]; exact hx
  obtain ⟨bf, of, rfl, hbf, hcf⟩ := hh2 (by intro e; rw [e] at hx2; simp at hx2)
  refine ⟨bf, of, rfl, hm.lt bf hbf, ?_⟩
  rw [hcf x hx2]
  unfold cellAt
  rw [List.getElem?_eq_getElem hn]
  show _ = some (Value.int .i64 ((d.nx[n]).getD x (-1)))
  rw [List.getD_eq_getElem?_getD, List.getElem?_eq_getElem hx2]; rfl
theorem rl_open {D : Nat → Prop} {w : World} {d : Df} {p q : Option Addr} {c f : Nat} (hm : DM D w d p q c f) (n : Nat) (hn : n < d.rl.length) :
    ∃ b o, q = some ⟨b, o, none⟩ ∧ b < w.heap.size ∧ w.cell? ⟨b, o + n, none⟩ = some (.int .i64 (d.rl.getD n (-1))) := by
  obtain ⟨p', c', he, hh⟩ := hm.rl
  injection he with e1 e2 e3
  subst e1 e3
  obtain ⟨b, o, rfl, hb, hc⟩ := hh (by intro e; rw [e] at hn; simp at hn)
  refine ⟨b, o, rfl, hm.lt b hb, ?_⟩
  rw [hc n hn, List.getD_eq_getElem?_getD, List.getElem?_eq_getElem hn]; rfl
end Go.Proofs.YthglciccejholaaDoor
end
section
/- Packages dfa, mini, munch. -/
namespace Go.Proofs.YthglciccejholaaDoor
set_option linter.unusedSimpArgs false
set_option linter.unusedVariables false
set_option maxRecDepth 100000
open Go.RowKit
/- dfa.run, Run, Rule. -/
set_option maxHeartbeats 4000000 in
theorem run_any {D : Nat → Prop} {w : World} {d : Df} {ds : Array Value} {p q : Option Addr} {c f : Nat} (s0 : Int) (t : ByteArray) (hd : DC d ds p q c f) (hm : DM D w d p q c f) (hmay : MayD d) (hs : s0 < (d.nx.length : Int)) (hs9 : 0 ≤ s0) (ht : t.size ≤ 9223372036854775806) :
    Calls Tryd.prog 69 #[.agg ds, .int .i64 s0, .string t] w fun e w' => e = .returned (.int .i64 (walkD d s0 (bl t))) ∧ Below w.heap.size w w' := by
  have S0 := Lib.hid ((Sb.start w).alloc (.cells ds 48))
  have HSZ := Lib.hid hd.sz
  have HD := Lib.hid hd
  have HM := Lib.hid hm
  have HMAY := Lib.hid hmay
  obtain ⟨R, hR⟩ : ∃ R, walkD d s0 (bl t) = R := ⟨_, rfl⟩
  rw [hR]
  have HR := Lib.hid hR
  clear hd hm hmay hR
  go_enter Tryd.func69, Tryd.ntmps69
  go_wp2_with fail
  go_loopw [1, 10] (fun sv i wr => ∃ (j : Nat) (s : Int), i = .int .i64 (j : Nat) ∧ sv = .int .i64 s ∧ j ≤ t.size ∧ s < (d.nx.length : Int) ∧ 0 ≤ s ∧ Hid (walkD d s ((bl t).drop j) = R) ∧ Hid (Sb w wr [(w.heap.size, .cells ds 48)])) (fun _ i _ => t.size - (intOf i).toNat)
  case atStart => exact ⟨0, s0, rfl, rfl, by omega, hs, hs9, HR, S0⟩
  case round =>
  clear S0 HR
  obtain ⟨j, s, rfl, rfl, hj, hsl, hsl9, HW, HS⟩ := hrel
  by_cases hlt : j < t.size
  · have hkl : j < (bl t).length := by rw [bl_len]; exact hlt
    obtain ⟨x, hx⟩ : ∃ x, (bl t)[j] = x := ⟨_, rfl⟩
    have hgx : (bl t)[j]? = some x := by rw [List.getElem?_eq_getElem hkl, hx]
    have hix := index9 t j x hgx
    have hx9 : x < 256 := by
      have := List.mem_of_getElem? hgx
      unfold bl at this
      obtain ⟨c, _, rfl⟩ := List.mem_map.1 this
      exact c.toNat_lt
    have hW2 : walkD d (goD d s x) ((bl t).drop (j + 1)) = R := by
      have := HW.out
      rw [List.drop_eq_getElem_cons hkl, hx, walkD] at this
      exact this
    obtain ⟨n, rfl⟩ : ∃ n : Nat, s = (n : Int) := ⟨s.toNat, by omega⟩
    have hlt9 := (goD_lt HMAY.out (n : Int) x).1
    have hn : n < d.nx.length := by omega
    obtain ⟨b, o, qf, ff, rfl, hb, hcj, hcf, -, -⟩ := nx_open HM.out HMAY.out n hn
    obtain ⟨bf, of, rfl, hbf, hcx⟩ := hcf (d.cl x) (HMAY.out.cl x hx9)
    have c257 : wr.cell? ⟨w.heap.size, 257, none⟩ = some (.slice (some ⟨b, o, none⟩) d.nx.length c) := (HS.out.cell 257).trans HD.out.nx
    have cx : wr.cell? ⟨w.heap.size, 1 + x, none⟩ = some (.int .u8 (d.cl x : Nat)) := (HS.out.cell (1 + x)).trans (HD.out.cl x hx9).1
    have hc9 := (HD.out.cl x hx9).2
    have y1 : wr.cell? ⟨b, o + n, none⟩ = some (.slice (some ⟨bf, of, none⟩) (row0 d).length ff) := (cell_same (HS.out.1.block b hb) _).trans hcj
    have y2 : wr.cell? ⟨bf, of + d.cl x, none⟩ = some (.int .i64 (cellAt d n (d.cl x))) := (cell_same (HS.out.1.block bf hbf) _).trans hcx
    have hG : goD d (n : Int) x = if cellAt d n (d.cl x) < 0 then -1 else cellAt d n (d.cl x) := by unfold goD; rw [if_neg (by omega), Int.toNat_natCast]
    have hcl := HMAY.out.cl x hx9
    have hcl1 : ((d.cl x : Nat) : Int) < ((row0 d).length : Int) := by omega
    have hcl2 : ¬ ((d.cl x : Nat) : Int) < 0 := by omega
    have hm1 := HMAY.out.m1
    have hl1 := HM.out.l1
    have hjI : (j : Int) < (t.size : Int) := by omega
    have hjI0 : ¬ (j : Int) < 0 := by omega
    have hnI : ¬ (n : Int) < 0 := by omega
    generalize cellAt d n (d.cl x) = v at *
    generalize (row0 d).length = m at *
    generalize d.cl x = cl at *
    have HG := Lib.hid hG
    have HW2 := Lib.hid hW2
    have HLT := Lib.hid hlt9
    clear hx hgx hkl HW hcf hcj hcx hcl hG hW2 hlt9
    go_wp2_with fail
    go_quiet (fail)
    refine d7_at_worldQ (fun z => Sb w z [(w.heap.size, .cells ds 48)]) (HS.out.drewN _) fun z hz => ?_
    have HZ := Lib.hid hz
    clear hz y1 y2 c257 cx HS
    by_cases hv : v < 0
    · have HF : Hid (R = -1) := Lib.hid (by rw [← HW2.out, HG.out, if_pos hv]; exact walkD_neg d _)
      go_wp2_with fail
      go_ret
      exact ⟨by rw [HF.out]; rfl, HZ.out.1⟩
    · have HW3 : Hid (walkD d v ((bl t).drop (j + 1)) = R) := Lib.hid (by rw [← HW2.out, HG.out, if_neg hv])
      have hv9 : v < (d.nx.length : Int) := by have := HLT.out; rw [HG.out, if_neg hv] at this; exact this
      have hv8 : 0 ≤ v := by omega
      clear HW2 HG HLT
      go_wp2_with fail
      go_roundw
      case rel => exact ⟨j + 1, v, by go_num, rfl, by omega, hv9, hv8, HW3, HZ⟩
      case measure => simp [intOf]; omega
  · have hjI : ¬ (j : Int) < (t.size : Int) := by omega
    have HF : Hid (s = R) := Lib.hid (by have := HW.out; rwa [List.drop_eq_nil_of_le (by rw [bl_len]; omega)] at this)
    clear HW
    go_wp2_with fail
    go_ret
    exact ⟨by rw [HF.out]; rfl, HS.out.1⟩
end Go.Proofs.YthglciccejholaaDoor
end
section
/- Packages dfa, mini, munch. -/
namespace Go.Proofs.YthglciccejholaaDoor
set_option linter.unusedSimpArgs false
set_option linter.unusedVariables false
set_option maxRecDepth 100000
open Go.RowKit
/- Run and Rule. -/
def runF (d : Df) (s0 : Int) (t : List Nat) : Int × Int := if chkD d ≠ 0 then (0, chkD d) else if 0 ≤ s0 ∧ s0 < (d.nx.length : Int) then (walkD d s0 t, 0) else (0, 2)
def ruleF (d : Df) (t : List Nat) : Int × Int := if chkD d ≠ 0 then (0, chkD d) else (rlAt d (walkD d d.st t), 0)
def tup (r : Int × Int) : Value := .tuple #[.int .i64 r.1, .int .i64 r.2]
theorem BX.sb {w z : World} {ds : Array Value} {b : Nat} (h : Sb w z [(b, .cells ds 48)]) : BX z b ds := h.heap
set_option maxHeartbeats 8000000 in
theorem runR_any {D : Nat → Prop} {w : World} {d : Df} {ds : Array Value} {p q : Option Addr} {c f : Nat} (s0 : Int) (t : ByteArray) (hd : DC d ds p q c f) (hm : DM D w d p q c f) (ht : t.size ≤ 9223372036854775806) :
    Calls Tryd.prog 31 #[.agg ds, .int .i64 s0, .string t] w fun e w' => e = .returned (tup (runF d s0 (bl t))) ∧ Below w.heap.size w w' := by
  have S0 := Lib.hid ((Sb.start w).alloc (.cells ds 48))
  have HSZ := Lib.hid hd.sz
  have HD := Lib.hid hd
  have HM := Lib.hid hm
  clear hd hm
  go_enter Tryd.func31, Tryd.ntmps31
  go_upto_region 1 with fail
  refine d7_at_world (fun z => Sb w z [(w.heap.size, .cells ds 48)]) S0.out fun z hz => ?_
  clear S0
  have HZ := Lib.hid hz
  clear hz
  go_wp2_with (first | (refine wpList_load_D rfl (.tmp 3) rfl w.heap.size ds rfl (BX.sb HZ.out) HSZ.out ?_))
  refine (d7_check_any HD.out (HM.out.up HZ.out.1)).mono ?_
  rintro _ w1 ⟨rfl, hb1⟩
  have H1 := Lib.hid (HZ.out.up hb1)
  clear hb1 HZ
  by_cases hck : chkD d = 0
  · have HMAY := Lib.hid (chk_may hck)
    have HCK := Lib.hid hck
    rw [hck]
    clear hck
    go_wp2_with (first | (refine wpList_load_D rfl (.tmp 3) rfl w.heap.size ds rfl (BX.sb H1.out) HSZ.out ?_))
    refine (d7_isState_any (D := D) HD.out s0).mono ?_
    rintro _ w2 ⟨rfl, hb2⟩
    have H2 := Lib.hid (H1.out.up hb2)
    clear hb2 H1
    by_cases hin : 0 ≤ s0 ∧ s0 < (d.nx.length : Int)
    · have e : (decide (0 ≤ s0) && decide (s0 < (d.nx.length : Int))) = true := by simp [hin.1, hin.2]
      rw [e]
      have HIN := Lib.hid hin
      clear e hin
      go_wp2_with (first | (refine wpList_load_D rfl (.tmp 3) rfl w.heap.size ds rfl (BX.sb H2.out) HSZ.out ?_))
      refine (run_any s0 t HD.out (HM.out.up H2.out.1) HMAY.out HIN.out.2 HIN.out.1 ht).mono ?_
      rintro _ w3 ⟨rfl, hb3⟩
      have H3 := Lib.hid (H2.out.up hb3)
      clear hb3 H2
      have HF : Hid (runF d s0 (bl t) = (walkD d s0 (bl t), 0)) := Lib.hid (by unfold runF; rw [if_neg (by simp [HCK.out]), if_pos HIN.out])
      generalize walkD d s0 (bl t) = v at *
      go_wp2_with fail
      go_ret2
      exact ⟨by rw [HF.out]; rfl, H3.out.1⟩
    · have e : (decide (0 ≤ s0) && decide (s0 < (d.nx.length : Int))) = false := by
        rw [Bool.eq_false_iff]; intro h; simp only [Bool.and_eq_true, decide_eq_true_eq] at h; exact hin h
      rw [e]
      have HF : Hid (runF d s0 (bl t) = (0, 2)) := Lib.hid (by unfold runF; rw [if_neg (by simp [HCK.out]), if_neg hin])
      clear e hin
      go_wp2_with fail
      go_ret2
      exact ⟨by rw [HF.out]; rfl, H2.out.1⟩
  · have HF : Hid (runF d s0 (bl t) = (0, chkD d)) := Lib.hid (by unfold runF; rw [if_pos hck])
    generalize chkD d = v at *
    go_wp2_with fail
    go_ret2
    exact ⟨by rw [HF.out]; rfl, H1.out.1⟩
end Go.Proofs.YthglciccejholaaDoor
end
section
/- Packages dfa, mini, munch. -/
namespace Go.Proofs.YthglciccejholaaDoor
set_option linter.unusedSimpArgs false
set_option linter.unusedVariables false
set_option maxRecDepth 100000
open Go.RowKit
/- The document's Run; Rule. -/
set_option maxHeartbeats 8000000 in
theorem ruleR_any {D : Nat → Prop} {w : World} {d : Df} {ds : Array Value} {p q : Option Addr} {c f : Nat} (t : ByteArray) (hd : DC d ds p q c f) (hm : DM D w d p q c f) (ht : t.size ≤ 9223372036854775806) :
    Calls Tryd.prog 33 #[.agg ds, .string t] w fun e w' => e = .returned (tup (ruleF d (bl t))) ∧ Below w.heap.size w w' := by
  have S0 := Lib.hid ((Sb.start w).alloc (.cells ds 48))
  have HSZ := Lib.hid hd.sz
  have HD := Lib.hid hd
  have HM := Lib.hid hm
  clear hd hm
  go_enter Tryd.func33, Tryd.ntmps33
  go_upto_region 1 with fail
  refine d7_at_world (fun z => Sb w z [(w.heap.size, .cells ds 48)]) S0.out fun z hz => ?_
  clear S0
  have HZ := Lib.hid hz
  clear hz
  go_wp2_with (first | (refine wpList_load_D rfl (.tmp 2) rfl w.heap.size ds rfl (BX.sb HZ.out) HSZ.out ?_))
  refine (d7_check_any HD.out (HM.out.up HZ.out.1)).mono ?_
  rintro _ w1 ⟨rfl, hb1⟩
  have H1 := Lib.hid (HZ.out.up hb1)
  clear hb1 HZ
  by_cases hck : chkD d = 0
  · have hmay := chk_may hck
    have HMAY := Lib.hid hmay
    have HCK := Lib.hid hck
    have c0 : w1.cell? ⟨w.heap.size, 0, none⟩ = some (.int .i64 d.st) := (H1.out.cell 0).trans HD.out.st
    rw [hck]
    clear hck hmay
    go_wp2_with (first | (refine wpList_load_D rfl (.tmp 2) rfl w.heap.size ds rfl (BX.sb H1.out) HSZ.out ?_))
    refine (run_any d.st t HD.out (HM.out.up H1.out.1) HMAY.out HMAY.out.s1 HMAY.out.s0 ht).mono ?_
    rintro _ w3 ⟨rfl, hb3⟩
    have H3 := Lib.hid (H1.out.up hb3)
    clear hb3 H1 c0
    have hwl := walkD_lt HMAY.out (bl t) d.st (by have := HMAY.out.s0; omega) HMAY.out.s1
    have c258 : w3.cell? ⟨w.heap.size, 258, none⟩ = some (.slice q d.rl.length f) := (H3.out.cell 258).trans HD.out.rl
    have HF : Hid (ruleF d (bl t) = (rlAt d (walkD d d.st (bl t)), 0)) := Lib.hid (by unfold ruleF; rw [if_neg (by simp [HCK.out])])
    generalize walkD d d.st (bl t) = v at *
    by_cases hv : v = -1
    · subst hv
      go_wp2_with fail
      go_ret2
      exact ⟨by rw [HF.out]; rfl, H3.out.1⟩
    · obtain ⟨n, rfl⟩ : ∃ n : Nat, v = (n : Int) := ⟨v.toNat, by omega⟩
      have hn : n < d.rl.length := by have := HMAY.out.ln; omega
      obtain ⟨b, o, rfl, hb, hcr⟩ := rl_open (HM.out.up H3.out.1) n hn
      have hrl : Hid (rlAt d (n : Int) = if d.rl.getD n (-1) < 0 then -1 else d.rl.getD n (-1)) := Lib.hid (by unfold rlAt; rw [if_neg (by omega), Int.toNat_natCast])
      have hnI : (n : Int) < (d.rl.length : Int) := by omega
      have hnI0 : ¬ (n : Int) < 0 := by omega
      have hn1 : ((n : Int) == -1) = false := beq_eq_false_iff_ne.2 (by omega)
      generalize d.rl.getD n (-1) = r at *
      clear hb hwl
      by_cases hr : r < 0
      · go_wp2_with fail
        go_ret2
        exact ⟨by rw [HF.out, hrl.out, if_pos hr]; rfl, H3.out.1⟩
      · have hr' : 0 ≤ r := by omega
        go_wp2_with fail
        go_ret2
        exact ⟨by rw [HF.out, hrl.out, if_neg (by omega)]; rfl, H3.out.1⟩
  · have HF : Hid (ruleF d (bl t) = (0, chkD d)) := Lib.hid (by unfold ruleF; rw [if_pos hck])
    generalize chkD d = v at *
    go_wp2_with fail
    go_ret2
    exact ⟨by rw [HF.out]; rfl, H1.out.1⟩
end Go.Proofs.YthglciccejholaaDoor
end
section
/- Packages dfa, mini, munch. -/
namespace Go.Proofs.YthglciccejholaaDoor
set_option linter.unusedSimpArgs false
set_option linter.unusedVariables false
set_option maxRecDepth 100000
open Go.RowKit
/- The document's Rule. -/
end Go.Proofs.YthglciccejholaaDoor
end
section
/- Package dfa. -/
namespace Go.Proofs.YthglciccejholaaDoor
set_option linter.unusedSimpArgs false
set_option linter.unusedVariables false
set_option maxRecDepth 100000
open Go.RowKit Go.Shelf
/- What Of answered, as an automaton that lies; the chapter's examples. -/
open Go.Maps
theorem own_ivD {B : Nat} {w : World} {l : List Int} {v : Value} (h : w.ownsRow B 3 1 v l.length (zi l)) : IV (fun b => b < w.heap.size) w l v := by
  rcases h.2 with ⟨hv, h0⟩ | ⟨g, cap, cur, hv, hb, hg, hc, hc2, hc3, hc4⟩
  · have e : l = [] := List.length_eq_zero_iff.1 h0
    subst e
    rw [hv]
    exact ⟨none, 0, rfl, fun h => absurd rfl h⟩
  · rw [hv]
    refine ⟨_, _, rfl, fun _ => ⟨g, 0, rfl, (Array.getElem?_eq_some_iff.1 hg).1, fun i hi => ?_⟩⟩
    rw [Nat.zero_add, cell_of_row w g i cur 3 (0, 0) hg]
    have h1 : (zi l)[i]? = some (.int .i64 l[i]) := by simp [zi, hi]
    rw [← hc4, List.getElem?_take_of_lt (by omega), Array.getElem?_toList] at h1
    exact h1
theorem dm_of {B : Nat} {w0 w : World} {d : Df} {p q : Option Addr} {c f : Nat} {zs : List (List Int × Nat)} {L : List It} (hz : zs.map (fun z => z.1) = d.nx)
    (hs : Sep B w0 w (.row (.slice p d.nx.length c) 39 1 zs.length (zs.map zV) :: .row (.slice q d.rl.length f) 3 1 d.rl.length (zi d.rl) :: (zs.map zI ++ L))) (h3 : ∀ r ∈ d.nx, r.length ≤ 9223372036854775806) (h1 : d.nx.length ≤ 9223372036854775806) (h2 : d.rl.length ≤ 9223372036854775806) : DM (fun b => b < w.heap.size) w d p q c f := by
  have hl : zs.length = d.nx.length := by rw [← hz, List.length_map]
  refine ⟨?_, own_ivD (hs.li (.row (.slice q d.rl.length f) 3 1 d.rl.length (zi d.rl)) (by simp)), fun b h => h, h1, h2, h3⟩
  have hr : w.ownsRow B 39 1 (.slice p d.nx.length c) zs.length (zs.map zV) := hs.li (.row (.slice p d.nx.length c) 39 1 zs.length (zs.map zV)) (by simp)
  refine ⟨p, c, rfl, fun hne => ?_⟩
  rcases hr.2 with ⟨hv, h0⟩ | ⟨g, cap, cur, hv, hb, hg, hc, hc2, hc3, hc4⟩
  · exact absurd (List.length_eq_zero_iff.1 (hl.symm.trans h0)) hne
  · injection hv with e1 e2 e3
    refine ⟨g, 0, e1, (Array.getElem?_eq_some_iff.1 hg).1, fun i hi => ?_⟩
    have hi' : i < zs.length := by omega
    have hmem : zI zs[i] ∈ zs.map zI := List.mem_map_of_mem (List.getElem_mem hi')
    have hbox := hs.li (zI zs[i]) (List.mem_cons_of_mem _ (List.mem_cons_of_mem _ (List.mem_append_left _ hmem)))
    have he : d.nx[i] = zs[i].1 := by simp only [← hz, List.getElem_map]
    rw [he]
    refine ⟨some ⟨zs[i].2, 0, none⟩, zs[i].1.length, ⟨_, _, rfl, fun _ => ⟨zs[i].2, 0, rfl, (Array.getElem?_eq_some_iff.1 hbox.2).1, fun j hj => ?_⟩⟩, ?_⟩
    · rw [Nat.zero_add, cell_of_row w zs[i].2 j _ 3 (0, 0) hbox.2]
      unfold zA
      simp [hj]
    · rw [Nat.zero_add, cell_of_row w g _ cur 39 (0, 0) hg]
      have h1 : (zs.map zV)[i]? = some (zV zs[i]) := by simp [hi']
      rw [← hc4, List.getElem?_take_of_lt (by omega), Array.getElem?_toList] at h1
      exact h1
theorem ofD_len (st : Int) (ss : List Nst) : (∀ r ∈ (ofD st ss).1.nx, r.length ≤ 256) ∧ (ofD st ss).1.nx.length ≤ 2048 ∧ (ofD st ss).1.rl.length = (ofD st ss).1.nx.length := by
  unfold ofD
  by_cases h : chkN st ss ≠ 0
  · rw [if_pos h]; exact ⟨fun r hr => (by cases hr), (by simp [dz]), rfl⟩
  · rw [if_neg h]
    obtain ⟨F, hF⟩ : ∃ F, ofF st ss = F := ⟨_, rfl⟩
    have hF2 : fnF ss (mb (liveL ss)) (byL ss 256) 2050 0 [goF ss (ss.length + 1) 0 [st.toNat]] [] = F := by rw [← hF]; unfold ofF; rfl
    rw [hF]
    by_cases h2 : F.1 = true
    · rw [if_pos h2]
      have hc : chkN st ss = 0 := by omega
      have hs := sop_of hc
      obtain ⟨hn, -, hst, hi, -, -⟩ := chk_facts hc
      have hP := fnF_fin ss (mb (liveL ss)) (byL ss 256) (fun l => ∀ x ∈ l, x < ss.length) (fun f s h => hs.lead f s h) 2050 0 [goF ss (ss.length + 1) 0 [st.toNat]] [] (by omega) (by omega) (by simp) rfl (by simp) ⟨fun l hl => by
        simp only [List.mem_singleton] at hl
        subst hl
        exact goF_ltI hi (by simp) (by simp; omega), fun r hr => by simp at hr⟩ (by rw [hF2]; exact h2)
      rw [hF2] at hP
      obtain ⟨ok, sets, rows⟩ := F
      obtain ⟨h3, h4, h5, h6⟩ := hP
      simp only at h3 h4 h5 ⊢
      unfold autX
      simp only [List.length_map]
      refine ⟨fun r hr => ?_, by omega, by omega⟩
      obtain ⟨r0, hr0, rfl⟩ := List.mem_map.1 hr
      rw [nxF_len]
      cases rows with
      | nil => simp at h3; omega
      | cons a b => exact (clsG_lt (soF ss) b a _).2
    · rw [if_neg h2]; exact ⟨fun r hr => (by cases hr), (by simp [dz]), rfl⟩
theorem isA_chk {d : Df} (h : IsA d) : chkD d = 0 := by
  obtain ⟨st, cl, nx, rl⟩ := d
  obtain ⟨h1, h2, h3, h4⟩ := h
  simp only at h1 h2 h3 h4
  subst h1 h2 h3
  have hc : clsOk ⟨0, cl, rowsA, [-1, 1, 1, 0]⟩ = true := by
    unfold clsOk
    rw [List.all_eq_true]
    intro i hi
    have h5 := cqA_lt (List.mem_range.1 hi)
    rw [← h4 i (List.mem_range.1 hi)] at h5
    exact decide_eq_true h5
  have hr : rowsOk ⟨0, cl, rowsA, [-1, 1, 1, 0]⟩ = true := rfl
  have hl : rlsOk ⟨0, cl, rowsA, [-1, 1, 1, 0]⟩ = true := rfl
  have ht : tooD ⟨0, cl, rowsA, [-1, 1, 1, 0]⟩ = false := rfl
  have hs : d7_stOk ⟨0, cl, rowsA, [-1, 1, 1, 0]⟩ = true := rfl
  have hm : mayD ⟨0, cl, rowsA, [-1, 1, 1, 0]⟩ = true := by unfold mayD; rw [hc, hr, hl, hs]; rfl
  unfold chkD
  rw [ht, hm]; rfl
theorem isA_go {d : Df} (h : IsA d) : goD d 0 105 = 2 ∧ goD d 2 102 = 3 ∧ goD d 0 55 = -1 := by
  obtain ⟨e0, e1, e2, e3, e4⟩ := cqA_at
  have c1 := h.cl 105 (by decide)
  have c2 := h.cl 102 (by decide)
  have c3 := h.cl 55 (by decide)
  rw [e3] at c1
  rw [e2] at c2
  rw [e4] at c3
  unfold goD cellAt
  rw [c1, c2, c3, h.nx]
  decide
theorem isA_ex {d : Df} (h : IsA d) : ruleF d [105, 102] = (0, 0) ∧ ruleF d [55] = (-1, 0) ∧ runF d 2 [102] = (3, 0) := by
  obtain ⟨g1, g2, g3⟩ := isA_go h
  have hc := isA_chk h
  unfold ruleF runF
  simp only [hc, walkD, h.st, g1, g2, g3, h.nx]
  unfold rlAt
  rw [h.rl]
  decide
end Go.Proofs.YthglciccejholaaDoor
end
