/- Texts of package regs, one behind the other. -/
import Derived.Test.YthglciccejholaaDoorProg
import Derived.Test.YthglciccejholaaDoorV30
import Derived.Test.YthglciccejholaaDoorGk
import Derived.Test.YthglciccejholaaDoorGi
import Derived.RangeFuncNested
import Derived.RangeFuncBound
import Derived.RangeFuncCalls
import Derived.RangeFuncLeaves
import Derived.RangeFuncBox
import Derived.Shelf.Abstract
import Derived.Shelf.RegionOpen
import Derived.WalkKit
import Derived.OwnWalkIn
import Derived.TacticsInMore
import Derived.LoopNIn
import Derived.LoopIn
import Derived.Below
import Derived.Lib.Hide
import Derived.Lib.Walk
import Derived.Test.YthglciccejholaaDoorV20
import Derived.WalkLawsBesides
import Derived.WalkSpells
import Derived.Outline
import Derived.Lib.Slices
import Derived.Lib.Strings
import Derived.RegionTactic
import Derived.LoopTactic
import Derived.IntWalk
import Derived.Deep.QuietTactic
import Derived.BigQuiet
import Derived.Deep.MidRow
import Derived.Maps.AppendAt
import Derived.Laws.Rows
import Derived.Laws.Tables
import Derived.Deep.WholeRow
import Derived.Deep.Cut
import Derived.Deep.CutRange
import Derived.Lib.SliceRun
import Derived.Laws.MakeOwn
import Derived.Deep.RegionLaw
import Derived.Deep.RegionLawGrows
import Derived.Deep.RegionHeld3
import Derived.RegionCalls
import Derived.Deep.RegionWith
import Derived.Deep.Light
import Derived.Laws.CopyOwn
import Derived.Laws.ResultCell
import Derived.BigFrame
section
/- Package dfa. -/
namespace Go.Proofs.YthglciccejholaaDoor
set_option linter.unusedSimpArgs false
set_option linter.unusedVariables false
set_option maxRecDepth 100000
open Go.RowKit Go.Shelf
/- newBuilder, as a builder. -/
open Go.Maps
theorem fr_le_frees : ∀ (ss : List Nst), ∀ s ∈ ss, s.fr.length ≤ frees ss
  | x :: r, s, h => by
    rw [frees]
    rcases List.mem_cons.1 h with rfl | h
    · omega
    · have := fr_le_frees r s h; omega
def p8f (a b c d e f g h : It) : Nat → It
  | 0 => a
  | 1 => b
  | 2 => c
  | 3 => d
  | 4 => e
  | 5 => f
  | 6 => g
  | _ => h
theorem perm8 (a b c d e f g h : It) : List.Perm [c, b, a, d, e, f, g, h] [d, a, b, g, c, f, e, h] := by
  have h1 : List.Perm [2, 1, 0, 3, 4, 5, 6, 7] [3, 0, 1, 6, 2, 5, 4, 7] := by decide
  exact h1.map (p8f a b c d e f g h)
theorem mb_no (i : Nat) (hi : i < 64) : (.int .u64 (W (mb []) i) : Value) = .int .u64 0 := by
  have h1 := fr142.ws i hi
  have h2 : (Tryd.zeroCells142)[0 + i]? = some (.int .u64 0) := by
    rw [zc142, Nat.zero_add, List.getElem?_toArray, List.getElem?_append_left (by simp; omega), List.getElem?_replicate, if_pos hi]
  rw [h2] at h1
  exact (Option.some.inj h1).symm
/-- What stays of a new builder. -/
def newK (w : World) (ss : List Nst) (st : Int) (q : Option Addr) (c : Nat) (fv : Value) (fc : List Value) (bv : Value) (gb cb : Nat) (bys : List (Nat → Bool)) (so : Nat → Nat) : BK :=
  ⟨w.heap.size, w, w.heap.size + 1 + 1, .slice q ss.length c, fv, mb (liveL ss), so, gb, cb, bys, [.row fv 39 1 ss.length fc, .row bv 139 64 (bys).length (setF (bys)), .box w.heap.size (.cells #[.int .i64 st, .slice q ss.length c] 33)]⟩
set_option maxHeartbeats 4000000 in
theorem newB_bs {D : Nat → Prop} {w w' : World} {st : Int} {ss : List Nst} {q : Option Addr} {c : Nat} {R R3 : Array Value} {fv bv : Value} {fc : List Value} {bys : List (Nat → Bool)} {so : Nat → Nat} (hso : ∀ i, i < 256 → R3[66 + i]? = some (.int .u8 (so i : Nat))) (hbys : byL ss 256 = bys) (hD : ∀ b, D b → b < w.heap.size) (hSV : SV D w ss (.slice q ss.length c)) (hn : ss.length ≤ 4096) (hfree : frees ss ≤ 16384) (hfr : InB ss) (hto : ∀ s ∈ ss, s.to < ss.length) (h0 : 0 < w.heap.size) (hT : R5.Tb w)
    (hNB : NB q ss.length c (w.heap.size + 1) R fv) (hFC : FC D w ss ss.length fc) (hRS : RS ss (putA R 2 (sA (mb (liveL ss))).toList) R3 256 bv)
    (hS : Sep w.heap.size w w' (.box (w.heap.size + 1 + 1) (.cells R3 144) :: .row bv 139 64 (bys).length (setF (bys)) :: .row fv 39 1 fc.length fc :: [.box (w.heap.size + 1) (.map #[] 0), .box w.heap.size (.cells #[.int .i64 st, .slice q ss.length c] 33)])) :
    ∃ gb cb, BS (newK w ss st q c fv fc bv gb cb bys so) [] [] [] (w.heap.size + 1) [] [] R3 R3 (.slice none 0 0) (.slice none 0 0) (.slice none 0 0) (.map #[] 0) w' ∧ BH (newK w ss st q c fv fc bv gb cb bys so) ss fc := by
  have hbr := hS.li (.row bv 139 64 (bys).length (setF (bys))) (by simp)
  have hlen : 0 < bys.length := by
    have := soF_lt ss (c := 0) (by omega)
    rw [← hbys, byL_len]; omega
  have hle : bys.length ≤ 256 := by rw [← hbys, byL_len]; exact seen_len _ _
  have hmem : ∀ f ∈ bys, ∃ j, j < 256 ∧ f = byF ss j := by rw [← hbys]; exact byL_mem ss 256
  clear hbys
  have hsz : R3.size = 391 := by rw [hRS.sz, putA_size]; exact hNB.sz
  have hpl : (sA (mb (liveL ss))).toList.length = 64 := by simp [sA_size]
  have hlo : ∀ j, j < 2 → R3[j]? = R[j]? := fun j hj => by
    rw [hRS.out j (by omega), putA_get _ _ _ _ (by rw [hpl, hNB.sz]; omega), if_neg (by rw [hpl]; omega)]
  have hhi : ∀ j, 323 ≤ j → R3[j]? = (bd0 q ss.length c (w.heap.size + 1))[j]? := fun j hj => by
    rw [hRS.out j (by omega), putA_get _ _ _ _ (by rw [hpl, hNB.sz]; omega), if_neg (by rw [hpl]; omega), hNB.rest j (by omega)]
  rcases hbr.2 with ⟨_, h9⟩ | ⟨g, cap, cur, rfl, hb, hg, hc1, hc2, hc3, hc4⟩
  · omega
  · obtain ⟨b1, b2, b3, b4, b5⟩ := bd0_2 q ss.length c (w.heap.size + 1)
    refine ⟨g, cap, ?_⟩
    unfold newK
    refine ⟨⟨⟨rfl, fun _ _ => rfl, fun i hi => ?_, ?_⟩, hsz, ?_, ?_, fun i hi => ?_, fun i hi => hso i hi, hRS.bv, ?_, ?_, ?_, ?_, fun s hs i hi => ?_, ⟨_, List.mem_cons_of_mem _ (List.mem_cons_self ..), rfl⟩, ?_⟩, ⟨h0, Nat.le_refl _, hn, hSV.mono (fun b h => hD b h) (fun _ _ _ => rfl), List.mem_cons_self .., fun i h => ?_, hfr, fun s hs => ?_, hT, fun f hf x hx hfx => ?_, ?_⟩⟩
    · rw [hhi _ (by omega), bd0_fr _ _ _ _ i hi, mb_no i hi]
    · rw [hhi _ (by omega)]; exact b5
    · rw [hlo 0 (by omega)]; exact hNB.c0
    · rw [hlo 1 (by omega)]; exact hNB.c1
    · rw [hRS.out _ (by omega), putA_get _ _ _ _ (by rw [hpl, hNB.sz]; omega), if_pos (by rw [hpl]; omega), show 2 + i - 2 = i by omega, Array.getElem?_toList]
      exact sA_get _ hi
    · rw [hhi _ (by omega)]; exact b2
    · rw [hhi _ (by omega)]; exact b3
    · rw [hhi _ (by omega)]; exact b4
    · have hw1 : (w.alloc (.cells #[] 33)).heap.size = w.heap.size + 1 := by simp
      have hm := World.ownsMap_made (P := Tryd.prog) (k := 139) (R := plainElem (H := Unit) Tryd.prog 3) (w.alloc (.cells #[] 33))
      rw [hw1] at hm
      exact mpi_of (E := .map []) (n := 0) hm (by have := heap_alloc_last (w.alloc (.cells #[] 33)) (.map #[] 0); rwa [hw1] at this) (Nat.le_refl _) (MK.nil _ _ _)
    · have h1 := setF_get (bys) s hs i hi
      rw [cell_of_row w' g _ cur 139 (0, 0) hg]
      rw [← hc4, List.getElem?_take_of_lt (by have : s < (bys).length := hs; omega), Array.getElem?_toList] at h1
      exact h1
    · have hfl := hFC.1
      rw [hfl] at hS
      have h1 := ((hS.nilrow 3 1).nilrow 139 64).nilrow 39 1
      exact h1.perm (perm8 ..)
    · obtain ⟨qf, f, h1, h2⟩ := hFC.2 i h h
      exact ⟨qf, f, h1, h2.mono (fun b hb => hD b hb) (fun _ _ _ => rfl)⟩
    · have := fr_le_frees ss s hs; omega
    · obtain ⟨j, -, rfl⟩ := hmem f hf
      unfold byF at hfx
      cases hs : ss[x]? with
      | none => rw [hs] at hfx; cases hfx
      | some s =>
        rw [hs] at hfx
        simp only [Bool.and_eq_true, decide_eq_true_eq] at hfx
        obtain ⟨hlt, he⟩ := List.getElem?_eq_some_iff.1 hs
        refine ⟨hlt, ?_⟩
        rw [he]
        exact ⟨hfx.1, hto s (he ▸ List.getElem_mem hlt)⟩
    · exact hle
end Go.Proofs.YthglciccejholaaDoor
end
section
/- Packages dfa, mini, munch. -/
namespace Go.Proofs.YthglciccejholaaDoor
set_option linter.unusedSimpArgs false
set_option linter.unusedVariables false
set_option maxRecDepth 100000
open Go.RowKit
/- isState, rulesMay. -/
set_option maxHeartbeats 4000000 in
theorem d7_isState_any {D : Nat → Prop} {w : World} {d : Df} {ds : Array Value} {p q : Option Addr} {c f : Nat} (hd : DC d ds p q c f) (s : Int) :
    Calls Tryd.prog 68 #[.agg ds, .int .i64 s] w fun e w' => e = .returned (.bool (decide (0 ≤ s) && decide (s < (d.nx.length : Int)))) ∧ Below w.heap.size w w' := by
  have S0 := Lib.hid ((Below.refl w.heap.size w).alloc (Nat.le_refl _) (.cells ds 48))
  have c257 : (w.alloc (.cells ds 48)).cell? ⟨w.heap.size, 257, none⟩ = some (.slice p d.nx.length c) := ((BX.new w ds).cell 257).trans hd.nx
  generalize d.nx.length = n at *
  clear hd
  go_enter Tryd.func68, Tryd.ntmps68
  by_cases h1 : 0 ≤ s
  · have h1' : ¬ s < 0 := by omega
    go_wp2_with fail
    go_ret
    exact ⟨by simp [h1], S0.out⟩
  · have h1' : s < 0 := by omega
    go_wp2_with fail
    go_ret
    exact ⟨by simp [show ¬ (0 ≤ s) by omega], S0.out⟩
theorem d7_all_take {α : Type} (p : α → Bool) (l : List α) (j : Nat) (h : j < l.length) : (l.take (j + 1)).all p = ((l.take j).all p && p l[j]) := by
  rw [List.take_add_one, List.getElem?_eq_getElem h, List.all_append]; simp
theorem d7_all_no {α : Type} {p : α → Bool} {l : List α} {j : Nat} (h : j < l.length) (hp : p l[j] = false) : l.all p = false := by
  rw [List.all_eq_false]; exact ⟨l[j], List.getElem_mem h, by simp [hp]⟩
theorem vbool {a b : Bool} (h : a = b) : Ending.returned (.bool a) = .returned (.bool b) := by rw [h]
set_option maxHeartbeats 4000000 in
theorem rulesMay_any {D : Nat → Prop} {w : World} {d : Df} {ds : Array Value} {p q : Option Addr} {c f : Nat} (hd : DC d ds p q c f) (hm : DM D w d p q c f) :
    Calls Tryd.prog 91 #[.agg ds] w fun e w' => e = .returned (.bool (rlsOk d)) ∧ Below w.heap.size w w' := by
  have S0 := Lib.hid ((Below.refl w.heap.size w).alloc (Nat.le_refl _) (.cells ds 48))
  have c258 : (w.alloc (.cells ds 48)).cell? ⟨w.heap.size, 258, none⟩ = some (.slice q d.rl.length f) := ((BX.new w ds).cell 258).trans hd.rl
  have HRL := Lib.hid hm.rl
  have HLT := Lib.hid hm.lt
  have hl := hm.l2
  unfold rlsOk
  generalize d.rl = l at *
  clear hd hm
  go_enter Tryd.func91, Tryd.ntmps91
  go_wp2_with fail
  clear c258
  go_loopw [8] (fun i wr => ∃ j : Nat, i = .int .i64 (j : Nat) ∧ j ≤ l.length ∧ Hid ((l.take j).all (fun r => decide (r < 48)) = true) ∧ Hid (Below w.heap.size w wr)) (fun i _ => l.length - (intOf i).toNat)
  case atStart => exact ⟨0, rfl, by omega, Lib.hid (by simp), S0⟩
  case round =>
  clear S0
  obtain ⟨j, rfl, hj, HAL, HS⟩ := hrel
  by_cases hlt : j < l.length
  · obtain ⟨p', c', he, hh⟩ := HRL.out
    injection he with e1 e2 e3
    subst e1 e3
    clear e2
    obtain ⟨b, o, rfl, hb, hc⟩ := hh (by intro e; subst e; simp at hlt)
    have cx : wr.cell? ⟨b, o + j, none⟩ = some (.int .i64 l[j]) := (cell_same (HS.out.block b (HLT.out b hb)) _).trans (hc j hlt)
    have hal := d7_all_take (fun r => decide (r < 48)) l j hlt
    have HNO := Lib.hid fun h => d7_all_no (p := fun r => decide (r < 48)) (l := l) hlt h
    rw [HAL.out, Bool.true_and] at hal
    generalize l[j] = x at *
    have hltI : (j : Int) < (l.length : Int) := by omega
    have hjI : ¬ (j : Int) < 0 := by omega
    clear hh hc
    by_cases hx : x < 48
    · have hx' : ¬ (48 : Int) ≤ x := by omega
      have HAL2 : Hid ((l.take (j + 1)).all (fun r => decide (r < 48)) = true) := Lib.hid (by rw [hal]; simp [hx])
      clear hal
      go_wp2_with fail
      go_roundw
      case rel => exact ⟨j + 1, by go_num, by omega, HAL2, HS⟩
      case measure => simp [intOf]; omega
    · have hx' : (48 : Int) ≤ x := by omega
      have HRES := Lib.hid (HNO.out (by simp [hx]))
      clear hal
      go_wp2_with fail
      go_ret
      exact ⟨vbool HRES.out.symm, HS.out⟩
  · obtain rfl : j = l.length := by omega
    have hall := HAL.out
    rw [List.take_length] at hall
    have HRES := Lib.hid hall
    have hltI : ¬ (l.length : Int) < (l.length : Int) := by omega
    clear hall HAL
    go_wp2_with fail
    go_ret
    exact ⟨vbool HRES.out.symm, HS.out⟩
/-- The classes, as an array. -/
def clA (d : Df) : List Value := (List.range 256).map fun i => .int .u8 (d.cl i : Nat)
theorem clA_len (d : Df) : (clA d).length = 256 := by unfold clA; rw [List.length_map, List.length_range]
theorem clA_get {d : Df} {i : Nat} (h : i < 256) : (clA d)[i]? = some (.int .u8 (d.cl i : Nat)) := by
  unfold clA; rw [List.getElem?_map, List.getElem?_range h]; rfl
theorem DC.range {w : World} {b : Nat} {d : Df} {ds : Array Value} {p q : Option Addr} {c f : Nat} (hd : DC d ds p q c f) (hb : BX w b ds) : w.rangeAt b 1 (clA d) := fun j v hj => by
  have h1 : j < 256 := by rw [← clA_len d]; exact (List.getElem?_eq_some_iff.1 hj).1
  rw [clA_get h1] at hj
  rw [hb.cell, (hd.cl j h1).1, hj]
theorem info22 : (Tryd.prog.info? 45).map (·.size) = some 256 := by kernel_rfl
theorem index22 (d : Df) (i : Nat) (h : i < 256) (w : World) : (Instr.index 45 (.agg (clA d).toArray) (.int .i64 (i : Nat))).run Tryd.prog w = .ok (.int .u8 (d.cl i : Nat)) w := by
  have hg : (clA d)[i]? = some (.int .u8 (d.cl i : Nat)) := clA_get h
  simp [Instr.index, run_underlying Tryd.underlying45, asIntOf, part, go_sem, Tryd.sizeOf5, h, hg]
end Go.Proofs.YthglciccejholaaDoor
end
section
/- Packages dfa, mini, munch. -/
namespace Go.Proofs.YthglciccejholaaDoor
set_option linter.unusedSimpArgs false
set_option linter.unusedVariables false
set_option maxRecDepth 100000
open Go.RowKit
/- classesMay, rowsMay. -/
set_option maxHeartbeats 4000000 in
theorem classesMay_any {D : Nat → Prop} {w : World} {d : Df} {ds : Array Value} {p q : Option Addr} {c f : Nat} (hd : DC d ds p q c f) (hm : DM D w d p q c f) (hpos : 0 < d.nx.length) :
    Calls Tryd.prog 89 #[.agg ds] w fun e w' => e = .returned (.bool (decide ((row0 d).length ≤ 256) && clsOk d)) ∧ Below w.heap.size w w' := by
  have S0 := Lib.hid ((Below.refl w.heap.size w).alloc (Nat.le_refl _) (.cells ds 48))
  have c257 : (w.alloc (.cells ds 48)).cell? ⟨w.heap.size, 257, none⟩ = some (.slice p d.nx.length c) := ((BX.new w ds).cell 257).trans hd.nx
  have hrg := hd.range (BX.new w ds)
  obtain ⟨p', c', he, hh⟩ := hm.nx
  injection he with e1 e2 e3
  subst e1 e3
  obtain ⟨b, o, rfl, hb, hc⟩ := hh (by intro e; rw [e] at hpos; simp at hpos)
  obtain ⟨q0, f0, -, hc0⟩ := hc 0 hpos
  have e0 : d.nx[0] = row0 d := by
    obtain ⟨st, cl, nx, rl⟩ := d
    cases nx with
    | nil => simp at hpos
    | cons r t => rfl
  rw [e0, Nat.add_zero] at hc0
  have cr : (w.alloc (.cells ds 48)).cell? ⟨b, o, none⟩ = some (.slice q0 (row0 d).length f0) := (cell_same (S0.out.block b (hm.lt b hb)) _).trans hc0
  have hix : ∀ i w, i < 256 → (Instr.index 45 (.agg (clA d).toArray) (.int .i64 (i : Nat))).run Tryd.prog w = .ok (.int .u8 (d.cl i : Nat)) w := fun i w h => index22 d i h w
  have HCL := Lib.hid fun i h => (hd.cl i h).2
  have hpI : (0 : Int) < (d.nx.length : Int) := by omega
  unfold clsOk
  clear hd hm hh hc hc0 e0 e2
  generalize (row0 d).length = m at *
  generalize d.nx.length = n at *
  go_enter Tryd.func89, Tryd.ntmps89
  by_cases hm : m ≤ 256
  · have hmI : ¬ (256 : Int) < (m : Int) := by omega
    go_wp2_with (refine wpList_load_mid rfl 45 _ rfl w.heap.size 1 rfl (clA d) _ hrg Tryd.underlying45 rfl (by rw [info22, clA_len]) ?_)
    clear c257 cr hrg
    generalize (clA d).toArray = ca at *
    go_loopw [15] (fun i wr => ∃ j : Nat, i = .int .i64 (j : Nat) ∧ j ≤ 256 ∧ Hid (((List.range 256).take j).all (fun i => decide (d.cl i < m)) = true) ∧ Hid (Below w.heap.size w wr)) (fun i _ => 256 - (intOf i).toNat)
    case atStart => exact ⟨0, rfl, by omega, Lib.hid (by simp), S0⟩
    case round =>
    clear S0
    obtain ⟨j, rfl, hj, HAL, HS⟩ := hrel
    by_cases hlt : j < 256
    · have hjI : (j : Int) < 256 := by omega
      have hx := hix j wr hlt
      have hc9 := HCL.out j hlt
      have hal := d7_all_take (fun i => decide (d.cl i < m)) (List.range 256) j (by simpa using hlt)
      have HNO := Lib.hid fun h => d7_all_no (p := fun i => decide (d.cl i < m)) (l := List.range 256) (j := j) (by simpa using hlt) h
      have eg : (List.range 256)[j]'(by simpa using hlt) = j := by simp
      rw [HAL.out, Bool.true_and] at hal
      rw [eg] at hal HNO
      generalize d.cl j = x at *
      clear hix
      by_cases hxm : x < m
      · have hx1 : ¬ (m : Int) ≤ (x : Int) := by omega
        have HAL2 : Hid (((List.range 256).take (j + 1)).all (fun i => decide (d.cl i < m)) = true) := Lib.hid (by rw [hal]; simp [hxm])
        clear hal HNO
        go_wp2_with fail
        go_roundw
        case rel => exact ⟨j + 1, by go_num, by omega, HAL2, HS⟩
        case measure => simp [intOf]; omega
      · have hx1 : (m : Int) ≤ (x : Int) := by omega
        have HRES := Lib.hid (HNO.out (by simp [hxm]))
        clear hal HNO
        go_wp2_with fail
        go_ret
        exact ⟨vbool (by rw [HRES.out]; simp), HS.out⟩
    · obtain rfl : j = 256 := by omega
      have hall := HAL.out
      rw [List.take_of_length_le (by simp)] at hall
      have HRES := Lib.hid hall
      have hjI : ¬ (((256 : Nat) : Int)) < 256 := by omega
      clear hall HAL hix
      go_wp2_with fail
      go_ret
      exact ⟨vbool (by rw [HRES.out]; simp [hm]), HS.out⟩
  · have hmI : (256 : Int) < (m : Int) := by omega
    go_wp2_with fail
    go_ret
    exact ⟨vbool (by simp [hm]), S0.out⟩
end Go.Proofs.YthglciccejholaaDoor
end
section
/- Packages dfa, mini, munch. -/
namespace Go.Proofs.YthglciccejholaaDoor
set_option linter.unusedSimpArgs false
set_option linter.unusedVariables false
set_option maxRecDepth 100000
open Go.RowKit
/- rowsMay, may, Check. -/
set_option maxHeartbeats 4000000 in
theorem rowsMay_any {D : Nat → Prop} {w : World} {d : Df} {ds : Array Value} {p q : Option Addr} {c f : Nat} (hd : DC d ds p q c f) (hm : DM D w d p q c f) (hpos : 0 < d.nx.length) :
    Calls Tryd.prog 90 #[.agg ds] w fun e w' => e = .returned (.bool (rowsOk d)) ∧ Below w.heap.size w w' := by
  have S0 := Lib.hid ((Below.refl w.heap.size w).alloc (Nat.le_refl _) (.cells ds 48))
  have HB0 : Hid (BX (w.alloc (.cells ds 48)) w.heap.size ds) := Lib.hid (BX.new w ds)
  have c257 : (w.alloc (.cells ds 48)).cell? ⟨w.heap.size, 257, none⟩ = some (.slice p d.nx.length c) := ((BX.new w ds).cell 257).trans hd.nx
  have H257 := Lib.hid hd.nx
  obtain ⟨p', c', he, hh⟩ := hm.nx
  injection he with e1 e2 e3
  subst e1 e3
  obtain ⟨b, o, rfl, hb, hc⟩ := hh (by intro e; rw [e] at hpos; simp at hpos)
  obtain ⟨q0, f0, -, hc0⟩ := hc 0 hpos
  have e0 : d.nx[0] = row0 d := by
    unfold row0
    obtain ⟨st, cl, nx, rl⟩ := d
    cases nx with
    | nil => simp at hpos
    | cons r t => rfl
  rw [e0, Nat.add_zero] at hc0
  have HC0 := Lib.hid hc0
  have HC := Lib.hid hc
  have HLT := Lib.hid hm.lt
  have HDB := Lib.hid hb
  have HL3 := Lib.hid hm.l3
  have hl1 := hm.l1
  unfold rowsOk
  clear hd hm hh hc hc0 e0 e2 hpos
  generalize (row0 d).length = m at *
  generalize d.nx = ls at *
  obtain ⟨k, hk⟩ : ∃ k, ls.length = k := ⟨_, rfl⟩
  rw [hk] at H257 c257 hl1 ⊢
  have HK := Lib.hid hk
  clear hk
  go_enter Tryd.func90, Tryd.ntmps90
  go_wp2_with fail
  clear c257
  go_loopw [10] (fun i wr => ∃ j : Nat, i = .int .i64 (j : Nat) ∧ j ≤ k ∧ Hid ((ls.take j).all (rowOk k m) = true) ∧ Hid (BX wr w.heap.size ds) ∧ Hid (Below w.heap.size w wr)) (fun i _ => k - (intOf i).toNat)
  case atStart => exact ⟨0, rfl, by omega, Lib.hid (by simp), HB0, S0⟩
  case round =>
  clear S0 HB0
  obtain ⟨j, rfl, hj, HAL, HBX, HS⟩ := hrel
  by_cases hlt : j < k
  · have hlt2 : j < ls.length := by rw [HK.out]; exact hlt
    obtain ⟨qf, ff, hiv, hcj⟩ := HC.out j hlt2
    have cx : wr.cell? ⟨b, o + j, none⟩ = some (.slice qf ls[j].length ff) := (cell_same (HS.out.block b (HLT.out b HDB.out)) _).trans hcj
    have c0 : wr.cell? ⟨b, o, none⟩ = some (.slice q0 m f0) := (cell_same (HS.out.block b (HLT.out b HDB.out)) _).trans HC0.out
    have c257 : wr.cell? ⟨w.heap.size, 257, none⟩ = some (.slice (some ⟨b, o, none⟩) k c) := (HBX.out.cell 257).trans H257.out
    have hal := d7_all_take (rowOk k m) ls j hlt2
    have HNO := Lib.hid fun h => d7_all_no (p := rowOk k m) (l := ls) hlt2 h
    have hfl := HL3.out ls[j] (List.getElem_mem hlt2)
    rw [HAL.out, Bool.true_and] at hal
    have hro : rowOk k m ls[j] = (decide (ls[j].length = m) && ls[j].all fun x => decide (x < (k : Int))) := rfl
    clear hcj
    generalize hsx : rowOk k m ls[j] = rok at *
    clear hsx
    generalize ls[j] = r at *
    obtain ⟨rn, hrn⟩ : ∃ rn, r.length = rn := ⟨_, rfl⟩
    rw [hrn] at cx hiv hfl hro
    have HRN := Lib.hid hrn
    have HIV := Lib.hid hiv
    have HAL2 := Lib.hid hal
    have HRO := Lib.hid hro
    have hltI : (j : Int) < (k : Int) := by omega
    have hpI : (0 : Int) < (k : Int) := by omega
    have hjI : ¬ (j : Int) < 0 := by omega
    clear hiv hal hrn hro hlt2 HAL
    by_cases hrm : rn = m
    · subst hrm
      go_wp2_with fail
      clear c0 cx c257
      go_loopw [24] (fun i wr => ∃ x : Nat, i = .int .i64 (x : Nat) ∧ x ≤ rn ∧ Hid ((r.take x).all (fun x => decide (x < (k : Int))) = true) ∧ Hid (BX wr w.heap.size ds) ∧ Hid (Below w.heap.size w wr)) (fun i _ => rn - (intOf i).toNat)
      case atStart => exact ⟨0, rfl, by omega, Lib.hid (by simp), HBX, HS⟩
      case round =>
      clear HS HBX
      obtain ⟨x, rfl, hx, HAX, HBX, HS⟩ := hrel
      by_cases hxl : x < rn
      · have hxl2 : x < r.length := by rw [HRN.out]; exact hxl
        obtain ⟨p', c', he, hh⟩ := HIV.out
        injection he with e1 e2 e3
        subst e1 e3
        clear e2
        obtain ⟨bf, of, rfl, hbf, hcf⟩ := hh (by intro e; rw [e] at hxl2; simp at hxl2)
        have cy : wr.cell? ⟨bf, of + x, none⟩ = some (.int .i64 r[x]) := (cell_same (HS.out.block bf (HLT.out bf hbf)) _).trans (hcf x hxl2)
        have c257 : wr.cell? ⟨w.heap.size, 257, none⟩ = some (.slice (some ⟨b, o, none⟩) k c) := (HBX.out.cell 257).trans H257.out
        have hak := d7_all_take (fun x => decide (x < (k : Int))) r x hxl2
        rw [HAX.out, Bool.true_and] at hak
        have hnok := fun h => d7_all_no (p := fun x => decide (x < (k : Int))) (l := r) hxl2 h
        generalize r[x] = y at *
        have hkI : ¬ (x : Int) < 0 := by omega
        have hklI : (x : Int) < (rn : Int) := by omega
        clear hh hcf
        by_cases hy : y < (k : Int)
        · have hy1 : ¬ (k : Int) ≤ y := by omega
          have HAK : Hid ((r.take (x + 1)).all (fun x => decide (x < (k : Int))) = true) := Lib.hid (by rw [hak]; simp [hy])
          clear hak hnok
          go_wp2_with fail
          go_roundw
          case rel => exact ⟨x + 1, by go_num, by omega, HAK, HBX, HS⟩
          case measure => simp [intOf]; omega
        · have hy1 : (k : Int) ≤ y := by omega
          have HRES : Hid (ls.all (rowOk k rn) = false) := Lib.hid (HNO.out (by rw [HRO.out, hnok (by simp [hy1])]; simp))
          clear hak hnok
          go_wp2_with fail
          go_ret
          exact ⟨vbool HRES.out.symm, HS.out⟩
      · obtain rfl : x = rn := by omega
        have hall : r.all (fun x => decide (x < (k : Int))) = true := by
          have := HAX.out
          rwa [← HRN.out, List.take_length] at this
        have HAL3 : Hid ((ls.take (j + 1)).all (rowOk k x) = true) := Lib.hid (by rw [HAL2.out, HRO.out, hall]; simp)
        have hklI : ¬ (x : Int) < (x : Int) := by omega
        clear hall HAX HAL2 HNO HRO
        go_wp2_with fail
        go_roundw
        case rel => exact ⟨j + 1, by go_num, by omega, HAL3, HBX, HS⟩
        case measure => simp [intOf]; omega
    · have hrm' : ¬ (rn : Int) = (m : Int) := by omega
      have HRES : Hid (ls.all (rowOk k m) = false) := Lib.hid (HNO.out (by rw [HRO.out]; simp [hrm]))
      go_wp2_with fail
      go_ret
      exact ⟨vbool HRES.out.symm, HS.out⟩
  · obtain rfl : j = k := by omega
    have hall := HAL.out
    rw [← HK.out, List.take_length, HK.out] at hall
    have HRES := Lib.hid hall
    have hltI : ¬ (j : Int) < (j : Int) := by omega
    clear hall HAL
    go_wp2_with fail
    go_ret
    exact ⟨vbool HRES.out.symm, HS.out⟩
end Go.Proofs.YthglciccejholaaDoor
end
section
/- Packages dfa, mini, munch. -/
namespace Go.Proofs.YthglciccejholaaDoor
set_option linter.unusedSimpArgs false
set_option linter.unusedVariables false
set_option maxRecDepth 100000
open Go.RowKit
/- may, Check. -/
theorem info26 : (Tryd.prog.info? 48).map (·.size) = some 259 := by kernel_rfl
theorem wpList_load_D {ops : Array Oper} {rest : List Oper} {op : Oper} {a : Act} {w : World} {Q : Exit → Act → World → Prop} (hgd : op.guard = none) (x : Operand) (ho : op.op = .load 48 x) (b : Nat) (ds : Array Value) (hx : a.eval x = .pointer (some ⟨b, 0, none⟩)) (hc : BX w b ds) (hs : ds.size = 259)
    (h : wpList Tryd.prog ops Q rest (a.put op.dst (.agg ds)) w) : wpList Tryd.prog ops Q (op :: rest) a w :=
  wpList_load_mid hgd 48 x ho b 0 hx ds.toList _ (fun j v hj => by rw [Nat.zero_add, hc.cell]; simpa using hj) Tryd.underlying48 rfl (by rw [info26]; simp [hs]) (by simpa using h)
theorem wp_load_D {op : Oper} {a : Act} {w : World} {K : Act → World → Prop} {Q : Exit → Act → World → Prop} (x : Operand) (ho : op.op = .load 48 x) (b : Nat) (ds : Array Value) (hx : a.eval x = .pointer (some ⟨b, 0, none⟩)) (hc : BX w b ds) (hs : ds.size = 259)
    (h : K (a.put op.dst (.agg ds)) w) : op.wp Tryd.prog a w K Q :=
  wp_load_mid 48 x ho b 0 hx ds.toList _ (fun j v hj => by rw [Nat.zero_add, hc.cell]; simpa using hj) Tryd.underlying48 rfl (by rw [info26]; simp [hs]) (by simpa using h)
theorem wpList_load_Dg {ops : Array Oper} {rest : List Oper} {op : Oper} {a : Act} {w : World} {Q : Exit → Act → World → Prop} (x : Operand) (ho : op.op = .load 48 x) (b : Nat) (ds : Array Value) (hx : a.eval x = .pointer (some ⟨b, 0, none⟩)) (hc : BX w b ds) (hs : ds.size = 259)
    (hw : Region.wanted op (yielded ops a.tmps) = true) (h : wpList Tryd.prog ops Q rest (a.put op.dst (.agg ds)) w) : wpList Tryd.prog ops Q (op :: rest) a w :=
  BigFrame.wpList_want hw fun K hK => wp_load_D x ho b ds hx hc hs (hK _ _ h)
set_option maxHeartbeats 4000000 in
theorem d7_may_any {D : Nat → Prop} {w : World} {d : Df} {ds : Array Value} {p q : Option Addr} {c f : Nat} (hd : DC d ds p q c f) (hm : DM D w d p q c f) :
    Calls Tryd.prog 51 #[.agg ds] w fun e w' => e = .returned (.bool (mayD d)) ∧ Below w.heap.size w w' := by
  have S0 := Lib.hid ((Below.refl w.heap.size w).alloc (Nat.le_refl _) (.cells ds 48))
  have c0 : (w.alloc (.cells ds 48)).cell? ⟨w.heap.size, 0, none⟩ = some (.int .i64 d.st) := ((BX.new w ds).cell 0).trans hd.st
  have c257 : (w.alloc (.cells ds 48)).cell? ⟨w.heap.size, 257, none⟩ = some (.slice p d.nx.length c) := ((BX.new w ds).cell 257).trans hd.nx
  have c258 : (w.alloc (.cells ds 48)).cell? ⟨w.heap.size, 258, none⟩ = some (.slice q d.rl.length f) := ((BX.new w ds).cell 258).trans hd.rl
  have HSZ := Lib.hid hd.sz
  have HI := Lib.hid fun z => d7_isState_any (D := D) (w := z) hd d.st
  have HBX : Hid (BX (w.alloc (.cells ds 48)) w.heap.size ds) := Lib.hid (BX.new w ds)
  have HCM := Lib.hid fun z (hp : 0 < d.nx.length) (hb : Below w.heap.size w z) => classesMay_any (w := z) hd (hm.up hb) hp
  have HRM := Lib.hid fun z (hp : 0 < d.nx.length) (hb : Below w.heap.size w z) => rowsMay_any (w := z) hd (hm.up hb) hp
  have HLM := Lib.hid fun z (hb : Below w.heap.size w z) => rulesMay_any (w := z) hd (hm.up hb)
  have hst : d7_stOk d = (decide (0 ≤ d.st) && decide (d.st < (d.nx.length : Int))) := rfl
  unfold mayD
  have HPOS : Hid (d7_stOk d = true → 0 < d.nx.length) := Lib.hid fun h => by rw [hst] at h; simp at h; omega
  rw [← hst] at HI
  generalize d7_stOk d = a1 at *
  generalize (decide ((row0 d).length ≤ 256) && clsOk d) = a2 at *
  generalize rowsOk d = a3 at *
  generalize rlsOk d = a4 at *
  generalize d.st = st at *
  generalize d.nx.length = n at *
  generalize d.rl.length = m at *
  clear hd hm hst
  go_enter Tryd.func51, Tryd.ntmps51
  by_cases hnm : n = m
  · subst hnm
    go_wp2_with (refine wpList_load_Dg _ rfl w.heap.size ds rfl HBX.out HSZ.out rfl ?_)
    refine (HI.out _).mono ?_
    rintro _ w1 ⟨rfl, hb1⟩
    have S1 := Lib.hid (S0.out.trans (hb1.mono S0.out.size))
    have HBX1 := Lib.hid (HBX.out.up hb1)
    clear hb1 c0 c257 c258 HI S0 HBX
    cases a1
    · go_wp2_with fail
      go_ret
      exact ⟨vbool (by simp), S1.out⟩
    · have hpos := Lib.hid (HPOS.out rfl)
      go_wp2_with (refine wpList_load_Dg _ rfl w.heap.size ds rfl HBX1.out HSZ.out rfl ?_)
      refine (HCM.out _ hpos.out S1.out).mono ?_
      rintro _ w2 ⟨rfl, hb2⟩
      have S2 := Lib.hid (S1.out.trans (hb2.mono S1.out.size))
      have HBX2 := Lib.hid (HBX1.out.up hb2)
      clear hb2 HCM S1 HBX1
      cases a2
      · go_wp2_with fail
        go_ret
        exact ⟨vbool (by simp), S2.out⟩
      · go_wp2_with (refine wpList_load_Dg _ rfl w.heap.size ds rfl HBX2.out HSZ.out rfl ?_)
        refine (HRM.out _ hpos.out S2.out).mono ?_
        rintro _ w3 ⟨rfl, hb3⟩
        have S3 := Lib.hid (S2.out.trans (hb3.mono S2.out.size))
        have HBX3 := Lib.hid (HBX2.out.up hb3)
        clear hb3 HRM S2 HBX2
        cases a3
        · go_wp2_with fail
          go_ret
          exact ⟨vbool (by simp), S3.out⟩
        · go_wp2_with (refine wpList_load_Dg _ rfl w.heap.size ds rfl HBX3.out HSZ.out rfl ?_)
          refine (HLM.out _ S3.out).mono ?_
          rintro _ w4 ⟨rfl, hb4⟩
          have S4 := Lib.hid (S3.out.trans (hb4.mono S3.out.size))
          clear hb4 HLM S3 HBX3
          go_wp2_with fail
          go_ret
          exact ⟨vbool (by simp), S4.out⟩
  · have hnm' : ¬ (n : Int) = (m : Int) := by omega
    go_wp2_with fail
    go_ret
    exact ⟨vbool (by simp [hnm]), S0.out⟩
set_option maxHeartbeats 4000000 in
theorem d7_check_any {D : Nat → Prop} {w : World} {d : Df} {ds : Array Value} {p q : Option Addr} {c f : Nat} (hd : DC d ds p q c f) (hm : DM D w d p q c f) :
    Calls Tryd.prog 18 #[.agg ds] w fun e w' => e = .returned (.int .i64 (chkD d)) ∧ Below w.heap.size w w' := by
  have S0 := Lib.hid ((Below.refl w.heap.size w).alloc (Nat.le_refl _) (.cells ds 48))
  have c257 : (w.alloc (.cells ds 48)).cell? ⟨w.heap.size, 257, none⟩ = some (.slice p d.nx.length c) := ((BX.new w ds).cell 257).trans hd.nx
  have c258 : (w.alloc (.cells ds 48)).cell? ⟨w.heap.size, 258, none⟩ = some (.slice q d.rl.length f) := ((BX.new w ds).cell 258).trans hd.rl
  have HSZ := Lib.hid hd.sz
  have HM := Lib.hid (d7_may_any hd (hm.up S0.out))
  have HBX : Hid (BX (w.alloc (.cells ds 48)) w.heap.size ds) := Lib.hid (BX.new w ds)
  have ht : tooD d = (decide (2048 < d.nx.length) || decide (2048 < d.rl.length)) := rfl
  have hc : chkD d = if tooD d = true then 3 else if mayD d = true then 0 else 2 := rfl
  rw [hc, ht]
  generalize mayD d = a at *
  generalize d.nx.length = n at *
  generalize d.rl.length = m at *
  obtain ⟨k, hk⟩ : ∃ k : Int, (if (decide (2048 < n) || decide (2048 < m)) = true then 3 else if a = true then 0 else 2) = k := ⟨_, rfl⟩
  rw [hk]
  have HK := Lib.hid hk
  clear hd hm ht hc hk
  go_enter Tryd.func18, Tryd.ntmps18
  by_cases h1 : 2048 < n
  · have h1' : (2048 : Int) < (n : Int) := by omega
    go_wp2_with fail
    go_ret
    exact ⟨by rw [← HK.out]; simp [h1], S0.out⟩
  · have h1' : ¬ (2048 : Int) < (n : Int) := by omega
    by_cases h2 : 2048 < m
    · have h2' : (2048 : Int) < (m : Int) := by omega
      go_wp2_with fail
      go_ret
      exact ⟨by rw [← HK.out]; simp [h2], S0.out⟩
    · have h2' : ¬ (2048 : Int) < (m : Int) := by omega
      go_wp2_with (refine wpList_load_Dg _ rfl w.heap.size ds rfl HBX.out HSZ.out rfl ?_)
      refine HM.out.mono ?_
      rintro _ w1 ⟨rfl, hb1⟩
      have S1 := Lib.hid (S0.out.trans (hb1.mono S0.out.size))
      clear hb1 c257 c258 S0 HBX
      cases a
      · go_wp2_with fail
        go_ret
        exact ⟨by rw [← HK.out]; simp [h1, h2], S1.out⟩
      · go_wp2_with fail
        go_ret
        exact ⟨by rw [← HK.out]; simp [h1, h2], S1.out⟩
end Go.Proofs.YthglciccejholaaDoor
end
