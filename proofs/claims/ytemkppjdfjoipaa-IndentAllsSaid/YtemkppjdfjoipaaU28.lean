/- Texts of package regs, one behind the other. -/
import Derived.Test.YtemkppjdfjoipaaProg
import Derived.Test.YtemkppjdfjoipaaU26
import Derived.WalkKit
import Derived.WalkLawsBesides
import Derived.WalkSpells
import Derived.Outline
import Derived.Lib.Walk
import Derived.Lib.Hide
import Derived.Lib.Slices
import Derived.Lib.Strings
import Derived.RegionTactic
import Derived.LoopTactic
import Derived.Below
import Derived.IntWalk
import Derived.Deep.QuietTactic
import Derived.BigQuiet
import Derived.Deep.MidRow
import Derived.Maps.AppendAt
import Derived.Laws.Rows
import Derived.Laws.Tables
import Derived.Deep.WholeRow
import Derived.Deep.Cut
import Derived.Deep.CutRange
import Derived.Lib.SliceRun
import Derived.Laws.MakeOwn
import Derived.Deep.RegionLaw
import Derived.Deep.RegionLawGrows
import Derived.Deep.RegionHeld3
import Derived.RegionCalls
import Derived.Deep.RegionWith
import Derived.Deep.Light
import Derived.Laws.CopyOwn
import Derived.Laws.ResultCell
section
/- Packages dfa, mini, munch. -/
namespace Go.Proofs.Ytemkppjdfjoipaa
set_option linter.unusedSimpArgs false
set_option linter.unusedVariables false
set_option maxRecDepth 100000
open Go.RowKit
/- isState, rulesMay. -/
set_option maxHeartbeats 4000000 in
theorem isState_any {D : Nat → Prop} {w : World} {d : Df} {ds : Array Value} {p q : Option Addr} {c f : Nat} (hd : DC d ds p q c f) (s : Int) :
    Calls Try.prog 94 #[.agg ds, .int .i64 s] w fun e w' => e = .returned (.bool (decide (0 ≤ s) && decide (s < (d.nx.length : Int)))) ∧ Below w.heap.size w w' := by
  have S0 := Lib.hid ((Below.refl w.heap.size w).alloc (Nat.le_refl _) (.cells ds 61))
  have c257 : (w.alloc (.cells ds 61)).cell? ⟨w.heap.size, 257, none⟩ = some (.slice p d.nx.length c) := ((BX.new w ds).cell 257).trans hd.nx
  generalize d.nx.length = n at *
  clear hd
  go_enter Try.func94, Try.ntmps94
  by_cases h1 : 0 ≤ s
  · have h1' : ¬ s < 0 := by omega
    go_wp2_with fail
    go_ret
    exact ⟨by simp [h1], S0.out⟩
  · have h1' : s < 0 := by omega
    go_wp2_with fail
    go_ret
    exact ⟨by simp [show ¬ (0 ≤ s) by omega], S0.out⟩
theorem all_take {α : Type} (p : α → Bool) (l : List α) (j : Nat) (h : j < l.length) : (l.take (j + 1)).all p = ((l.take j).all p && p l[j]) := by
  rw [List.take_add_one, List.getElem?_eq_getElem h, List.all_append]; simp
theorem all_no {α : Type} {p : α → Bool} {l : List α} {j : Nat} (h : j < l.length) (hp : p l[j] = false) : l.all p = false := by
  rw [List.all_eq_false]; exact ⟨l[j], List.getElem_mem h, by simp [hp]⟩
theorem vbool {a b : Bool} (h : a = b) : Ending.returned (.bool a) = .returned (.bool b) := by rw [h]
set_option maxHeartbeats 4000000 in
theorem rulesMay_any {D : Nat → Prop} {w : World} {d : Df} {ds : Array Value} {p q : Option Addr} {c f : Nat} (hd : DC d ds p q c f) (hm : DM D w d p q c f) :
    Calls Try.prog 97 #[.agg ds] w fun e w' => e = .returned (.bool (rlsOk d)) ∧ Below w.heap.size w w' := by
  have S0 := Lib.hid ((Below.refl w.heap.size w).alloc (Nat.le_refl _) (.cells ds 61))
  have c258 : (w.alloc (.cells ds 61)).cell? ⟨w.heap.size, 258, none⟩ = some (.slice q d.rl.length f) := ((BX.new w ds).cell 258).trans hd.rl
  have HRL := Lib.hid hm.rl
  have HLT := Lib.hid hm.lt
  have hl := hm.l2
  unfold rlsOk
  generalize d.rl = l at *
  clear hd hm
  go_enter Try.func97, Try.ntmps97
  go_wp2_with fail
  clear c258
  go_loopw [8] (fun i wr => ∃ j : Nat, i = .int .i64 (j : Nat) ∧ j ≤ l.length ∧ Hid ((l.take j).all (fun r => decide (r < 48)) = true) ∧ Hid (Below w.heap.size w wr)) (fun i _ => l.length - (intOf i).toNat)
  case atStart => exact ⟨0, rfl, by omega, Lib.hid (by simp), S0⟩
  case round =>
  clear S0
  obtain ⟨j, rfl, hj, HAL, HS⟩ := hrel
  by_cases hlt : j < l.length
  · obtain ⟨p', c', he, hh⟩ := HRL.out
    injection he with e1 e2 e3
    subst e1 e3
    clear e2
    obtain ⟨b, o, rfl, hb, hc⟩ := hh (by intro e; subst e; simp at hlt)
    have cx : wr.cell? ⟨b, o + j, none⟩ = some (.int .i64 l[j]) := (cell_same (HS.out.block b (HLT.out b hb)) _).trans (hc j hlt)
    have hal := all_take (fun r => decide (r < 48)) l j hlt
    have HNO := Lib.hid fun h => all_no (p := fun r => decide (r < 48)) (l := l) hlt h
    rw [HAL.out, Bool.true_and] at hal
    generalize l[j] = x at *
    have hltI : (j : Int) < (l.length : Int) := by omega
    have hjI : ¬ (j : Int) < 0 := by omega
    clear hh hc
    by_cases hx : x < 48
    · have hx' : ¬ (48 : Int) ≤ x := by omega
      have HAL2 : Hid ((l.take (j + 1)).all (fun r => decide (r < 48)) = true) := Lib.hid (by rw [hal]; simp [hx])
      clear hal
      go_wp2_with fail
      go_roundw
      case rel => exact ⟨j + 1, by go_num, by omega, HAL2, HS⟩
      case measure => simp [intOf]; omega
    · have hx' : (48 : Int) ≤ x := by omega
      have HRES := Lib.hid (HNO.out (by simp [hx]))
      clear hal
      go_wp2_with fail
      go_ret
      exact ⟨vbool HRES.out.symm, HS.out⟩
  · obtain rfl : j = l.length := by omega
    have hall := HAL.out
    rw [List.take_length] at hall
    have HRES := Lib.hid hall
    have hltI : ¬ (l.length : Int) < (l.length : Int) := by omega
    clear hall HAL
    go_wp2_with fail
    go_ret
    exact ⟨vbool HRES.out.symm, HS.out⟩
/-- The classes, as an array. -/
def clA (d : Df) : List Value := (List.range 256).map fun i => .int .u8 (d.cl i : Nat)
theorem clA_len (d : Df) : (clA d).length = 256 := by unfold clA; rw [List.length_map, List.length_range]
theorem clA_get {d : Df} {i : Nat} (h : i < 256) : (clA d)[i]? = some (.int .u8 (d.cl i : Nat)) := by
  unfold clA; rw [List.getElem?_map, List.getElem?_range h]; rfl
theorem DC.range {w : World} {b : Nat} {d : Df} {ds : Array Value} {p q : Option Addr} {c f : Nat} (hd : DC d ds p q c f) (hb : BX w b ds) : w.rangeAt b 1 (clA d) := fun j v hj => by
  have h1 : j < 256 := by rw [← clA_len d]; exact (List.getElem?_eq_some_iff.1 hj).1
  rw [clA_get h1] at hj
  rw [hb.cell, (hd.cl j h1).1, hj]
theorem info22 : (Try.prog.info? 58).map (·.size) = some 256 := by kernel_rfl
theorem index22 (d : Df) (i : Nat) (h : i < 256) (w : World) : (Instr.index 58 (.agg (clA d).toArray) (.int .i64 (i : Nat))).run Try.prog w = .ok (.int .u8 (d.cl i : Nat)) w := by
  have hg : (clA d)[i]? = some (.int .u8 (d.cl i : Nat)) := clA_get h
  simp [Instr.index, run_underlying Try.underlying58, asIntOf, part, go_sem, Try.sizeOf5, h, hg]
end Go.Proofs.Ytemkppjdfjoipaa
end
section
/- Packages dfa, mini, munch. -/
namespace Go.Proofs.Ytemkppjdfjoipaa
set_option linter.unusedSimpArgs false
set_option linter.unusedVariables false
set_option maxRecDepth 100000
open Go.RowKit
/- classesMay, rowsMay. -/
set_option maxHeartbeats 4000000 in
theorem classesMay_any {D : Nat → Prop} {w : World} {d : Df} {ds : Array Value} {p q : Option Addr} {c f : Nat} (hd : DC d ds p q c f) (hm : DM D w d p q c f) (hpos : 0 < d.nx.length) :
    Calls Try.prog 95 #[.agg ds] w fun e w' => e = .returned (.bool (decide ((row0 d).length ≤ 256) && clsOk d)) ∧ Below w.heap.size w w' := by
  have S0 := Lib.hid ((Below.refl w.heap.size w).alloc (Nat.le_refl _) (.cells ds 61))
  have c257 : (w.alloc (.cells ds 61)).cell? ⟨w.heap.size, 257, none⟩ = some (.slice p d.nx.length c) := ((BX.new w ds).cell 257).trans hd.nx
  have hrg := hd.range (BX.new w ds)
  obtain ⟨p', c', he, hh⟩ := hm.nx
  injection he with e1 e2 e3
  subst e1 e3
  obtain ⟨b, o, rfl, hb, hc⟩ := hh (by intro e; rw [e] at hpos; simp at hpos)
  obtain ⟨q0, f0, -, hc0⟩ := hc 0 hpos
  have e0 : d.nx[0] = row0 d := by
    obtain ⟨st, cl, nx, rl⟩ := d
    cases nx with
    | nil => simp at hpos
    | cons r t => rfl
  rw [e0, Nat.add_zero] at hc0
  have cr : (w.alloc (.cells ds 61)).cell? ⟨b, o, none⟩ = some (.slice q0 (row0 d).length f0) := (cell_same (S0.out.block b (hm.lt b hb)) _).trans hc0
  have hix : ∀ i w, i < 256 → (Instr.index 58 (.agg (clA d).toArray) (.int .i64 (i : Nat))).run Try.prog w = .ok (.int .u8 (d.cl i : Nat)) w := fun i w h => index22 d i h w
  have HCL := Lib.hid fun i h => (hd.cl i h).2
  have hpI : (0 : Int) < (d.nx.length : Int) := by omega
  unfold clsOk
  clear hd hm hh hc hc0 e0 e2
  generalize (row0 d).length = m at *
  generalize d.nx.length = n at *
  go_enter Try.func95, Try.ntmps95
  by_cases hm : m ≤ 256
  · have hmI : ¬ (256 : Int) < (m : Int) := by omega
    go_wp2_with (refine wpList_load_mid rfl 58 _ rfl w.heap.size 1 rfl (clA d) _ hrg Try.underlying58 rfl (by rw [info22, clA_len]) ?_)
    clear c257 cr hrg
    generalize (clA d).toArray = ca at *
    go_loopw [15] (fun i wr => ∃ j : Nat, i = .int .i64 (j : Nat) ∧ j ≤ 256 ∧ Hid (((List.range 256).take j).all (fun i => decide (d.cl i < m)) = true) ∧ Hid (Below w.heap.size w wr)) (fun i _ => 256 - (intOf i).toNat)
    case atStart => exact ⟨0, rfl, by omega, Lib.hid (by simp), S0⟩
    case round =>
    clear S0
    obtain ⟨j, rfl, hj, HAL, HS⟩ := hrel
    by_cases hlt : j < 256
    · have hjI : (j : Int) < 256 := by omega
      have hx := hix j wr hlt
      have hc9 := HCL.out j hlt
      have hal := all_take (fun i => decide (d.cl i < m)) (List.range 256) j (by simpa using hlt)
      have HNO := Lib.hid fun h => all_no (p := fun i => decide (d.cl i < m)) (l := List.range 256) (j := j) (by simpa using hlt) h
      have eg : (List.range 256)[j]'(by simpa using hlt) = j := by simp
      rw [HAL.out, Bool.true_and] at hal
      rw [eg] at hal HNO
      generalize d.cl j = x at *
      clear hix
      by_cases hxm : x < m
      · have hx1 : ¬ (m : Int) ≤ (x : Int) := by omega
        have HAL2 : Hid (((List.range 256).take (j + 1)).all (fun i => decide (d.cl i < m)) = true) := Lib.hid (by rw [hal]; simp [hxm])
        clear hal HNO
        go_wp2_with fail
        go_roundw
        case rel => exact ⟨j + 1, by go_num, by omega, HAL2, HS⟩
        case measure => simp [intOf]; omega
      · have hx1 : (m : Int) ≤ (x : Int) := by omega
        have HRES := Lib.hid (HNO.out (by simp [hxm]))
        clear hal HNO
        go_wp2_with fail
        go_ret
        exact ⟨vbool (by rw [HRES.out]; simp), HS.out⟩
    · obtain rfl : j = 256 := by omega
      have hall := HAL.out
      rw [List.take_of_length_le (by simp)] at hall
      have HRES := Lib.hid hall
      have hjI : ¬ (((256 : Nat) : Int)) < 256 := by omega
      clear hall HAL hix
      go_wp2_with fail
      go_ret
      exact ⟨vbool (by rw [HRES.out]; simp [hm]), HS.out⟩
  · have hmI : (256 : Int) < (m : Int) := by omega
    go_wp2_with fail
    go_ret
    exact ⟨vbool (by simp [hm]), S0.out⟩
end Go.Proofs.Ytemkppjdfjoipaa
end
