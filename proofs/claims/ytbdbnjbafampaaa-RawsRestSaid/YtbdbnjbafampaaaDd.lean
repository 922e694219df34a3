/- Packages dfa, mini, munch. -/
import Derived.Test.YtbdbnjbafampaaaProg
import Derived.Test.YtbdbnjbafampaaaDc
import Derived.WalkKit
import Derived.WalkLawsBesides
import Derived.WalkSpells
import Derived.Outline
import Derived.Lib.Walk
import Derived.Lib.Hide
import Derived.Lib.Slices
import Derived.Lib.Strings
import Derived.RegionTactic
import Derived.LoopTactic
import Derived.Below
import Derived.IntWalk
import Derived.Deep.QuietTactic
import Derived.BigQuiet
import Derived.Deep.MidRow
import Derived.Maps.AppendAt
import Derived.Laws.Rows
import Derived.Laws.Tables
import Derived.Deep.WholeRow
import Derived.Deep.Cut
import Derived.Deep.CutRange
import Derived.Lib.SliceRun
import Derived.Laws.MakeOwn
import Derived.Deep.RegionLaw
import Derived.Deep.RegionLawGrows
import Derived.Deep.RegionHeld3
import Derived.RegionCalls
import Derived.Deep.RegionWith
import Derived.Deep.Light
import Derived.Laws.CopyOwn
import Derived.Laws.ResultCell
namespace Go.Proofs.Ytbdbnjbafampaaa
set_option linter.unusedSimpArgs false
set_option linter.unusedVariables false
set_option maxRecDepth 100000
open Go.RowKit
/- classesMay, rowsMay. -/
set_option maxHeartbeats 4000000 in
theorem classesMay_any {D : Nat → Prop} {w : World} {d : Df} {ds : Array Value} {p q : Option Addr} {c f : Nat} (hd : DC d ds p q c f) (hm : DM D w d p q c f) (hpos : 0 < d.nx.length) :
    Calls Try.prog 82 #[.agg ds] w fun e w' => e = .returned (.bool (decide ((row0 d).length ≤ 256) && clsOk d)) ∧ Below w.heap.size w w' := by
  have S0 := Lib.hid ((Below.refl w.heap.size w).alloc (Nat.le_refl _) (.cells ds 26))
  have c257 : (w.alloc (.cells ds 26)).cell? ⟨w.heap.size, 257, none⟩ = some (.slice p d.nx.length c) := ((BX.new w ds).cell 257).trans hd.nx
  have hrg := hd.range (BX.new w ds)
  obtain ⟨p', c', he, hh⟩ := hm.nx
  injection he with e1 e2 e3
  subst e1 e3
  obtain ⟨b, o, rfl, hb, hc⟩ := hh (by intro e; rw [e] at hpos; simp at hpos)
  obtain ⟨q0, f0, -, hc0⟩ := hc 0 hpos
  have e0 : d.nx[0] = row0 d := by
    obtain ⟨st, cl, nx, rl⟩ := d
    cases nx with
    | nil => simp at hpos
    | cons r t => rfl
  rw [e0, Nat.add_zero] at hc0
  have cr : (w.alloc (.cells ds 26)).cell? ⟨b, o, none⟩ = some (.slice q0 (row0 d).length f0) := (cell_same (S0.out.block b (hm.lt b hb)) _).trans hc0
  have hix : ∀ i w, i < 256 → (Instr.index 22 (.agg (clA d).toArray) (.int .i64 (i : Nat))).run Try.prog w = .ok (.int .u8 (d.cl i : Nat)) w := fun i w h => index22 d i h w
  have HCL := Lib.hid fun i h => (hd.cl i h).2
  have hpI : (0 : Int) < (d.nx.length : Int) := by omega
  unfold clsOk
  clear hd hm hh hc hc0 e0 e2
  generalize (row0 d).length = m at *
  generalize d.nx.length = n at *
  go_enter Try.func82, Try.ntmps82
  by_cases hm : m ≤ 256
  · have hmI : ¬ (256 : Int) < (m : Int) := by omega
    go_wp2_with (refine wpList_load_mid rfl 22 _ rfl w.heap.size 1 rfl (clA d) _ hrg Try.underlying22 rfl (by rw [info22, clA_len]) ?_)
    clear c257 cr hrg
    generalize (clA d).toArray = ca at *
    go_loopw [15] (fun i wr => ∃ j : Nat, i = .int .i64 (j : Nat) ∧ j ≤ 256 ∧ Hid (((List.range 256).take j).all (fun i => decide (d.cl i < m)) = true) ∧ Hid (Below w.heap.size w wr)) (fun i _ => 256 - (intOf i).toNat)
    case atStart => exact ⟨0, rfl, by omega, Lib.hid (by simp), S0⟩
    case round =>
    clear S0
    obtain ⟨j, rfl, hj, HAL, HS⟩ := hrel
    by_cases hlt : j < 256
    · have hjI : (j : Int) < 256 := by omega
      have hx := hix j wr hlt
      have hc9 := HCL.out j hlt
      have hal := all_take (fun i => decide (d.cl i < m)) (List.range 256) j (by simpa using hlt)
      have HNO := Lib.hid fun h => all_no (p := fun i => decide (d.cl i < m)) (l := List.range 256) (j := j) (by simpa using hlt) h
      have eg : (List.range 256)[j]'(by simpa using hlt) = j := by simp
      rw [HAL.out, Bool.true_and] at hal
      rw [eg] at hal HNO
      generalize d.cl j = x at *
      clear hix
      by_cases hxm : x < m
      · have hx1 : ¬ (m : Int) ≤ (x : Int) := by omega
        have HAL2 : Hid (((List.range 256).take (j + 1)).all (fun i => decide (d.cl i < m)) = true) := Lib.hid (by rw [hal]; simp [hxm])
        clear hal HNO
        go_wp2_with fail
        go_roundw
        case rel => exact ⟨j + 1, by go_num, by omega, HAL2, HS⟩
        case measure => simp [intOf]; omega
      · have hx1 : (m : Int) ≤ (x : Int) := by omega
        have HRES := Lib.hid (HNO.out (by simp [hxm]))
        clear hal HNO
        go_wp2_with fail
        go_ret
        exact ⟨vbool (by rw [HRES.out]; simp), HS.out⟩
    · obtain rfl : j = 256 := by omega
      have hall := HAL.out
      rw [List.take_of_length_le (by simp)] at hall
      have HRES := Lib.hid hall
      have hjI : ¬ (((256 : Nat) : Int)) < 256 := by omega
      clear hall HAL hix
      go_wp2_with fail
      go_ret
      exact ⟨vbool (by rw [HRES.out]; simp [hm]), HS.out⟩
  · have hmI : (256 : Int) < (m : Int) := by omega
    go_wp2_with fail
    go_ret
    exact ⟨vbool (by simp [hm]), S0.out⟩
end Go.Proofs.Ytbdbnjbafampaaa
