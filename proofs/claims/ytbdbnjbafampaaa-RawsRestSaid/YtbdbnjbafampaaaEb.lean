/- Packages dfa, mini, munch. -/
import Derived.Test.YtbdbnjbafampaaaProg
import Derived.Test.YtbdbnjbafampaaaEa
import Derived.Test.YtbdbnjbafampaaaDn
import Derived.WalkKit
import Derived.BigFrame
import Derived.Stop.BytesEq
import Derived.WalkLawsBesides
import Derived.WalkSpells
import Derived.Outline
import Derived.Lib.Walk
import Derived.Lib.Hide
import Derived.Lib.Slices
import Derived.Lib.Strings
import Derived.RegionTactic
import Derived.LoopTactic
import Derived.Below
import Derived.IntWalk
import Derived.Deep.QuietTactic
import Derived.BigQuiet
import Derived.Deep.MidRow
import Derived.Maps.AppendAt
import Derived.Laws.Rows
import Derived.Laws.Tables
import Derived.Deep.WholeRow
import Derived.Deep.Cut
import Derived.Deep.CutRange
import Derived.Lib.SliceRun
import Derived.Laws.MakeOwn
import Derived.Deep.RegionLaw
import Derived.Deep.RegionLawGrows
import Derived.Deep.RegionHeld3
import Derived.RegionCalls
import Derived.Deep.RegionWith
import Derived.Deep.Light
import Derived.Laws.CopyOwn
import Derived.Laws.ResultCell
namespace Go.Proofs.Ytbdbnjbafampaaa
set_option linter.unusedSimpArgs false
set_option linter.unusedVariables false
set_option maxRecDepth 100000
open Go.RowKit
/- goesOn. -/
theorem goes1 (x : Int) (w : World) : Calls Try.prog 98 #[.int .i64 x] w fun e w' => e = .returned (.bool (decide (0 ≤ x))) ∧ w' = w := by
  go_enter Try.func98, Try.ntmps98
  by_cases h : 0 ≤ x
  · have h' : ¬ x < 0 := by omega
    go_wp2_with fail
    go_ret
    exact ⟨by simp [h], rfl⟩
  · have h' : x < 0 := by omega
    go_wp2_with fail
    go_ret
    exact ⟨by simp; omega, rfl⟩
set_option maxHeartbeats 4000000 in
theorem index_fn {D : Nat → Prop} {w : World} {r : List Int} {p : Option Addr} {c : Nat} (hD : ∀ b, D b → b < w.heap.size) (h : IV D w r (.slice p r.length c)) (hl : r.length ≤ 9223372036854775806) :
    Calls Try.prog 99 #[.slice p r.length c, .func (.func 98) #[] #[]] w fun e w' => ∃ k : Int, e = .returned (.int .i64 k) ∧ decide (0 ≤ k) = onRow r ∧ Below w.heap.size w w' := by
  have HIV := Lib.hid h
  have HD := Lib.hid hD
  have S0 := Lib.hid (Below.refl w.heap.size w)
  clear h hD
  go_enter Try.func99, Try.ntmps99
  go_wp2_with fail
  go_loopw [8] (fun i wr => ∃ j : Nat, i = .int .i64 (j : Nat) ∧ j ≤ r.length ∧ Hid ((r.take j).any (fun x => decide (0 ≤ x)) = false) ∧ Hid (Below w.heap.size w wr)) (fun i _ => r.length - (intOf i).toNat)
  case atStart => exact ⟨0, rfl, by omega, Lib.hid (by simp), S0⟩
  case round =>
  clear S0
  obtain ⟨j, rfl, hj, HA, HS⟩ := hrel
  by_cases hlt : j < r.length
  · obtain ⟨p', c', he, hh⟩ := HIV.out
    injection he with e1 e2 e3
    subst e1 e3
    obtain ⟨b, o, rfl, hb, hc⟩ := hh (by intro e; subst e; simp at hlt)
    have cx : wr.cell? ⟨b, o + j, none⟩ = some (.int .i64 r[j]) := (cell_same (HS.out.block b (HD.out b hb)) _).trans (hc j hlt)
    have hta : r.take (j + 1) = r.take j ++ [r[j]] := by rw [List.take_add_one, List.getElem?_eq_getElem hlt]; rfl
    have HY : Hid (0 ≤ r[j] → onRow r = true) := Lib.hid fun h => List.any_eq_true.2 ⟨r[j], List.getElem_mem hlt, by simpa using h⟩
    have HA2 : Hid (¬ 0 ≤ r[j] → (r.take (j + 1)).any (fun x => decide (0 ≤ x)) = false) := Lib.hid fun h => by
      rw [hta, List.any_append, HA.out]; simp at h ⊢; exact h
    generalize r[j] = x at *
    have hltI : (j : Int) < (r.length : Int) := by omega
    have hjI : ¬ (j : Int) < 0 := by omega
    clear hh hc hta e2
    go_wp2_with fail
    refine (goes1 x wr).mono ?_
    rintro _ w1 ⟨rfl, rfl⟩
    by_cases hx : 0 ≤ x
    · have HR := Lib.hid (HY.out hx)
      rw [decide_eq_true hx]
      clear HY HA2 HA
      go_wp2_with fail
      go_ret
      exact ⟨j, rfl, by rw [HR.out]; simp, HS.out⟩
    · have HR := Lib.hid (HA2.out (by omega))
      rw [decide_eq_false hx]
      clear HY HA2 HA
      go_wp2_with fail
      go_roundw
      case rel => exact ⟨j + 1, by go_num, by omega, HR, HS⟩
      case measure => simp [intOf]; omega
  · obtain rfl : j = r.length := by omega
    have HR : Hid (onRow r = false) := Lib.hid (by have := HA.out; rwa [List.take_length] at this)
    have hltI : ¬ (r.length : Int) < (r.length : Int) := by omega
    clear HA
    go_wp2_with fail
    go_ret
    exact ⟨-1, rfl, by rw [HR.out]; simp, HS.out⟩
theorem goes_any {D : Nat → Prop} {w : World} {r : List Int} {p : Option Addr} {c : Nat} (hD : ∀ b, D b → b < w.heap.size) (h : IV D w r (.slice p r.length c)) (hl : r.length ≤ 9223372036854775806) :
    Calls Try.prog 85 #[.slice p r.length c] w fun e w' => e = .returned (.bool (onRow r)) ∧ Below w.heap.size w w' := by
  have HC := Lib.hid (index_fn hD h hl)
  have HC2 : Hid (Calls Try.prog 86 #[.slice p r.length c, .func (.func 98) #[] #[]] w fun e w' => e = .returned (.bool (onRow r)) ∧ Below w.heap.size w w') := Lib.hid (by
    clear h hD
    generalize onRow r = o at *
    generalize r.length = n at *
    go_enter Try.func86, Try.ntmps86
    go_wp2_with fail
    refine HC.out.mono ?_
    rintro _ w1 ⟨k, rfl, hk, hb⟩
    have HB := Lib.hid hb
    have HK := Lib.hid hk
    clear hk hb
    by_cases hk0 : 0 ≤ k
    · have hk' : ¬ k < 0 := by omega
      go_wp2_with fail
      go_ret
      exact ⟨by rw [← HK.out]; simp [hk0], HB.out⟩
    · have hk' : k < 0 := by omega
      go_wp2_with fail
      go_ret
      exact ⟨by rw [← HK.out, decide_eq_false (by omega)]; rfl, HB.out⟩)
  clear HC h hD
  generalize onRow r = o at *
  generalize r.length = n at *
  go_enter Try.func85, Try.ntmps85
  go_wp2_with fail
  refine HC2.out.mono ?_
  rintro _ w1 ⟨rfl, hb⟩
  have HB := Lib.hid hb
  clear hb
  go_wp2_with fail
  go_ret
  exact ⟨rfl, HB.out⟩
end Go.Proofs.Ytbdbnjbafampaaa
