/- Package raws. -/
import Derived.Test.YtbdbnjbafampaaaProg
import Derived.Test.YtbdbnjbafampaaaRa
import Derived.Test.YtbdbnjbafampaaaRb
import Derived.Test.YtbdbnjbafampaaaEb
import Derived.WalkKit
import Derived.BigFrame
import Derived.WalkMore
import Derived.ScopeJumps
import Derived.StillTailTactics
import Derived.Stop.BytesEq
import Derived.WalkLawsBesides
import Derived.WalkSpells
import Derived.Outline
import Derived.Lib.Walk
import Derived.Lib.Hide
import Derived.Lib.Slices
import Derived.Lib.Strings
import Derived.RegionTactic
import Derived.LoopTactic
import Derived.Below
import Derived.IntWalk
import Derived.Deep.QuietTactic
import Derived.BigQuiet
import Derived.Deep.MidRow
import Derived.Maps.AppendAt
import Derived.Laws.Rows
import Derived.Laws.Tables
import Derived.Deep.WholeRow
import Derived.Deep.Cut
import Derived.Deep.CutRange
import Derived.Lib.SliceRun
import Derived.Laws.MakeOwn
import Derived.Deep.RegionLaw
import Derived.Deep.RegionLawGrows
import Derived.Deep.RegionHeld3
import Derived.RegionCalls
import Derived.Deep.RegionWith
import Derived.Deep.Light
import Derived.Laws.CopyOwn
import Derived.Laws.ResultCell
namespace Go.Proofs.Ytbdbnjbafampaaa
set_option linter.unusedSimpArgs false
set_option linter.unusedVariables false
set_option maxRecDepth 100000
open Go.RowKit
/- raws.namesNone. -/
theorem names1 {b : Nat} {m : Int} (x : Int) (w : World) (h : w.cell? ⟨b, 0, none⟩ = some (.int .i64 m)) : Calls Try.prog 87 #[.int .i64 x, .pointer (some ⟨b, 0, none⟩)] w fun e w' => e = .returned (.bool (decide (m ≤ x))) ∧ w' = w := by
  go_enter Try.func87, Try.ntmps87
  by_cases h' : m ≤ x
  · have h1 : ¬ x < m := by omega
    go_wp2_with fail
    go_ret
    exact ⟨by simp [h'], rfl⟩
  · have h1 : x < m := by omega
    go_wp2_with fail
    go_ret
    exact ⟨by simp [h'], rfl⟩
def anyGe (m : Int) (r : List Int) : Bool := r.any fun x => decide (m ≤ x)
set_option maxHeartbeats 4000000 in
theorem names_index {D : Nat → Prop} {w : World} {r : List Int} {p : Option Addr} {c b : Nat} {m : Int} (hD : ∀ b, D b → b < w.heap.size) (h : IV D w r (.slice p r.length c)) (hl : r.length ≤ 9223372036854775806) (hm : w.cell? ⟨b, 0, none⟩ = some (.int .i64 m)) :
    Calls Try.prog 99 #[.slice p r.length c, .func (.func 87) #[] #[.pointer (some ⟨b, 0, none⟩)]] w fun e w' => ∃ k : Int, e = .returned (.int .i64 k) ∧ decide (0 ≤ k) = anyGe m r ∧ Below w.heap.size w w' := by
  have HIV := Lib.hid h
  have HD := Lib.hid hD
  have HM := Lib.hid hm
  have S0 := Lib.hid (Below.refl w.heap.size w)
  clear h hD hm
  go_enter Try.func99, Try.ntmps99
  go_wp2_with fail
  go_loopw [8] (fun i wr => ∃ j : Nat, i = .int .i64 (j : Nat) ∧ j ≤ r.length ∧ Hid (anyGe m (r.take j) = false) ∧ Hid (Below w.heap.size w wr)) (fun i _ => r.length - (intOf i).toNat)
  case atStart => exact ⟨0, rfl, by omega, Lib.hid (by simp [anyGe]), S0⟩
  case round =>
  clear S0
  obtain ⟨j, rfl, hj, HA, HS⟩ := hrel
  by_cases hlt : j < r.length
  · obtain ⟨p', c', he, hh⟩ := HIV.out
    injection he with e1 e2 e3
    subst e1 e3
    obtain ⟨b2, o, rfl, hb, hc⟩ := hh (by intro e; subst e; simp at hlt)
    have cx : wr.cell? ⟨b2, o + j, none⟩ = some (.int .i64 r[j]) := (cell_same (HS.out.block b2 (HD.out b2 hb)) _).trans (hc j hlt)
    have hta : r.take (j + 1) = r.take j ++ [r[j]] := by rw [List.take_add_one, List.getElem?_eq_getElem hlt]; rfl
    have HY : Hid (m ≤ r[j] → anyGe m r = true) := Lib.hid fun h => List.any_eq_true.2 ⟨r[j], List.getElem_mem hlt, by simpa using h⟩
    have HA2 : Hid (r[j] < m → anyGe m (r.take (j + 1)) = false) := Lib.hid fun h => by
      have := HA.out
      unfold anyGe at this ⊢
      rw [hta, List.any_append, this]; simp; exact h
    have HCM := Lib.hid ((cell_same (HS.out.block b (blk_lt HM.out)) 0).trans HM.out)
    generalize r[j] = x at *
    have hltI : (j : Int) < (r.length : Int) := by omega
    have hjI : ¬ (j : Int) < 0 := by omega
    clear hh hc hta e2
    go_wp2_with fail
    refine (names1 x wr HCM.out).mono ?_
    rintro _ w1 ⟨rfl, rfl⟩
    by_cases hx : m ≤ x
    · have HR := Lib.hid (HY.out hx)
      rw [decide_eq_true hx]
      clear HY HA2 HA
      go_wp2_with fail
      go_ret
      exact ⟨j, rfl, by rw [HR.out]; simp, HS.out⟩
    · have HR := Lib.hid (HA2.out (by omega))
      rw [decide_eq_false hx]
      clear HY HA2 HA
      go_wp2_with fail
      go_roundw
      case rel => exact ⟨j + 1, by go_num, by omega, HR, HS⟩
      case measure => simp [intOf]; omega
  · obtain rfl : j = r.length := by omega
    have HR : Hid (anyGe m r = false) := Lib.hid (by have := HA.out; rwa [List.take_length] at this)
    have hltI : ¬ (r.length : Int) < (r.length : Int) := by omega
    clear HA
    go_wp2_with fail
    go_ret
    exact ⟨-1, rfl, by rw [HR.out]; simp, HS.out⟩
theorem names_contains {D : Nat → Prop} {w : World} {r : List Int} {p : Option Addr} {c b : Nat} {m : Int} (hD : ∀ b, D b → b < w.heap.size) (h : IV D w r (.slice p r.length c)) (hl : r.length ≤ 9223372036854775806) (hm : w.cell? ⟨b, 0, none⟩ = some (.int .i64 m)) :
    Calls Try.prog 86 #[.slice p r.length c, .func (.func 87) #[] #[.pointer (some ⟨b, 0, none⟩)]] w fun e w' => e = .returned (.bool (anyGe m r)) ∧ Below w.heap.size w w' := by
  have HC := Lib.hid (names_index hD h hl hm)
  clear h hD hm
  generalize anyGe m r = o at *
  generalize r.length = n at *
  go_enter Try.func86, Try.ntmps86
  go_wp2_with fail
  refine HC.out.mono ?_
  rintro _ w1 ⟨k, rfl, hk, hb⟩
  have HB := Lib.hid hb
  have HK := Lib.hid hk
  clear hk hb
  by_cases hk0 : 0 ≤ k
  · have hk' : ¬ k < 0 := by omega
    go_wp2_with fail
    go_ret
    exact ⟨by rw [← HK.out]; simp [hk0], HB.out⟩
  · have hk' : k < 0 := by omega
    go_wp2_with fail
    go_ret
    exact ⟨by rw [← HK.out, decide_eq_false (by omega)]; rfl, HB.out⟩
set_option maxHeartbeats 4000000 in
theorem names_any {D : Nat → Prop} {w : World} {d : Df} {ds : Array Value} {p q : Option Addr} {c f : Nat} (m : Int) (hd : DC d ds p q c f) (hm : DM D w d p q c f) :
    Calls Try.prog 61 #[.agg ds, .int .i64 m] w fun e w' => e = .returned (.bool (anyGe m d.rl)) ∧ Below w.heap.size w w' := by
  have S0 := Lib.hid (((Sb.start w).alloc (.cells ds 26)).alloc (.cells #[.int .i64 m] 3))
  have hs1 : (w.alloc (.cells ds 26)).heap.size = w.heap.size + 1 := by simp
  rw [hs1] at S0
  have hm2 := hm.up S0.out.1
  have c1 : ((w.alloc (.cells ds 26)).alloc (.cells #[.int .i64 m] 3)).cell? ⟨w.heap.size, 258, none⟩ = some (.slice q d.rl.length f) := (S0.out.tl.cell 258).trans hd.rl
  have HC := Lib.hid (names_contains hm2.lt hm2.rl hm2.l2 (b := w.heap.size + 1) (m := m) (S0.out.cell 0))
  clear hd hm hm2 hs1
  generalize anyGe m d.rl = o at *
  generalize d.rl.length = n at *
  go_enter Try.func61, Try.ntmps61
  go_wp2_with fail
  refine HC.out.mono ?_
  rintro _ w1 ⟨rfl, hb⟩
  have HB := Lib.hid (S0.out.1.trans (hb.mono S0.out.1.size))
  clear hb S0
  go_wp2_with fail
  go_ret
  exact ⟨rfl, HB.out⟩
end Go.Proofs.Ytbdbnjbafampaaa
