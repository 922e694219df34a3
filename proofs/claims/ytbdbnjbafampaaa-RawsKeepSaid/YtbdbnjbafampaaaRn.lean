/- Package raws. -/
import Derived.Test.YtbdbnjbafampaaaProg
import Derived.Test.YtbdbnjbafampaaaRm
import Derived.Test.YtbdbnjbafampaaaDg
import Derived.WalkKit
import Derived.BigFrame
import Derived.WalkMore
import Derived.ScopeJumps
import Derived.StillTailTactics
import Derived.Stop.BytesEq
import Derived.WalkLawsBesides
import Derived.WalkSpells
import Derived.Outline
import Derived.Lib.Walk
import Derived.Lib.Hide
import Derived.Lib.Slices
import Derived.Lib.Strings
import Derived.RegionTactic
import Derived.LoopTactic
import Derived.Below
import Derived.IntWalk
import Derived.Deep.QuietTactic
import Derived.BigQuiet
import Derived.Deep.MidRow
import Derived.Maps.AppendAt
import Derived.Laws.Rows
import Derived.Laws.Tables
import Derived.Deep.WholeRow
import Derived.Deep.Cut
import Derived.Deep.CutRange
import Derived.Lib.SliceRun
import Derived.Laws.MakeOwn
import Derived.Deep.RegionLaw
import Derived.Deep.RegionLawGrows
import Derived.Deep.RegionHeld3
import Derived.RegionCalls
import Derived.Deep.RegionWith
import Derived.Deep.Light
import Derived.Laws.CopyOwn
import Derived.Laws.ResultCell
namespace Go.Proofs.Ytbdbnjbafampaaa
set_option linter.unusedSimpArgs false
set_option linter.unusedVariables false
set_option maxRecDepth 100000
open Go.RowKit
/- small. -/
def smallF (d : Df) (n : Nat) (s : ByteArray) : Bool := decide (s.size ≤ 300) && (!bigD 5000 d && decide (n ≤ 1000))
set_option maxHeartbeats 8000000 in
theorem small_any {D : Nat → Prop} {w : World} {d : Df} {ds : Array Value} {p q : Option Addr} {c f : Nat} {n fr : Nat} {qr : Option Addr} (s : ByteArray) (hd : DC d ds p q c f) (hm : DM D w d p q c f) :
    Calls Try.prog 39 #[.slice qr n fr, .agg ds, .string s] w fun e w' => e = .returned (.bool (smallF d n s)) ∧ Below w.heap.size w w' := by
  have HSZ := Lib.hid hd.sz
  have S0 := Lib.hid ((Sb.start w).alloc (.cells ds 26))
  have HB0 : Hid (BX (w.alloc (.cells ds 26)) w.heap.size ds) := Lib.hid S0.out.heap
  have HBG := Lib.hid (big_any 5000 (by omega) hd (hm.up S0.out.1))
  obtain ⟨X, hX⟩ : ∃ X, smallF d n s = X := ⟨_, rfl⟩
  rw [hX]
  have HX := Lib.hid hX
  clear hd hm hX
  go_enter Try.func39, Try.ntmps39
  by_cases h300 : s.size ≤ 300
  · have h300' : (s.size : Int) ≤ 300 := by omega
    have h300'' : ¬ (300 : Int) < (s.size : Int) := by omega
    go_wp2_with (refine wpList_load_Dg _ rfl w.heap.size ds rfl HB0.out HSZ.out rfl ?_)
    refine HBG.out.mono ?_
    rintro _ w1 ⟨rfl, hb⟩
    have S1 := Lib.hid (S0.out.up hb)
    clear hb S0 HB0 HBG
    obtain ⟨bg, hbg⟩ : ∃ bg, bigD 5000 d = bg := ⟨_, rfl⟩
    have HX2 : Hid ((!bg && decide (n ≤ 1000)) = X) := Lib.hid (by rw [← HX.out]; unfold smallF; rw [decide_eq_true h300, hbg]; rfl)
    rw [hbg]
    clear HX hbg
    cases bg with
    | true =>
      go_wp2_with fail
      go_ret
      exact ⟨by rw [← HX2.out]; rfl, S1.out.1⟩
    | false =>
      by_cases hn : n ≤ 1000
      · have hn' : (n : Int) ≤ 1000 := by omega
        have hn'' : ¬ (1000 : Int) < (n : Int) := by omega
        go_wp2_with fail
        go_ret
        exact ⟨by rw [← HX2.out, decide_eq_true hn]; rfl, S1.out.1⟩
      · have hn' : ¬ (n : Int) ≤ 1000 := by omega
        have hn'' : (1000 : Int) < (n : Int) := by omega
        go_wp2_with fail
        go_ret
        exact ⟨by rw [← HX2.out, decide_eq_false hn]; show Ending.returned (.bool (decide ((n : Int) ≤ 1000))) = _; rw [decide_eq_false (by omega : ¬ (n : Int) ≤ 1000)]; rfl, S1.out.1⟩
  · have h300' : ¬ (s.size : Int) ≤ 300 := by omega
    have h300'' : (300 : Int) < (s.size : Int) := by omega
    have HX2 : Hid (false = X) := Lib.hid (by rw [← HX.out]; unfold smallF; rw [decide_eq_false h300]; rfl)
    go_wp2_with fail
    go_ret
    exact ⟨by rw [← HX2.out]; rfl, S0.out.1⟩
theorem smallF_true {d : Df} {n : Nat} {s : ByteArray} (h : smallF d n s = true) : s.size ≤ 300 ∧ bigD 5000 d = false ∧ n ≤ 1000 := by
  unfold smallF at h
  simp only [Bool.and_eq_true, decide_eq_true_eq, Bool.not_eq_true'] at h
  exact ⟨h.1, h.2.1, h.2.2⟩
end Go.Proofs.Ytbdbnjbafampaaa
