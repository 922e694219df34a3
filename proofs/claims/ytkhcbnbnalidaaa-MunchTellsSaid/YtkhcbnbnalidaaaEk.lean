/- Packages dfa, mini, munch. -/
import Derived.Test.YtkhcbnbnalidaaaProg
import Derived.Test.YtkhcbnbnalidaaaEj
import Derived.WalkKit
import Derived.BigFrame
import Derived.WalkMore
import Derived.ScopeJumps
import Derived.StillTailTactics
import Derived.Stop.BytesEq
import Derived.WalkLawsBesides
import Derived.WalkSpells
import Derived.Outline
import Derived.Lib.Walk
import Derived.Lib.Hide
import Derived.Lib.Slices
import Derived.Lib.Strings
import Derived.RegionTactic
import Derived.LoopTactic
import Derived.Below
import Derived.IntWalk
import Derived.Deep.QuietTactic
import Derived.BigQuiet
import Derived.Deep.MidRow
import Derived.Maps.AppendAt
import Derived.Laws.Rows
import Derived.Laws.Tables
import Derived.Deep.WholeRow
import Derived.Deep.Cut
import Derived.Deep.CutRange
import Derived.Lib.SliceRun
import Derived.Laws.MakeOwn
import Derived.Deep.RegionLaw
import Derived.Deep.RegionLawGrows
import Derived.Deep.RegionHeld3
import Derived.RegionCalls
import Derived.Deep.RegionWith
import Derived.Deep.Light
import Derived.Laws.CopyOwn
import Derived.Laws.ResultCell
namespace Go.Proofs.Ytkhcbnbnalidaaa
set_option linter.unusedSimpArgs false
set_option linter.unusedVariables false
set_option maxRecDepth 100000
open Go.RowKit
/- alive. -/
theorem at1 : atF kD ⟨#[97, 97, 98, 99]⟩ 0 = ((4, 2, 4), 0) := by kernel_rfl
theorem at2 : atF kD ⟨#[120, 97, 98]⟩ 1 = ((4, 1, 3), 0) := by kernel_rfl
theorem at3 : atF kD ⟨#[97]⟩ 1 = ((0, 0, 0), 4) := by kernel_rfl
theorem at_known {w : World} {ds : Array Value} {p q : Option Addr} (s : ByteArray) (n : Int) (a b c : Int) (e : Int) (hd : DC kD ds p q 5 5) (hm : DM (fun b => b < w.heap.size) w kD p q 5 5) (hs : s.size ≤ 100) (h : munV (atF kD s n).1 = .agg #[.int .i64 a, .int .i64 b, .int .i64 c]) (he : (atF kD s n).2 = e) :
    Calls Try.prog 26 #[.agg ds, .string s, .int .i64 n] w fun r w' => r = .returned (.tuple #[.agg #[.int .i64 a, .int .i64 b, .int .i64 c], .int .i64 e]) ∧ Below w.heap.size w w' :=
  (at_any s n hd hm (by omega)).mono fun r w' ⟨h1, h2⟩ => ⟨by rw [h1, h, he], h2⟩
set_option maxHeartbeats 8000000 in
theorem alive_any (w : World) : Calls Try.prog 28 #[] w fun e w' => e = .returned (.bool true) ∧ Below w.heap.size w w' := by
  have S0 := Lib.hid (Sb.start w)
  have hz48 := zero48
  go_enter Try.func28, Try.ntmps28
  go_wp2_with fail
  refine (known_any w).mono ?_
  rintro _ w1 ⟨ds, p, q, rfl, hd, hm, hb⟩
  have S1 := Lib.hid (S0.out.up hb)
  have HC := Lib.hid (at_known ⟨#[97, 97, 98, 99]⟩ 0 4 2 4 0 hd hm (by decide) (by rw [at1]; rfl) (by rw [at1]))
  clear hd hm hb S0
  go_wp2_with fail
  refine HC.out.mono ?_
  rintro _ w2 ⟨rfl, hb⟩
  have S2 := Lib.hid (S1.out.up hb)
  clear hb S1 HC
  have S3 := Lib.hid (S2.out.alloc (.cells #[.int .i64 4, .int .i64 2, .int .i64 4] 48))
  go_upto_region 2 with fail
  refine at_world (fun z => Sb w z [(w2.heap.size, .cells #[.int .i64 4, .int .i64 2, .int .i64 4] 48)]) S3.out fun z hz => ?_
  obtain ⟨b1, hb1⟩ : ∃ b1, w2.heap.size = b1 := ⟨_, rfl⟩
  rw [hb1] at hz ⊢
  have S4 := Lib.hid hz
  clear hz hb1 S2 S3
  go_wp2_with fail
  refine (known_any z).mono ?_
  rintro _ w3 ⟨ds3, p3, q3, rfl, hd, hm, hb⟩
  have S5 := Lib.hid (S4.out.up hb)
  have HC := Lib.hid (at_known ⟨#[120, 97, 98]⟩ 1 4 1 3 0 hd hm (by decide) (by rw [at2]; rfl) (by rw [at2]))
  clear hd hm hb S4
  go_wp2_with fail
  refine HC.out.mono ?_
  rintro _ w4 ⟨rfl, hb⟩
  have S6 := Lib.hid (S5.out.up hb)
  clear hb S5 HC
  have S7 := Lib.hid (S6.out.alloc (.cells #[.int .i64 4, .int .i64 1, .int .i64 3] 48))
  go_upto_region 3 with fail
  refine at_world (fun z => Sb w z [(w4.heap.size, .cells #[.int .i64 4, .int .i64 1, .int .i64 3] 48), (b1, .cells #[.int .i64 4, .int .i64 2, .int .i64 4] 48)]) S7.out fun y hy => ?_
  obtain ⟨b2, hb2⟩ : ∃ b2, w4.heap.size = b2 := ⟨_, rfl⟩
  rw [hb2] at hy ⊢
  have S8 := Lib.hid hy
  clear hy hb2 S6 S7
  go_wp2_with fail
  refine (known_any y).mono ?_
  rintro _ w5 ⟨ds5, p5, q5, rfl, hd, hm, hb⟩
  have S9 := Lib.hid (S8.out.up hb)
  have HC := Lib.hid (at_known ⟨#[97]⟩ 1 0 0 0 4 hd hm (by decide) (by rw [at3]; rfl) (by rw [at3]))
  clear hd hm hb S8
  go_wp2_with fail
  refine HC.out.mono ?_
  rintro _ w6 ⟨rfl, hb⟩
  have S10 := Lib.hid (S9.out.up hb)
  clear hb S9 HC
  have S11 := Lib.hid (S10.out.alloc (.cells #[.int .i64 0, .int .i64 0, .int .i64 0] 48))
  go_upto_region 4 with fail
  refine at_world (fun z => Sb w z [(b2, .cells #[.int .i64 4, .int .i64 1, .int .i64 3] 48), (b1, .cells #[.int .i64 4, .int .i64 2, .int .i64 4] 48)]) S11.out.tl fun v hv => ?_
  have HV := Lib.hid hv
  have c0 : v.cell? ⟨b1, 0, none⟩ = some (.int .i64 4) := hv.tl.cell 0
  have c1 : v.cell? ⟨b1, 1, none⟩ = some (.int .i64 2) := hv.tl.cell 1
  have c2 : v.cell? ⟨b1, 2, none⟩ = some (.int .i64 4) := hv.tl.cell 2
  have e0 : v.cell? ⟨b2, 0, none⟩ = some (.int .i64 4) := hv.cell 0
  have e1 : v.cell? ⟨b2, 1, none⟩ = some (.int .i64 1) := hv.cell 1
  have e2 : v.cell? ⟨b2, 2, none⟩ = some (.int .i64 3) := hv.cell 2
  clear hv S10 S11
  go_wp2_with fail
  go_ret
  exact ⟨rfl, HV.out.1⟩
end Go.Proofs.Ytkhcbnbnalidaaa
