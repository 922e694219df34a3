/- Package raws. -/
import Derived.Test.YtbdbnjbafampaaaProg
import Derived.Test.YtbdbnjbafampaaaRj
import Derived.WalkKit
import Derived.BigFrame
import Derived.WalkMore
import Derived.ScopeJumps
import Derived.StillTailTactics
import Derived.Stop.BytesEq
import Derived.WalkLawsBesides
import Derived.WalkSpells
import Derived.Outline
import Derived.Lib.Walk
import Derived.Lib.Hide
import Derived.Lib.Slices
import Derived.Lib.Strings
import Derived.RegionTactic
import Derived.LoopTactic
import Derived.Below
import Derived.IntWalk
import Derived.Deep.QuietTactic
import Derived.BigQuiet
import Derived.Deep.MidRow
import Derived.Maps.AppendAt
import Derived.Laws.Rows
import Derived.Laws.Tables
import Derived.Deep.WholeRow
import Derived.Deep.Cut
import Derived.Deep.CutRange
import Derived.Lib.SliceRun
import Derived.Laws.MakeOwn
import Derived.Deep.RegionLaw
import Derived.Deep.RegionLawGrows
import Derived.Deep.RegionHeld3
import Derived.RegionCalls
import Derived.Deep.RegionWith
import Derived.Deep.Light
import Derived.Laws.CopyOwn
import Derived.Laws.ResultCell
namespace Go.Proofs.Ytbdbnjbafampaaa
set_option linter.unusedSimpArgs false
set_option linter.unusedVariables false
set_option maxRecDepth 100000
open Go.RowKit
/- The document's Of. -/
theorem rawsF_E {d : Df} {ks : Nat → Int} {n : Nat} {s : ByteArray} : rawsF d ks n s = if rawsE d n s = 0 then (pcA d ks (bl s), 0) else ([], rawsE d n s) := by
  unfold rawsF rawsE
  by_cases h0 : chkD d = 0 <;> by_cases h1 : anyGe (n : Nat) d.rl = true <;> by_cases h2 : 65536 < s.size <;> simp [h0, h1, h2]
theorem rawsE_ok {d : Df} {n : Nat} {s : ByteArray} (h : rawsE d n s = 0) : chkD d = 0 ∧ anyGe (n : Nat) d.rl = false ∧ s.size ≤ 65536 := by
  unfold rawsE at h
  by_cases h0 : chkD d = 0
  · rw [if_neg (by simp [h0])] at h
    by_cases h1 : anyGe (n : Nat) d.rl = true
    · rw [if_pos h1] at h; cases h
    · rw [if_neg h1] at h
      by_cases h2 : 65536 < s.size
      · rw [if_pos h2] at h; cases h
      · exact ⟨h0, by simpa using h1, by omega⟩
  · rw [if_pos h0] at h; exact absurd h h0
set_option maxHeartbeats 8000000 in
theorem refraws_any {D : Nat → Prop} {w : World} {d : Df} {ds : Array Value} {p q : Option Addr} {c f : Nat} {ks : Nat → Int} {n fr : Nat} {qr : Option Addr} (s : ByteArray) (hd : DC d ds p q c f) (hm : DM D w d p q c f) (hk : KV w ks n qr) (hn : n ≤ 9223372036854775806) (hs : s.size ≤ 9223372036854775805) :
    Calls Try.prog 35 #[.slice qr n fr, .agg ds, .string s] w (RawsP w (rawsF d ks n s)) := by
  have HSZ := Lib.hid hd.sz
  have HD := Lib.hid hd
  have HM := Lib.hid hm
  have HK := Lib.hid hk
  have S0 := Lib.hid ((Sb.start w).alloc (.cells ds 26))
  have HB0 : Hid (BX (w.alloc (.cells ds 26)) w.heap.size ds) := Lib.hid S0.out.heap
  have HRE := Lib.hid (refuses_any (n := n) (fr := fr) (qr := qr) s hd (hm.up S0.out.1) hn hs)
  rw [rawsF_E]
  obtain ⟨E, hE⟩ : ∃ E, rawsE d n s = E := ⟨_, rfl⟩
  rw [hE] at HRE ⊢
  have HE := Lib.hid hE
  obtain ⟨X, hX⟩ : ∃ X, (if E = 0 then (pcA d ks (bl s), (0 : Int)) else ([], E)) = X := ⟨_, rfl⟩
  rw [hX]
  have HX := Lib.hid hX
  clear hd hm hk hE hX
  go_enter Try.func35, Try.ntmps35
  go_wp2_with (refine wpList_load_Dg _ rfl w.heap.size ds rfl HB0.out HSZ.out rfl ?_)
  refine HRE.out.mono ?_
  rintro _ w1 ⟨rfl, hb⟩
  have S1 := Lib.hid (S0.out.up hb)
  clear hb S0 HB0 HRE
  by_cases h0 : E = 0
  · have hne : (E != 0) = false := by simp [h0]
    have HX2 : Hid ((pcA d ks (bl s), (0 : Int)) = X) := Lib.hid (by rw [← HX.out, if_pos h0])
    obtain ⟨g1, g2, g3⟩ := rawsE_ok (HE.out.trans h0)
    have HB2 : Hid (BX w1 w.heap.size ds) := Lib.hid S1.out.heap
    have HPC := Lib.hid (refpieces_any (fr := fr) s HD.out (HM.out.up S1.out.1) (chk_may g1) (HK.out.up S1.out.1) (anyGe_no g2) (by omega))
    clear g1 g2 g3 HE
    go_wp2_with (refine wpList_load_Dg _ rfl w.heap.size ds rfl HB2.out HSZ.out rfl ?_)
    refine HPC.out.mono ?_
    rintro _ w3 ⟨sl, rfl, h1, hb⟩
    have S3 := Lib.hid (S1.out.up hb)
    have H1 := Lib.hid (row_base h1 S1.out.1.size)
    clear hb h1 HPC HB2 S1
    go_wp2_with fail
    go_ret2
    have hf := HX2.out
    subst hf
    exact ⟨_, rfl, H1.out, S3.out.1⟩
  · have hne : (E != 0) = true := by simp [h0]
    have HX2 : Hid (([], E) = X) := Lib.hid (by rw [← HX.out, if_neg h0])
    clear HE
    go_wp2_with fail
    go_ret2
    have hf := HX2.out
    subst hf
    exact ⟨_, rfl, RwO.nil _ _, S1.out.1⟩
end Go.Proofs.Ytbdbnjbafampaaa
