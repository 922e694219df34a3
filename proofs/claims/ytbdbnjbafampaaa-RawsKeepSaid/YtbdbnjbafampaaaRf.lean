/- Package raws. -/
import Derived.Test.YtbdbnjbafampaaaProg
import Derived.Test.YtbdbnjbafampaaaRe
import Derived.WalkKit
import Derived.BigFrame
import Derived.WalkMore
import Derived.ScopeJumps
import Derived.StillTailTactics
import Derived.Stop.BytesEq
import Derived.WalkLawsBesides
import Derived.WalkSpells
import Derived.Outline
import Derived.Lib.Walk
import Derived.Lib.Hide
import Derived.Lib.Slices
import Derived.Lib.Strings
import Derived.RegionTactic
import Derived.LoopTactic
import Derived.Below
import Derived.IntWalk
import Derived.Deep.QuietTactic
import Derived.BigQuiet
import Derived.Deep.MidRow
import Derived.Maps.AppendAt
import Derived.Laws.Rows
import Derived.Laws.Tables
import Derived.Deep.WholeRow
import Derived.Deep.Cut
import Derived.Deep.CutRange
import Derived.Lib.SliceRun
import Derived.Laws.MakeOwn
import Derived.Deep.RegionLaw
import Derived.Deep.RegionLawGrows
import Derived.Deep.RegionHeld3
import Derived.RegionCalls
import Derived.Deep.RegionWith
import Derived.Deep.Light
import Derived.Laws.CopyOwn
import Derived.Laws.ResultCell
namespace Go.Proofs.Ytbdbnjbafampaaa
set_option linter.unusedSimpArgs false
set_option linter.unusedVariables false
set_option maxRecDepth 100000
open Go.RowKit
/- raws.Of. -/
/-- The pieces of a text, and the error. -/
def rawsF (d : Df) (ks : Nat → Int) (n : Nat) (s : ByteArray) : List (Int × Nat × Nat) × Int := if chkD d ≠ 0 then ([], chkD d) else if anyGe (n : Nat) d.rl = true then ([], 2) else if 65536 < s.size then ([], 3) else (pcA d ks (bl s), 0)
theorem RwO.nil (B : Nat) (w : World) : RwO B w [] (.slice none 0 0) := ⟨by simp [rwL], .inl ⟨rfl, rfl⟩⟩
theorem anyGe_no {m : Int} {l : List Int} (h : anyGe m l = false) : ∀ r ∈ l, r < m := fun r hr => by
  have := List.any_eq_false.1 h r hr
  simp at this; omega
def RawsP (w : World) (X : List (Int × Nat × Nat) × Int) (e : Ending) (w' : World) : Prop := ∃ sl, e = .returned (.tuple #[sl, .int .i64 X.2]) ∧ RwO w.heap.size w' X.1 sl ∧ Below w.heap.size w w'
set_option maxHeartbeats 8000000 in
theorem rawsof_any {D : Nat → Prop} {w : World} {d : Df} {ds : Array Value} {p q : Option Addr} {c f : Nat} {ks : Nat → Int} {n fr : Nat} {qr : Option Addr} (s : ByteArray) (hd : DC d ds p q c f) (hm : DM D w d p q c f) (hk : KV w ks n qr) (hn : n ≤ 9223372036854775806) (hs : s.size ≤ 9223372036854775805) :
    Calls Try.prog 34 #[.slice qr n fr, .agg ds, .string s] w (RawsP w (rawsF d ks n s)) := by
  have HSZ := Lib.hid hd.sz
  have HD := Lib.hid hd
  have HM := Lib.hid hm
  have HK := Lib.hid hk
  have S0 := Lib.hid ((Sb.start w).alloc (.cells ds 26))
  have HB0 : Hid (BX (w.alloc (.cells ds 26)) w.heap.size ds) := Lib.hid S0.out.heap
  have HCK := Lib.hid (check_any hd (hm.up S0.out.1))
  obtain ⟨ck, hck⟩ : ∃ ck, chkD d = ck := ⟨_, rfl⟩
  rw [hck] at HCK
  have HC := Lib.hid hck
  obtain ⟨X, hX⟩ : ∃ X, rawsF d ks n s = X := ⟨_, rfl⟩
  rw [hX]
  have HX := Lib.hid hX
  clear hd hm hk hck hX
  go_enter Try.func34, Try.ntmps34
  go_wp2_with (refine wpList_load_Dg _ rfl w.heap.size ds rfl HB0.out HSZ.out rfl ?_)
  refine HCK.out.mono ?_
  rintro _ w1 ⟨rfl, hb⟩
  have S1 := Lib.hid (S0.out.up hb)
  clear hb S0 HB0 HCK
  by_cases h0 : ck = 0
  · have hne : (ck != 0) = false := by simp [h0]
    have HMAY : Hid (MayD d) := Lib.hid (chk_may (by rw [HC.out, h0]))
    have HB1 : Hid (BX w1 w.heap.size ds) := Lib.hid S1.out.heap
    have HNA := Lib.hid (names_any (n : Nat) HD.out (HM.out.up S1.out.1))
    obtain ⟨an, han⟩ : ∃ an, anyGe (n : Nat) d.rl = an := ⟨_, rfl⟩
    rw [han] at HNA
    have HAN := Lib.hid han
    clear han
    go_wp2_with (refine wpList_load_Dg _ rfl w.heap.size ds rfl HB1.out HSZ.out rfl ?_)
    refine HNA.out.mono ?_
    rintro _ w2 ⟨rfl, hb⟩
    have S2 := Lib.hid (S1.out.up hb)
    clear hb S1 HB1 HNA
    cases an with
    | true =>
      have HF : Hid (([], 2) = X) := Lib.hid (by rw [← HX.out]; unfold rawsF; rw [if_neg (by simp [HC.out, h0]), if_pos HAN.out])
      go_wp2_with fail
      go_ret2
      have hf := HF.out
      subst hf
      exact ⟨_, rfl, RwO.nil _ _, S2.out.1⟩
    | false =>
      by_cases hlong : 65536 < s.size
      · have hlI : (65536 : Int) < (s.size : Int) := by omega
        have HF : Hid (([], 3) = X) := Lib.hid (by rw [← HX.out]; unfold rawsF; rw [if_neg (by simp [HC.out, h0]), if_neg (by simp [HAN.out]), if_pos hlong])
        go_wp2_with fail
        go_ret2
        have hf := HF.out
        subst hf
        exact ⟨_, rfl, RwO.nil _ _, S2.out.1⟩
      · have hlI : ¬ (65536 : Int) < (s.size : Int) := by omega
        have HF : Hid ((pcA d ks (bl s), 0) = X) := Lib.hid (by rw [← HX.out]; unfold rawsF; rw [if_neg (by simp [HC.out, h0]), if_neg (by simp [HAN.out]), if_neg hlong])
        have HB2 : Hid (BX w2 w.heap.size ds) := Lib.hid S2.out.heap
        have HPC := Lib.hid (pieces_any (fr := fr) s HD.out (HM.out.up S2.out.1) HMAY.out (HK.out.up S2.out.1) (anyGe_no HAN.out) (by omega))
        go_wp2_with (refine wpList_load_Dg _ rfl w.heap.size ds rfl HB2.out HSZ.out rfl ?_)
        refine HPC.out.mono ?_
        rintro _ w3 ⟨sl, rfl, h1, hb⟩
        have S3 := Lib.hid (S2.out.up hb)
        have H1 := Lib.hid (row_base h1 S2.out.1.size)
        clear hb h1 HPC HB2 S2
        go_wp2_with fail
        go_ret2
        have hf := HF.out
        subst hf
        exact ⟨_, rfl, H1.out, S3.out.1⟩
  · have hne : (ck != 0) = true := by simp [h0]
    have HF : Hid (([], ck) = X) := Lib.hid (by rw [← HX.out]; unfold rawsF; rw [if_pos (by rw [HC.out]; exact h0), HC.out])
    go_wp2_with fail
    go_ret2
    have hf := HF.out
    subst hf
    exact ⟨_, rfl, RwO.nil _ _, S1.out.1⟩
end Go.Proofs.Ytbdbnjbafampaaa
