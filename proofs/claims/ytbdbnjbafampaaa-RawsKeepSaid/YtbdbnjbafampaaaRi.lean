/- Package raws. -/
import Derived.Test.YtbdbnjbafampaaaProg
import Derived.Test.YtbdbnjbafampaaaRf
import Derived.Test.YtbdbnjbafampaaaEe
import Derived.WalkKit
import Derived.BigFrame
import Derived.WalkMore
import Derived.ScopeJumps
import Derived.StillTailTactics
import Derived.Stop.BytesEq
import Derived.WalkLawsBesides
import Derived.WalkSpells
import Derived.Outline
import Derived.Lib.Walk
import Derived.Lib.Hide
import Derived.Lib.Slices
import Derived.Lib.Strings
import Derived.RegionTactic
import Derived.LoopTactic
import Derived.Below
import Derived.IntWalk
import Derived.Deep.QuietTactic
import Derived.BigQuiet
import Derived.Deep.MidRow
import Derived.Maps.AppendAt
import Derived.Laws.Rows
import Derived.Laws.Tables
import Derived.Deep.WholeRow
import Derived.Deep.Cut
import Derived.Deep.CutRange
import Derived.Lib.SliceRun
import Derived.Laws.MakeOwn
import Derived.Deep.RegionLaw
import Derived.Deep.RegionLawGrows
import Derived.Deep.RegionHeld3
import Derived.RegionCalls
import Derived.Deep.RegionWith
import Derived.Deep.Light
import Derived.Laws.CopyOwn
import Derived.Laws.ResultCell
namespace Go.Proofs.Ytbdbnjbafampaaa
set_option linter.unusedSimpArgs false
set_option linter.unusedVariables false
set_option maxRecDepth 100000
open Go.RowKit
/- The document's Refuses. -/
def rawsE (d : Df) (n : Nat) (s : ByteArray) : Int := if chkD d ≠ 0 then chkD d else if anyGe (n : Nat) d.rl = true then 2 else if 65536 < s.size then 3 else 0
set_option maxHeartbeats 8000000 in
theorem refuses_any {D : Nat → Prop} {w : World} {d : Df} {ds : Array Value} {p q : Option Addr} {c f : Nat} {n fr : Nat} {qr : Option Addr} (s : ByteArray) (hd : DC d ds p q c f) (hm : DM D w d p q c f) (hn : n ≤ 9223372036854775806) (hs : s.size ≤ 9223372036854775805) :
    Calls Try.prog 63 #[.slice qr n fr, .agg ds, .string s] w fun e w' => e = .returned (.int .i64 (rawsE d n s)) ∧ Below w.heap.size w w' := by
  have HSZ := Lib.hid hd.sz
  have HM := Lib.hid hm
  have S0 := Lib.hid ((Sb.start w).alloc (.cells ds 26))
  have HB0 : Hid (BX (w.alloc (.cells ds 26)) w.heap.size ds) := Lib.hid S0.out.heap
  have HRL := Lib.hid hd.rl
  have HCK := Lib.hid (refcheck_any hd (hm.up S0.out.1))
  obtain ⟨ck, hck⟩ : ∃ ck, chkD d = ck := ⟨_, rfl⟩
  rw [hck] at HCK
  have HC := Lib.hid hck
  obtain ⟨X, hX⟩ : ∃ X, rawsE d n s = X := ⟨_, rfl⟩
  rw [hX]
  have HX := Lib.hid hX
  clear hd hm hck hX
  go_enter Try.func63, Try.ntmps63
  go_wp2_with (refine wpList_load_Dg _ rfl w.heap.size ds rfl HB0.out HSZ.out rfl ?_)
  refine HCK.out.mono ?_
  rintro _ w1 ⟨rfl, hb⟩
  have S1 := Lib.hid (S0.out.up hb)
  clear hb S0 HB0 HCK
  by_cases h0 : ck = 0
  · have hne : (ck != 0) = false := by simp [h0]
    have HX2 : Hid ((if anyGe (n : Nat) d.rl = true then (2 : Int) else if 65536 < s.size then 3 else 0) = X) := Lib.hid (by rw [← HX.out]; unfold rawsE; exact (if_neg (fun h => h (by rw [HC.out, h0]))).symm)
    have HIV : Hid (IV D w1 d.rl (.slice q d.rl.length f)) := Lib.hid (HM.out.up S1.out.1).rl
    have hrlen := HM.out.l2
    obtain ⟨l, hl⟩ : ∃ l, d.rl = l := ⟨_, rfl⟩
    rw [hl] at HIV HRL HX2 hrlen
    obtain ⟨m, hm⟩ : ∃ m, l.length = m := ⟨_, rfl⟩
    have HL := Lib.hid hm
    rw [hm] at HIV HRL hrlen
    have HDL : Hid (∀ b, D b → b < w1.heap.size) := Lib.hid (HM.out.up S1.out.1).lt
    clear HX hl hm HM HC
    go_wp2_with fail
    go_loopw [8] (fun i wr => ∃ j : Nat, i = .int .i64 (j : Nat) ∧ j ≤ m ∧ Hid (anyGe (n : Nat) (l.take j) = false) ∧ Hid (Sb w wr [(w.heap.size, .cells ds 26)]) ∧ Hid (Below w1.heap.size w1 wr)) (fun i _ => m - (intOf i).toNat)
    case atStart => exact ⟨0, rfl, by omega, Lib.hid (by simp [anyGe]), S1, Lib.hid (Below.refl _ _)⟩
    case round =>
      clear S1
      obtain ⟨j, rfl, hj, HA, HS, HBL⟩ := hrel
      obtain ⟨wo, rfl⟩ : ∃ wo : World, wo = wr := ⟨_, rfl⟩
      have c258 : wo.cell? ⟨w.heap.size, 258, none⟩ = some (.slice q m f) := (HS.out.cell 258).trans HRL.out
      by_cases hlt : j < m
      · obtain ⟨p', c', he, hh⟩ := HIV.out
        injection he with e1 e2 e3
        subst e1 e3
        have hj1 : j < l.length := by rw [HL.out]; exact hlt
        obtain ⟨b2, o, rfl, hb, hc⟩ := hh (by intro e; rw [e] at hj1; simp at hj1)
        have cx : wo.cell? ⟨b2, o + j, none⟩ = some (.int .i64 l[j]) := (cell_same (HBL.out.block b2 (HDL.out b2 hb)) _).trans (hc j hj1)
        have hta : l.take (j + 1) = l.take j ++ [l[j]] := by rw [List.take_add_one, List.getElem?_eq_getElem hj1]; rfl
        have HY : Hid ((n : Int) ≤ l[j] → anyGe (n : Nat) l = true) := Lib.hid fun h => List.any_eq_true.2 ⟨l[j], List.getElem_mem hj1, by simpa using h⟩
        have HA2 : Hid (l[j] < (n : Int) → anyGe (n : Nat) (l.take (j + 1)) = false) := Lib.hid fun h => by
          have := HA.out
          unfold anyGe at this ⊢
          rw [hta, List.any_append, this]; simp; exact h
        generalize l[j] = x at *
        have hltI : (j : Int) < (m : Int) := by omega
        have hjI : ¬ (j : Int) < 0 := by omega
        clear hh hc hta e2 hj1
        by_cases hx : (n : Int) ≤ x
        · have HR := Lib.hid (HY.out hx)
          have hx1 : ¬ x < (n : Int) := by omega
          have HF : Hid (2 = X) := Lib.hid (by rw [← HX2.out, if_pos HR.out])
          clear HY HA2 HA
          go_wp2_with fail
          go_ret
          exact ⟨by rw [← HF.out]; rfl, HS.out.1⟩
        · have hx1 : x < (n : Int) := by omega
          have HR := Lib.hid (HA2.out hx1)
          clear HY HA2 HA
          go_wp2_with fail
          go_roundw
          case rel => exact ⟨j + 1, by go_num, by omega, HR, HS, HBL⟩
          case measure => simp [intOf]; omega
      · obtain rfl : j = m := by omega
        have HR : Hid (anyGe (n : Nat) l = false) := Lib.hid (by have := HA.out; rwa [List.take_of_length_le (by rw [HL.out]; omega)] at this)
        have hltI : ¬ (j : Int) < (j : Int) := by omega
        clear HA
        by_cases hlong : 65536 < s.size
        · have hlI : (65536 : Int) < (s.size : Int) := by omega
          have HF : Hid (3 = X) := Lib.hid (by rw [← HX2.out, HR.out, if_neg (by simp), if_pos hlong])
          go_wp2_with fail
          go_ret
          exact ⟨by rw [← HF.out]; rfl, HS.out.1⟩
        · have hlI : ¬ (65536 : Int) < (s.size : Int) := by omega
          have HF : Hid (0 = X) := Lib.hid (by rw [← HX2.out, HR.out, if_neg (by simp), if_neg hlong])
          go_wp2_with fail
          go_ret
          exact ⟨by rw [← HF.out]; rfl, HS.out.1⟩
  · have hne : (ck != 0) = true := by simp [h0]
    have HF : Hid (ck = X) := Lib.hid (by rw [← HX.out]; unfold rawsE; rw [if_pos (by rw [HC.out]; exact h0), HC.out])
    go_wp2_with fail
    go_ret
    exact ⟨by rw [← HF.out]; rfl, S1.out.1⟩
end Go.Proofs.Ytbdbnjbafampaaa
