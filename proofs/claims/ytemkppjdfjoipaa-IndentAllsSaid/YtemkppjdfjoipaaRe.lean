/- Package raws. -/
import Derived.Test.YtemkppjdfjoipaaProg
import Derived.Test.YtemkppjdfjoipaaU33
import Derived.Test.YtemkppjdfjoipaaRd
import Derived.Test.YtemkppjdfjoipaaEd
import Derived.Test.YtemkppjdfjoipaaU31
import Derived.WalkKit
import Derived.BigFrame
import Derived.WalkMore
import Derived.ScopeJumps
import Derived.StillTailTactics
import Derived.Stop.BytesEq
import Derived.WalkLawsBesides
import Derived.WalkSpells
import Derived.Outline
import Derived.Lib.Walk
import Derived.Lib.Hide
import Derived.Lib.Slices
import Derived.Lib.Strings
import Derived.RegionTactic
import Derived.LoopTactic
import Derived.Below
import Derived.IntWalk
import Derived.Deep.QuietTactic
import Derived.BigQuiet
import Derived.Deep.MidRow
import Derived.Maps.AppendAt
import Derived.Laws.Rows
import Derived.Laws.Tables
import Derived.Deep.WholeRow
import Derived.Deep.Cut
import Derived.Deep.CutRange
import Derived.Lib.SliceRun
import Derived.Laws.MakeOwn
import Derived.Deep.RegionLaw
import Derived.Deep.RegionLawGrows
import Derived.Deep.RegionHeld3
import Derived.RegionCalls
import Derived.Deep.RegionWith
import Derived.Deep.Light
import Derived.Laws.CopyOwn
import Derived.Laws.ResultCell
namespace Go.Proofs.Ytemkppjdfjoipaa
set_option linter.unusedSimpArgs false
set_option linter.unusedVariables false
set_option maxRecDepth 100000
open Go.RowKit
/- raws.pieces. -/
def rwL (l : List (Int × Nat × Nat)) : List Value := l.flatMap fun x => (rwA x).toList
theorem rwL_app (l : List (Int × Nat × Nat)) (x : Int × Nat × Nat) : rwL (l ++ [x]) = rwL l ++ [.int .i64 x.1, .int .i64 (x.2.1 : Nat), .int .i64 (x.2.2 : Nat)] := by simp [rwL, rwA]
theorem info60 : (Try.prog.info? 38).map (fun i => (i.zero, i.size, i.bytes)) = some (some (.agg #[.int .i64 0, .int .i64 0, .int .i64 0]), 3, 24) := by kernel_rfl
/-- Pieces, in a row of one's own. -/
def RwO (B : Nat) (w : World) (l : List (Int × Nat × Nat)) (sl : Value) : Prop := w.ownsRow B 38 3 sl l.length (rwL l)
theorem RwO.up {B : Nat} {w w' : World} {l : List (Int × Nat × Nat)} {sl : Value} (h : RwO B w l sl) (hb : Below w.heap.size w w') : RwO B w' l sl := by
  refine World.ownsRow.kept h (row := none) ⟨hb.os, hb.tape, hb.output, hb.size, fun k hk _ => hb.block k hk⟩ ?_
  by_cases hp : sl.ownBlock = none
  · exact .inl hp
  · exact .inr (fun e => hp e)
theorem chk_of {d : Df} (h : MayD d) : chkD d = 0 := by
  have h1 := h.big
  have h2 := h.ln
  unfold chkD
  rw [if_neg (by unfold tooD; simp; omega), if_pos]
  unfold mayD stOk clsOk rowsOk rowOk rlsOk
  simp only [Bool.and_eq_true, decide_eq_true_eq, List.all_eq_true, List.mem_range]
  exact ⟨h.ln, ⟨h.s0, h.s1⟩, ⟨h.m1, h.cl⟩, h.rw, h.rl⟩
theorem atF_of {d : Df} (hd : MayD d) (s : ByteArray) {k : Nat} (hk : k < s.size) : atF d s (k : Nat) = (ofF d ((bl s).drop k), 0) := by
  unfold atF
  have h0 : chkD d = 0 := chk_of hd
  rw [if_neg (by simp [h0]), if_neg (by omega), Int.toNat_natCast, munch_doc hd]
  intro e
  have := congrArg List.length e
  rw [List.length_drop, bl_len] at this
  simp at this
  omega
set_option maxHeartbeats 8000000 in
theorem pieces_any {D : Nat → Prop} {w : World} {d : Df} {ds : Array Value} {p q : Option Addr} {c f : Nat} {ks : Nat → Int} {n fr : Nat} {qr : Option Addr} (s : ByteArray) (hd : DC d ds p q c f) (hm : DM D w d p q c f) (hmay : MayD d) (hk : KV w ks n qr) (hn : ∀ r ∈ d.rl, r < (n : Int)) (hs : s.size ≤ 1000000) :
    Calls Try.prog 75 #[.slice qr n fr, .agg ds, .string s] w fun e w' => ∃ sl, e = .returned sl ∧ RwO w.heap.size w' (pcA d ks (bl s)) sl ∧ Below w.heap.size w w' := by
  obtain ⟨i0, hi, hz0, hz1, hz2⟩ := info_parts info60
  have HSZ := Lib.hid hd.sz
  have HD := Lib.hid hd
  have HM := Lib.hid hm
  have HMAY := Lib.hid hmay
  have HK := Lib.hid hk
  have HN := Lib.hid hn
  have hz48 := zero48
  have hz60 := zero60
  have S0 := Lib.hid ((Sb.start w).alloc (.cells ds 61))
  obtain ⟨R, hR⟩ : ∃ R, pcA d ks (bl s) = R := ⟨_, rfl⟩
  rw [hR]
  have HR := Lib.hid hR
  clear hd hm hmay hk hn hR
  go_enter Try.func75, Try.ntmps75
  go_wp2_with fail
  go_loopw [7, 8] (fun l i wr => ∃ (k : Nat) (out : List (Int × Nat × Nat)), i = .int .i64 (k : Nat) ∧ k ≤ s.size ∧ out.length ≤ k ∧ Hid (out ++ pcA d ks ((bl s).drop k) = R) ∧ Hid (RwO (w.heap.size + 1) wr out l) ∧ Hid (Sb w wr [(w.heap.size, .cells ds 61)])) (fun _ i _ => s.size - (intOf i).toNat)
  case atStart => exact ⟨0, [], rfl, by omega, by simp, by simpa using HR, Lib.hid ⟨by simp [rwL], .inl ⟨rfl, rfl⟩⟩, S0⟩
  case round =>
    clear S0
    obtain ⟨k, out, rfl, hk, hko, HO, HW, HS⟩ := hrel
    obtain ⟨wo, rfl⟩ : ∃ wo : World, wo = wr := ⟨_, rfl⟩
    by_cases hlt : k < s.size
    · have hltI : (k : Int) < (s.size : Int) := by omega
      have HBX : Hid (BX wo w.heap.size ds) := Lib.hid HS.out.heap
      have HAT := Lib.hid (at_any s (k : Nat) HD.out (HM.out.up HS.out.1) (by omega))
      have hne : (bl s).drop k ≠ [] := by
        intro e
        have := congrArg List.length e
        rw [List.length_drop, bl_len] at this
        simp at this; omega
      have hfa := ofF_facts HMAY.out hne
      have hfl := pcF_len HMAY.out ks hne
      have hcons := pcA_cons HMAY.out ks hne
      have hrule := fun h => ofF_rule HMAY.out (l := (bl s).drop k) HN.out h
      rw [List.length_drop, bl_len] at hfl
      unfold AtP at HAT
      rw [atF_of HMAY.out s hlt] at HAT
      rw [hcons, List.drop_drop] at HO
      obtain ⟨⟨r, ln, lk⟩, hof⟩ : ∃ z, ofF d ((bl s).drop k) = z := ⟨_, rfl⟩
      rw [hof] at HAT HO hfl hrule
      have hr : r < (n : Int) := by
        by_cases h0 : 0 ≤ r
        · exact hrule h0
        · omega
      clear hof hcons hfa hrule hne
      unfold munV at HAT
      simp only [] at HAT
      go_wp2_with (refine wpList_load_Dg _ rfl w.heap.size ds rfl HBX.out HSZ.out rfl ?_)
      refine HAT.out.mono ?_
      rintro _ w1 ⟨rfl, hb⟩
      have S1 := Lib.hid (HS.out.up hb)
      have HW1 := Lib.hid (HW.out.up hb)
      clear hb HAT HBX HS HW
      have S2 := Lib.hid (S1.out.alloc (.cells #[.int .i64 r, .int .i64 (ln : Nat), .int .i64 (lk : Nat)] 147))
      have HW2 := Lib.hid (HW1.out.up ((Below.refl _ _).alloc (Nat.le_refl _) (.cells #[.int .i64 r, .int .i64 (ln : Nat), .int .i64 (lk : Nat)] 147)))
      have HPI := Lib.hid (piece_any (ln := ln) (lk := lk) (f := fr) (HK.out.up S2.out.1) hr)
      unfold munV at HPI
      simp only [] at HPI
      clear HW1
      go_wp2_with fail
      refine HPI.out.mono ?_
      rintro _ w3 ⟨rfl, hb⟩
      have S3 := Lib.hid (S2.out.up hb)
      have HW3 := Lib.hid (HW2.out.up hb)
      clear hb HPI S1 S2 HW2
      obtain ⟨⟨kd, pl, pk⟩, hpc⟩ : ∃ z, pcF ks (r, ln, lk) = z := ⟨_, rfl⟩
      rw [hpc] at hfl HO ⊢
      simp only [] at hfl HO
      obtain ⟨hf1, hf2, -, -⟩ := hfl
      clear hpc
      unfold rwA
      simp only []
      have HUB : Hid (∀ g, u7.ownBlock = some g → g < w3.heap.size) := Lib.hid fun g hg => (World.ownsRow.lt HW3.out g hg).2
      have S4 := Lib.hid (S3.out.alloc (.cells #[.int .i64 kd, .int .i64 (pl : Nat), .int .i64 (pk : Nat)] 38))
      have HW4 := Lib.hid (HW3.out.up ((Below.refl _ _).alloc (Nat.le_refl _) (.cells #[.int .i64 kd, .int .i64 (pl : Nat), .int .i64 (pk : Nat)] 38)))
      clear S3 HW3
      go_upto_region 6 with fail
      obtain ⟨b3, hb3⟩ : ∃ b3, w3.heap.size = b3 := ⟨_, rfl⟩
      rw [hb3] at S4 HUB ⊢
      refine at_world (fun y => RwO (w.heap.size + 1) y out u7 ∧ Sb w y [(b3, .cells #[.int .i64 kd, .int .i64 (pl : Nat), .int .i64 (pk : Nat)] 38), (w.heap.size, .cells ds 61)]) ⟨HW4.out, S4.out.sub (by simp)⟩ fun y hy => ?_
      have HW5 := Lib.hid hy.1
      have S5 := Lib.hid hy.2
      clear hy S4 HW4 hb3
      have c0 : y.cell? ⟨b3, 0, none⟩ = some (.int .i64 kd) := S5.out.cell 0
      have c1 : y.cell? ⟨b3, 1, none⟩ = some (.int .i64 (pl : Nat)) := S5.out.cell 1
      have c2 : y.cell? ⟨b3, 2, none⟩ = some (.int .i64 (pk : Nat)) := S5.out.cell 2
      have S6 := Lib.hid (S5.out.alloc (.cells #[.int .i64 kd, .int .i64 (pl : Nat), .int .i64 (pk : Nat)] 38))
      have HW6 := Lib.hid (HW5.out.up ((Below.refl _ _).alloc (Nat.le_refl _) (.cells #[.int .i64 kd, .int .i64 (pl : Nat), .int .i64 (pk : Nat)] 38)))
      go_wp2_with (at_builtin; refine wpList_append_own_at _ rfl (.tmp 26) (.tmp 28) 22 rfl (w.heap.size + 1) 38 i0 (.agg #[.int .i64 0, .int .i64 0, .int .i64 0]) 3 24 Try.underlying22 hi hz0 hz1 hz2 rfl (by decide) u7 out.length (rwL out) rfl ?c0 ⟨y.heap.size, 0, none⟩ 1 1 [.int .i64 kd, .int .i64 (pl : Nat), .int .i64 (pk : Nat)] rfl rfl ?c1 ?c2 ?c3 ?c4 ?c5 ?_)
      case c0 => exact HW6.out
      case c1 =>
        intro i v hv
        have := S6.out.cell i
        rw [show (⟨y.heap.size, 0, none⟩ : Addr).add i = ⟨y.heap.size, i, none⟩ by cases i <;> simp [Addr.add]]
        rw [this]; simpa using hv
      case c2 => simp [Value.oneCell']
      case c3 => unfold maxLen; omega
      case c4 => omega
      case c5 => have := S6.out.tl.tl.lt; omega
      intro v' w7 hown7 hgrow7 _ hat7
      have hya := S5.out.1.size
      have hown : Hid (RwO (w.heap.size + 1) w7 (out ++ [(kd, pl, pk)]) v') := Lib.hid (by
        unfold RwO
        rw [rwL_app, List.length_append]
        exact hown7)
      have hlt : ∀ g, u7.ownBlock = some g → w.heap.size ≤ g ∧ g < b3 := fun g hg => ⟨by have := (World.ownsRow.lt HW5.out g hg).1; omega, HUB.out g hg⟩
      have S7 : Hid (Sb w w7 [(b3, .cells #[.int .i64 kd, .int .i64 (pl : Nat), .int .i64 (pk : Nat)] 38), (w.heap.size, .cells ds 61)]) := Lib.hid (S6.out.tl.grown hgrow7 (fun g hg => ⟨(hlt g hg).1, fun c hc => by
        have h1 := (hlt g hg).2
        simp only [List.mem_cons, List.mem_nil_iff, or_false] at hc
        rcases hc with rfl | rfl
        · show b3 ≠ g; omega
        · show w.heap.size ≠ g
          have := (World.ownsRow.lt HW5.out g hg).1
          omega⟩))
      have HO2 : Hid ((out ++ [(kd, pl, pk)]) ++ pcA d ks ((bl s).drop (k + pl)) = R) := Lib.hid (by rw [List.append_assoc]; exact HO)
      have cc1 : w7.cell? ⟨b3, 1, none⟩ = some (.int .i64 (pl : Nat)) := S7.out.cell 1
      clear hown7 hgrow7 hat7 hlt S6 HW6 S5 HW5 c0 c1 c2 HO
      go_wp2_with fail
      go_roundw
      case rel => exact ⟨k + pl, out ++ [(kd, pl, pk)], by go_num, by omega, by simp; omega, HO2, hown, Lib.hid S7.out.tl⟩
      case measure => simp [intOf]; omega
    · obtain rfl : k = s.size := by omega
      have hltI : ¬ (s.size : Int) < (s.size : Int) := by omega
      have hout : out = R := by rw [← HO.out, List.drop_eq_nil_of_le (by rw [bl_len]; omega), pcA_nil, List.append_nil]
      subst hout
      clear HO
      go_wp2_with fail
      go_ret
      exact ⟨_, rfl, row_base HW.out (Nat.le_succ _), HS.out.1⟩
end Go.Proofs.Ytemkppjdfjoipaa
