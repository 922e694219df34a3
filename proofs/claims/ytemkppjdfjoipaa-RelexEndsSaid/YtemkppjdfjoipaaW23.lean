/- Texts of package regs, one behind the other. -/
import Derived.Test.YtemkppjdfjoipaaProg
import Derived.Test.YtemkppjdfjoipaaW22
import Derived.Test.YtemkppjdfjoipaaW16
import Derived.WalkKit
import Derived.BigFrame
import Derived.WalkMore
import Derived.ScopeJumps
import Derived.StillTailTactics
import Derived.Stop.BytesEq
import Derived.WalkLawsBesides
import Derived.WalkSpells
import Derived.Outline
import Derived.Lib.Walk
import Derived.Lib.Hide
import Derived.Lib.Slices
import Derived.Lib.Strings
import Derived.RegionTactic
import Derived.LoopTactic
import Derived.Below
import Derived.IntWalk
import Derived.Deep.QuietTactic
import Derived.BigQuiet
import Derived.Deep.MidRow
import Derived.Maps.AppendAt
import Derived.Laws.Rows
import Derived.Laws.Tables
import Derived.Deep.WholeRow
import Derived.Deep.Cut
import Derived.Deep.CutRange
import Derived.Lib.SliceRun
import Derived.Laws.MakeOwn
import Derived.Deep.RegionLaw
import Derived.Deep.RegionLawGrows
import Derived.Deep.RegionHeld3
import Derived.RegionCalls
import Derived.Deep.RegionWith
import Derived.Deep.Light
import Derived.Laws.CopyOwn
import Derived.Laws.ResultCell
import Derived.Test.YtemkppjdfjoipaaW21
import Derived.Deep.SlicePairs
import Derived.Deep.Slices
import Derived.Laws.IdiomArrays
import Derived.OpenShut
import Derived.WideBlind
import Derived.Great.BuildSlice
import Derived.Maps.OwnSet
import Derived.Maps.OwnOps
import Derived.Maps.Own
import Derived.DeepKeys5
section
/- Package raws. -/
namespace Go.Proofs.Ytemkppjdfjoipaa
set_option linter.unusedSimpArgs false
set_option linter.unusedVariables false
set_option maxRecDepth 100000
open Go.RowKit
/- raws.pieces. -/
def rwL (l : List (Int × Nat × Nat)) : List Value := l.flatMap fun x => (rwA x).toList
theorem rwL_app (l : List (Int × Nat × Nat)) (x : Int × Nat × Nat) : rwL (l ++ [x]) = rwL l ++ [.int .i64 x.1, .int .i64 (x.2.1 : Nat), .int .i64 (x.2.2 : Nat)] := by simp [rwL, rwA]
theorem info60 : (Try.prog.info? 38).map (fun i => (i.zero, i.size, i.bytes)) = some (some (.agg #[.int .i64 0, .int .i64 0, .int .i64 0]), 3, 24) := by kernel_rfl
/-- Pieces, in a row of one's own. -/
def RwO (B : Nat) (w : World) (l : List (Int × Nat × Nat)) (sl : Value) : Prop := w.ownsRow B 38 3 sl l.length (rwL l)
theorem RwO.up {B : Nat} {w w' : World} {l : List (Int × Nat × Nat)} {sl : Value} (h : RwO B w l sl) (hb : Below w.heap.size w w') : RwO B w' l sl := by
  refine World.ownsRow.kept h (row := none) ⟨hb.os, hb.tape, hb.output, hb.size, fun k hk _ => hb.block k hk⟩ ?_
  by_cases hp : sl.ownBlock = none
  · exact .inl hp
  · exact .inr (fun e => hp e)
theorem chk_of {d : Df} (h : MayD d) : chkD d = 0 := by
  have h1 := h.big
  have h2 := h.ln
  unfold chkD
  rw [if_neg (by unfold tooD; simp; omega), if_pos]
  unfold mayD stOk clsOk rowsOk rowOk rlsOk
  simp only [Bool.and_eq_true, decide_eq_true_eq, List.all_eq_true, List.mem_range]
  exact ⟨h.ln, ⟨h.s0, h.s1⟩, ⟨h.m1, h.cl⟩, h.rw, h.rl⟩
theorem atF_of {d : Df} (hd : MayD d) (s : ByteArray) {k : Nat} (hk : k < s.size) : atF d s (k : Nat) = (ofF d ((bl s).drop k), 0) := by
  unfold atF
  have h0 : chkD d = 0 := chk_of hd
  rw [if_neg (by simp [h0]), if_neg (by omega), Int.toNat_natCast, munch_doc hd]
  intro e
  have := congrArg List.length e
  rw [List.length_drop, bl_len] at this
  simp at this
  omega
set_option maxHeartbeats 8000000 in
theorem pieces_any {D : Nat → Prop} {w : World} {d : Df} {ds : Array Value} {p q : Option Addr} {c f : Nat} {ks : Nat → Int} {n fr : Nat} {qr : Option Addr} (s : ByteArray) (hd : DC d ds p q c f) (hm : DM D w d p q c f) (hmay : MayD d) (hk : KV w ks n qr) (hn : ∀ r ∈ d.rl, r < (n : Int)) (hs : s.size ≤ 1000000) :
    Calls Try.prog 75 #[.slice qr n fr, .agg ds, .string s] w fun e w' => ∃ sl, e = .returned sl ∧ RwO w.heap.size w' (pcA d ks (bl s)) sl ∧ Below w.heap.size w w' := by
  obtain ⟨i0, hi, hz0, hz1, hz2⟩ := info_parts info60
  have HSZ := Lib.hid hd.sz
  have HD := Lib.hid hd
  have HM := Lib.hid hm
  have HMAY := Lib.hid hmay
  have HK := Lib.hid hk
  have HN := Lib.hid hn
  have hz48 := zero48
  have hz60 := zero60
  have S0 := Lib.hid ((Sb.start w).alloc (.cells ds 61))
  obtain ⟨R, hR⟩ : ∃ R, pcA d ks (bl s) = R := ⟨_, rfl⟩
  rw [hR]
  have HR := Lib.hid hR
  clear hd hm hmay hk hn hR
  go_enter Try.func75, Try.ntmps75
  go_wp2_with fail
  go_loopw [7, 8] (fun l i wr => ∃ (k : Nat) (out : List (Int × Nat × Nat)), i = .int .i64 (k : Nat) ∧ k ≤ s.size ∧ out.length ≤ k ∧ Hid (out ++ pcA d ks ((bl s).drop k) = R) ∧ Hid (RwO (w.heap.size + 1) wr out l) ∧ Hid (Sb w wr [(w.heap.size, .cells ds 61)])) (fun _ i _ => s.size - (intOf i).toNat)
  case atStart => exact ⟨0, [], rfl, by omega, by simp, by simpa using HR, Lib.hid ⟨by simp [rwL], .inl ⟨rfl, rfl⟩⟩, S0⟩
  case round =>
    clear S0
    obtain ⟨k, out, rfl, hk, hko, HO, HW, HS⟩ := hrel
    obtain ⟨wo, rfl⟩ : ∃ wo : World, wo = wr := ⟨_, rfl⟩
    by_cases hlt : k < s.size
    · have hltI : (k : Int) < (s.size : Int) := by omega
      have HBX : Hid (BX wo w.heap.size ds) := Lib.hid HS.out.heap
      have HAT := Lib.hid (at_any s (k : Nat) HD.out (HM.out.up HS.out.1) (by omega))
      have hne : (bl s).drop k ≠ [] := by
        intro e
        have := congrArg List.length e
        rw [List.length_drop, bl_len] at this
        simp at this; omega
      have hfa := ofF_facts HMAY.out hne
      have hfl := pcF_len HMAY.out ks hne
      have hcons := pcA_cons HMAY.out ks hne
      have hrule := fun h => ofF_rule HMAY.out (l := (bl s).drop k) HN.out h
      rw [List.length_drop, bl_len] at hfl
      unfold AtP at HAT
      rw [atF_of HMAY.out s hlt] at HAT
      rw [hcons, List.drop_drop] at HO
      obtain ⟨⟨r, ln, lk⟩, hof⟩ : ∃ z, ofF d ((bl s).drop k) = z := ⟨_, rfl⟩
      rw [hof] at HAT HO hfl hrule
      have hr : r < (n : Int) := by
        by_cases h0 : 0 ≤ r
        · exact hrule h0
        · omega
      clear hof hcons hfa hrule hne
      unfold munV at HAT
      simp only [] at HAT
      go_wp2_with (refine wpList_load_Dg _ rfl w.heap.size ds rfl HBX.out HSZ.out rfl ?_)
      refine HAT.out.mono ?_
      rintro _ w1 ⟨rfl, hb⟩
      have S1 := Lib.hid (HS.out.up hb)
      have HW1 := Lib.hid (HW.out.up hb)
      clear hb HAT HBX HS HW
      have S2 := Lib.hid (S1.out.alloc (.cells #[.int .i64 r, .int .i64 (ln : Nat), .int .i64 (lk : Nat)] 147))
      have HW2 := Lib.hid (HW1.out.up ((Below.refl _ _).alloc (Nat.le_refl _) (.cells #[.int .i64 r, .int .i64 (ln : Nat), .int .i64 (lk : Nat)] 147)))
      have HPI := Lib.hid (piece_any (ln := ln) (lk := lk) (f := fr) (HK.out.up S2.out.1) hr)
      unfold munV at HPI
      simp only [] at HPI
      clear HW1
      go_wp2_with fail
      refine HPI.out.mono ?_
      rintro _ w3 ⟨rfl, hb⟩
      have S3 := Lib.hid (S2.out.up hb)
      have HW3 := Lib.hid (HW2.out.up hb)
      clear hb HPI S1 S2 HW2
      obtain ⟨⟨kd, pl, pk⟩, hpc⟩ : ∃ z, pcF ks (r, ln, lk) = z := ⟨_, rfl⟩
      rw [hpc] at hfl HO ⊢
      simp only [] at hfl HO
      obtain ⟨hf1, hf2, -, -⟩ := hfl
      clear hpc
      unfold rwA
      simp only []
      have HUB : Hid (∀ g, u7.ownBlock = some g → g < w3.heap.size) := Lib.hid fun g hg => (World.ownsRow.lt HW3.out g hg).2
      have S4 := Lib.hid (S3.out.alloc (.cells #[.int .i64 kd, .int .i64 (pl : Nat), .int .i64 (pk : Nat)] 38))
      have HW4 := Lib.hid (HW3.out.up ((Below.refl _ _).alloc (Nat.le_refl _) (.cells #[.int .i64 kd, .int .i64 (pl : Nat), .int .i64 (pk : Nat)] 38)))
      clear S3 HW3
      go_upto_region 6 with fail
      obtain ⟨b3, hb3⟩ : ∃ b3, w3.heap.size = b3 := ⟨_, rfl⟩
      rw [hb3] at S4 HUB ⊢
      refine at_world (fun y => RwO (w.heap.size + 1) y out u7 ∧ Sb w y [(b3, .cells #[.int .i64 kd, .int .i64 (pl : Nat), .int .i64 (pk : Nat)] 38), (w.heap.size, .cells ds 61)]) ⟨HW4.out, S4.out.sub (by simp)⟩ fun y hy => ?_
      have HW5 := Lib.hid hy.1
      have S5 := Lib.hid hy.2
      clear hy S4 HW4 hb3
      have c0 : y.cell? ⟨b3, 0, none⟩ = some (.int .i64 kd) := S5.out.cell 0
      have c1 : y.cell? ⟨b3, 1, none⟩ = some (.int .i64 (pl : Nat)) := S5.out.cell 1
      have c2 : y.cell? ⟨b3, 2, none⟩ = some (.int .i64 (pk : Nat)) := S5.out.cell 2
      have S6 := Lib.hid (S5.out.alloc (.cells #[.int .i64 kd, .int .i64 (pl : Nat), .int .i64 (pk : Nat)] 38))
      have HW6 := Lib.hid (HW5.out.up ((Below.refl _ _).alloc (Nat.le_refl _) (.cells #[.int .i64 kd, .int .i64 (pl : Nat), .int .i64 (pk : Nat)] 38)))
      go_wp2_with (at_builtin; refine wpList_append_own_at _ rfl (.tmp 26) (.tmp 28) 22 rfl (w.heap.size + 1) 38 i0 (.agg #[.int .i64 0, .int .i64 0, .int .i64 0]) 3 24 Try.underlying22 hi hz0 hz1 hz2 rfl (by decide) u7 out.length (rwL out) rfl ?c0 ⟨y.heap.size, 0, none⟩ 1 1 [.int .i64 kd, .int .i64 (pl : Nat), .int .i64 (pk : Nat)] rfl rfl ?c1 ?c2 ?c3 ?c4 ?c5 ?_)
      case c0 => exact HW6.out
      case c1 =>
        intro i v hv
        have := S6.out.cell i
        rw [show (⟨y.heap.size, 0, none⟩ : Addr).add i = ⟨y.heap.size, i, none⟩ by cases i <;> simp [Addr.add]]
        rw [this]; simpa using hv
      case c2 => simp [Value.oneCell']
      case c3 => unfold maxLen; omega
      case c4 => omega
      case c5 => have := S6.out.tl.tl.lt; omega
      intro v' w7 hown7 hgrow7 _ hat7
      have hya := S5.out.1.size
      have hown : Hid (RwO (w.heap.size + 1) w7 (out ++ [(kd, pl, pk)]) v') := Lib.hid (by
        unfold RwO
        rw [rwL_app, List.length_append]
        exact hown7)
      have hlt : ∀ g, u7.ownBlock = some g → w.heap.size ≤ g ∧ g < b3 := fun g hg => ⟨by have := (World.ownsRow.lt HW5.out g hg).1; omega, HUB.out g hg⟩
      have S7 : Hid (Sb w w7 [(b3, .cells #[.int .i64 kd, .int .i64 (pl : Nat), .int .i64 (pk : Nat)] 38), (w.heap.size, .cells ds 61)]) := Lib.hid (S6.out.tl.grown hgrow7 (fun g hg => ⟨(hlt g hg).1, fun c hc => by
        have h1 := (hlt g hg).2
        simp only [List.mem_cons, List.mem_nil_iff, or_false] at hc
        rcases hc with rfl | rfl
        · show b3 ≠ g; omega
        · show w.heap.size ≠ g
          have := (World.ownsRow.lt HW5.out g hg).1
          omega⟩))
      have HO2 : Hid ((out ++ [(kd, pl, pk)]) ++ pcA d ks ((bl s).drop (k + pl)) = R) := Lib.hid (by rw [List.append_assoc]; exact HO)
      have cc1 : w7.cell? ⟨b3, 1, none⟩ = some (.int .i64 (pl : Nat)) := S7.out.cell 1
      clear hown7 hgrow7 hat7 hlt S6 HW6 S5 HW5 c0 c1 c2 HO
      go_wp2_with fail
      go_roundw
      case rel => exact ⟨k + pl, out ++ [(kd, pl, pk)], by go_num, by omega, by simp; omega, HO2, hown, Lib.hid S7.out.tl⟩
      case measure => simp [intOf]; omega
    · obtain rfl : k = s.size := by omega
      have hltI : ¬ (s.size : Int) < (s.size : Int) := by omega
      have hout : out = R := by rw [← HO.out, List.drop_eq_nil_of_le (by rw [bl_len]; omega), pcA_nil, List.append_nil]
      subst hout
      clear HO
      go_wp2_with fail
      go_ret
      exact ⟨_, rfl, row_base HW.out (Nat.le_succ _), HS.out.1⟩
end Go.Proofs.Ytemkppjdfjoipaa
end
section
/- Package raws. -/
namespace Go.Proofs.Ytemkppjdfjoipaa
set_option linter.unusedSimpArgs false
set_option linter.unusedVariables false
set_option maxRecDepth 100000
open Go.RowKit
/- raws.Of. -/
/-- The pieces of a text, and the error. -/
def rawsF (d : Df) (ks : Nat → Int) (n : Nat) (s : ByteArray) : List (Int × Nat × Nat) × Int := if chkD d ≠ 0 then ([], chkD d) else if anyGe (n : Nat) d.rl = true then ([], 2) else if 65536 < s.size then ([], 3) else (pcA d ks (bl s), 0)
theorem RwO.nil (B : Nat) (w : World) : RwO B w [] (.slice none 0 0) := ⟨by simp [rwL], .inl ⟨rfl, rfl⟩⟩
theorem anyGe_no {m : Int} {l : List Int} (h : anyGe m l = false) : ∀ r ∈ l, r < m := fun r hr => by
  have := List.any_eq_false.1 h r hr
  simp at this; omega
def RawsP (w : World) (X : List (Int × Nat × Nat) × Int) (e : Ending) (w' : World) : Prop := ∃ sl, e = .returned (.tuple #[sl, .int .i64 X.2]) ∧ RwO w.heap.size w' X.1 sl ∧ Below w.heap.size w w'
set_option maxHeartbeats 8000000 in
theorem rawsof_any {D : Nat → Prop} {w : World} {d : Df} {ds : Array Value} {p q : Option Addr} {c f : Nat} {ks : Nat → Int} {n fr : Nat} {qr : Option Addr} (s : ByteArray) (hd : DC d ds p q c f) (hm : DM D w d p q c f) (hk : KV w ks n qr) (hn : n ≤ 9223372036854775806) (hs : s.size ≤ 9223372036854775805) :
    Calls Try.prog 46 #[.slice qr n fr, .agg ds, .string s] w (RawsP w (rawsF d ks n s)) := by
  have HSZ := Lib.hid hd.sz
  have HD := Lib.hid hd
  have HM := Lib.hid hm
  have HK := Lib.hid hk
  have S0 := Lib.hid ((Sb.start w).alloc (.cells ds 61))
  have HB0 : Hid (BX (w.alloc (.cells ds 61)) w.heap.size ds) := Lib.hid S0.out.heap
  have HCK := Lib.hid (check_any hd (hm.up S0.out.1))
  obtain ⟨ck, hck⟩ : ∃ ck, chkD d = ck := ⟨_, rfl⟩
  rw [hck] at HCK
  have HC := Lib.hid hck
  obtain ⟨X, hX⟩ : ∃ X, rawsF d ks n s = X := ⟨_, rfl⟩
  rw [hX]
  have HX := Lib.hid hX
  clear hd hm hk hck hX
  go_enter Try.func46, Try.ntmps46
  go_wp2_with (refine wpList_load_Dg _ rfl w.heap.size ds rfl HB0.out HSZ.out rfl ?_)
  refine HCK.out.mono ?_
  rintro _ w1 ⟨rfl, hb⟩
  have S1 := Lib.hid (S0.out.up hb)
  clear hb S0 HB0 HCK
  by_cases h0 : ck = 0
  · have hne : (ck != 0) = false := by simp [h0]
    have HMAY : Hid (MayD d) := Lib.hid (chk_may (by rw [HC.out, h0]))
    have HB1 : Hid (BX w1 w.heap.size ds) := Lib.hid S1.out.heap
    have HNA := Lib.hid (names_any (n : Nat) HD.out (HM.out.up S1.out.1))
    obtain ⟨an, han⟩ : ∃ an, anyGe (n : Nat) d.rl = an := ⟨_, rfl⟩
    rw [han] at HNA
    have HAN := Lib.hid han
    clear han
    go_wp2_with (refine wpList_load_Dg _ rfl w.heap.size ds rfl HB1.out HSZ.out rfl ?_)
    refine HNA.out.mono ?_
    rintro _ w2 ⟨rfl, hb⟩
    have S2 := Lib.hid (S1.out.up hb)
    clear hb S1 HB1 HNA
    cases an with
    | true =>
      have HF : Hid (([], 2) = X) := Lib.hid (by rw [← HX.out]; unfold rawsF; rw [if_neg (by simp [HC.out, h0]), if_pos HAN.out])
      go_wp2_with fail
      go_ret2
      have hf := HF.out
      subst hf
      exact ⟨_, rfl, RwO.nil _ _, S2.out.1⟩
    | false =>
      by_cases hlong : 65536 < s.size
      · have hlI : (65536 : Int) < (s.size : Int) := by omega
        have HF : Hid (([], 3) = X) := Lib.hid (by rw [← HX.out]; unfold rawsF; rw [if_neg (by simp [HC.out, h0]), if_neg (by simp [HAN.out]), if_pos hlong])
        go_wp2_with fail
        go_ret2
        have hf := HF.out
        subst hf
        exact ⟨_, rfl, RwO.nil _ _, S2.out.1⟩
      · have hlI : ¬ (65536 : Int) < (s.size : Int) := by omega
        have HF : Hid ((pcA d ks (bl s), 0) = X) := Lib.hid (by rw [← HX.out]; unfold rawsF; rw [if_neg (by simp [HC.out, h0]), if_neg (by simp [HAN.out]), if_neg hlong])
        have HB2 : Hid (BX w2 w.heap.size ds) := Lib.hid S2.out.heap
        have HPC := Lib.hid (pieces_any (fr := fr) s HD.out (HM.out.up S2.out.1) HMAY.out (HK.out.up S2.out.1) (anyGe_no HAN.out) (by omega))
        go_wp2_with (refine wpList_load_Dg _ rfl w.heap.size ds rfl HB2.out HSZ.out rfl ?_)
        refine HPC.out.mono ?_
        rintro _ w3 ⟨sl, rfl, h1, hb⟩
        have S3 := Lib.hid (S2.out.up hb)
        have H1 := Lib.hid (row_base h1 S2.out.1.size)
        clear hb h1 HPC HB2 S2
        go_wp2_with fail
        go_ret2
        have hf := HF.out
        subst hf
        exact ⟨_, rfl, H1.out, S3.out.1⟩
  · have hne : (ck != 0) = true := by simp [h0]
    have HF : Hid (([], ck) = X) := Lib.hid (by rw [← HX.out]; unfold rawsF; rw [if_pos (by rw [HC.out]; exact h0), HC.out])
    go_wp2_with fail
    go_ret2
    have hf := HF.out
    subst hf
    exact ⟨_, rfl, RwO.nil _ _, S1.out.1⟩
end Go.Proofs.Ytemkppjdfjoipaa
end
section
/- Package relex. -/
namespace Go.Proofs.Ytemkppjdfjoipaa.I1.X
set_option linter.unusedSimpArgs false
set_option linter.unusedVariables false
set_option maxRecDepth 100000
open Go.RowKit
/- Scanners and scans in memory. -/
abbrev ksL (kl : List Int) : Nat → Int := fun i => kl.getD i 0
def BV (D : Nat → Prop) (w : World) (l : List Bool) (sl : Value) : Prop := ∃ p c, sl = .slice p l.length c ∧ (l ≠ [] → ∃ b o, p = some ⟨b, o, none⟩ ∧ D b ∧ ∀ i (h : i < l.length), w.cell? ⟨b, o + i, none⟩ = some (.bool l[i]))
theorem BV.mono {D E : Nat → Prop} {w w' : World} (hE : ∀ b, D b → E b) (hw : ∀ b, D b → b < w.heap.size → w'.heap[b]? = w.heap[b]?) {l : List Bool} {sl : Value} (h : BV D w l sl) : BV E w' l sl := by
  obtain ⟨p, c, rfl, h⟩ := h
  refine ⟨p, c, rfl, fun hn => ?_⟩
  obtain ⟨b, o, hp, hD, hc⟩ := h hn
  exact ⟨b, o, hp, hE b hD, fun i hi => (cell_same (hw b hD (blk_lt (hc i hi))) _).trans (hc i hi)⟩
abbrev Lt (N : Nat) : Nat → Prop := fun b => b < N
structure SN0 (N : Nat) (w : World) (bs : Nat) (d : Df) (kl : List Int) (ds : Array Value) (p q qk po : Option Addr) (c f fk fo : Nat) : Prop where
  bn : bs < N
  nw : N ≤ w.heap.size
  dc : DC d ds p q c f
  dm : DM (Lt N) w d p q c f
  cs : ∀ j v, ds[j]? = some v → w.cell? ⟨bs, 1 + j, none⟩ = some v
  k0 : w.cell? ⟨bs, 0, none⟩ = some (.slice qk kl.length fk)
  kv : IV (Lt N) w kl (.slice qk kl.length fk)
  o0 : w.cell? ⟨bs, 260, none⟩ = some (.slice po d.nx.length fo)
  ov : BV (Lt N) w (d.nx.map onRow) (.slice po d.nx.length fo)
/-- A scanner's block. -/
def SN (N : Nat) (w : World) (bs : Nat) (d : Df) (kl : List Int) : Prop := ∃ ds p q qk po c f fk fo, SN0 N w bs d kl ds p q qk po c f fk fo
theorem SN.up {N M : Nat} {w w' : World} {bs : Nat} {d : Df} {kl : List Int} (h : SN N w bs d kl) (hN : N ≤ M) (hM : M ≤ w'.heap.size) (hb : Below N w w') : SN M w' bs d kl := by
  obtain ⟨ds, p, q, qk, po, c, f, fk, fo, h⟩ := h
  have hc : ∀ b o v, b < N → w.cell? ⟨b, o, none⟩ = some v → w'.cell? ⟨b, o, none⟩ = some v := fun b o v hb' h => (cell_same (hb.block b hb') _).trans h
  refine ⟨ds, p, q, qk, po, c, f, fk, fo, ⟨Nat.lt_of_lt_of_le h.bn hN, hM, h.dc, ?_, fun j v hj => hc _ _ _ h.bn (h.cs j v hj), hc _ _ _ h.bn h.k0, h.kv.mono (fun b hb => Nat.lt_of_lt_of_le hb hN) (fun b hb' _ => hb.block b hb'), hc _ _ _ h.bn h.o0, h.ov.mono (fun b hb => Nat.lt_of_lt_of_le hb hN) (fun b hb' _ => hb.block b hb')⟩⟩
  exact ⟨h.dm.nx.mono (fun b hb => Nat.lt_of_lt_of_le hb hN) (fun b hb' _ => hb.block b hb'), h.dm.rl.mono (fun b hb => Nat.lt_of_lt_of_le hb hN) (fun b hb' _ => hb.block b hb'), fun b hb' => Nat.lt_of_lt_of_le hb' hM, h.dm.l1, h.dm.l2, h.dm.l3⟩
theorem MLI.step {d : Df} {l : List Nat} {s : Int} {k : Nat} {r : Int} {n b : Nat} {t : List Nat} (h : MLI d l s k r n) (ht : l.drop k = b :: t) (hc : 0 ≤ cellAt d s.toNat (d.cl b)) :
    MLI d l (cellAt d s.toNat (d.cl b)) (k + 1) (if 0 ≤ d.rl.getD (cellAt d s.toNat (d.cl b)).toNat (-1) then d.rl.getD (cellAt d s.toNat (d.cl b)).toNat (-1) else r) (if 0 ≤ d.rl.getD (cellAt d s.toNat (d.cl b)).toNat (-1) then k + 1 else n) := by
  obtain ⟨h1, h2, h3⟩ := Go.Proofs.Ytemkppjdfjoipaa.take_snoc ht
  have hw : walkD d d.st (l.take (k + 1)) = cellAt d s.toNat (d.cl b) := by rw [h1, walkD_snoc, h.hs, goD_cell h.h0 hc]
  have hgo : ∀ i, 1 ≤ i → i < k + 1 → stopAt d l i = false := fun i hi1 hi2 => by
    by_cases hik : i < k
    · exact h.go i hi1 hik
    · obtain rfl : i = k := by omega
      obtain ⟨r', hr1, hr2⟩ := cell_on hc
      have : onD d s = true := by unfold onD; rw [hr1]; exact hr2
      unfold stopAt; rw [h.hs, this]; simp; exact h.h0
  have hrl : rlAt d (cellAt d s.toNat (d.cl b)) = if d.rl.getD (cellAt d s.toNat (d.cl b)).toNat (-1) < 0 then -1 else d.rl.getD (cellAt d s.toNat (d.cl b)).toNat (-1) := by
    unfold rlAt; rw [if_neg (by omega)]
  refine ⟨hw, hc, ?_, by omega, hgo⟩
  by_cases hr : 0 ≤ d.rl.getD (cellAt d s.toNat (d.cl b)).toNat (-1)
  · have e2 : rlAt d (cellAt d s.toNat (d.cl b)) = d.rl.getD (cellAt d s.toNat (d.cl b)).toNat (-1) := by rw [hrl, if_neg (by omega)]
    rw [if_pos hr, if_pos hr, longR, hw, e2, if_pos hr]
  · have e2 : rlAt d (cellAt d s.toNat (d.cl b)) = -1 := by rw [hrl, if_pos (by omega)]
    rw [if_neg hr, if_neg hr, longR, hw, e2, if_neg (by omega), ← h.hl]
theorem mli_off {d : Df} {l : List Nat} {s : Int} {k : Nat} {r : Int} {n : Nat} (h : MLI d l s k r n) (hne : l ≠ []) (hk : k ≠ 0) (ho : onD d s = false) : (r, n, k) = ofF d l := by
  have h1 := mL_end h hne (by
    cases hd : l.drop k with
    | nil => exact .inl rfl
    | cons b t =>
      refine .inr ⟨b, t, rfl, fun hc => ?_⟩
      obtain ⟨r', hr1, hr2⟩ := cell_on hc
      have : onD d s = true := by unfold onD; rw [hr1]; exact hr2
      rw [ho] at this; cases this)
  have hb : (k == 0 || onD d s) = false := by rw [ho]; simpa using hk
  rwa [hb, if_neg (by simp)] at h1
theorem mli_on {d : Df} {l : List Nat} {s : Int} {k : Nat} {r : Int} {n : Nat} (h : MLI d l s k r n) (hne : l ≠ []) (hb : (k == 0 || onD d s) = true) (hend : l.drop k = [] ∨ ∃ b t, l.drop k = b :: t ∧ ¬ 0 ≤ cellAt d s.toNat (d.cl b)) : (r, n, k + 1) = ofF d l := by
  have h1 := mL_end h hne hend
  rwa [hb, if_pos rfl] at h1
/-- The piece so far. -/
def kdF (kl : List Int) (r : Int) : Int := if r < 0 then 23 else kl.getD r.toNat 0
def lnF (r : Int) (n : Nat) : Nat := if r < 0 then 1 else n
theorem pcF_kd (kl : List Int) (r : Int) (n k : Nat) : pcF (ksL kl) (r, n, k) = (kdF kl r, lnF r n, k) := by
  unfold pcF kdF lnF
  by_cases h : r < 0
  · simp [h]
  · simp [h]
end Go.Proofs.Ytemkppjdfjoipaa.I1.X
end
