/- Package indent. -/
import Derived.Test.YtemkppjdfjoipaaProg
import Derived.Test.YtemkppjdfjoipaaU5
import Derived.Great.BuildSlice
import Derived.WalkKit
import Derived.Maps.OwnSet
import Derived.Maps.OwnOps
import Derived.Maps.Own
import Derived.DeepKeys5
import Derived.BigFrame
import Derived.WalkMore
import Derived.ScopeJumps
import Derived.StillTailTactics
import Derived.Stop.BytesEq
import Derived.WalkLawsBesides
import Derived.WalkSpells
import Derived.Outline
import Derived.Lib.Walk
import Derived.Lib.Hide
import Derived.Lib.Slices
import Derived.Lib.Strings
import Derived.RegionTactic
import Derived.LoopTactic
import Derived.Below
import Derived.IntWalk
import Derived.Deep.QuietTactic
import Derived.BigQuiet
import Derived.Deep.MidRow
import Derived.Maps.AppendAt
import Derived.Laws.Rows
import Derived.Laws.Tables
import Derived.Deep.WholeRow
import Derived.Deep.Cut
import Derived.Deep.CutRange
import Derived.Lib.SliceRun
import Derived.Laws.MakeOwn
import Derived.Deep.RegionLaw
import Derived.Deep.RegionLawGrows
import Derived.Deep.RegionHeld3
import Derived.RegionCalls
import Derived.Deep.RegionWith
import Derived.Deep.Light
import Derived.Laws.CopyOwn
import Derived.Laws.ResultCell
namespace Go.Proofs.Ytemkppjdfjoipaa.I1
set_option linter.unusedSimpArgs false
set_option linter.unusedVariables false
set_option maxRecDepth 100000
open Go.RowKit
/- mayBe, made, beginsLine, column, Clone. -/
def mkA (sl : Value) (m : Mk) : Array Value := #[sl, .int .i64 m.opn, .int .i64 m.col, .bool m.fresh, .int .i64 m.lead]
def rwV (k n lk : Int) : Array Value := #[.int .i64 k, .int .i64 n, .int .i64 lk]
noncomputable def mayB (m : Mk) : Bool := riseB m.cols && inB m.opn 65536 && inB m.lead 65536 && inB m.col 4096
theorem mayB_may {m : Mk} (h : mayB m = true) : May m := by
  unfold mayB inB at h
  simp only [Bool.and_eq_true, decide_eq_true_eq] at h
  obtain ⟨⟨⟨h1, h2⟩, h3⟩, h4⟩ := h
  have hr : Rise m.cols := by
    apply Classical.byContradiction
    intro hn
    rw [riseB_f hn] at h1; cases h1
  exact ⟨hr.ne, hr.h0, hr.up, hr.top, h2.1, h2.2, h3.1, h3.2, h4.1, h4.2⟩
theorem may_mayB {m : Mk} (h : May m) : mayB m = true := by
  unfold mayB inB
  rw [riseB_t ⟨h.ne, h.h0, h.up, h.top⟩]
  simp only [Bool.and_eq_true, decide_eq_true_eq]
  exact ⟨⟨⟨trivial, h.o0, h.o1⟩, h.l0, h.l1⟩, h.c0, h.c1⟩
set_option maxHeartbeats 4000000 in
theorem maybe_any {D : Nat → Prop} {w : World} {m : Mk} {p : Option Addr} {c : Nat} (hl : m.cols.length ≤ 9223372036854775806) (hD : ∀ b, D b → b < w.heap.size) (h : IV D w m.cols (.slice p m.cols.length c)) :
    Calls Try.prog 56 #[.agg (mkA (.slice p m.cols.length c) m)] w fun e w' => e = .returned (.bool (mayB m)) ∧ Below w.heap.size w w' := by
  obtain ⟨cols, o, k, fr, ld⟩ := m
  unfold mkA
  simp only [] at hl h ⊢
  have S0 := Lib.hid ((Below.refl w.heap.size w).alloc (Nat.le_refl _) (.cells #[.slice p cols.length c, .int .i64 o, .int .i64 k, .bool fr, .int .i64 ld] 36))
  have HR := Lib.hid (rises_any hl (h.mono (D := D) (E := D) (w' := w.alloc (.cells #[.slice p cols.length c, .int .i64 o, .int .i64 k, .bool fr, .int .i64 ld] 36)) (fun b h => h) (fun b hb _ => S0.out.block b (hD b hb))))
  clear h hD
  obtain ⟨b1, hb1⟩ : ∃ b, riseB cols = b := ⟨_, rfl⟩
  obtain ⟨b2, hb2⟩ : ∃ b, inB o 65536 = b := ⟨_, rfl⟩
  obtain ⟨b3, hb3⟩ : ∃ b, inB ld 65536 = b := ⟨_, rfl⟩
  obtain ⟨b4, hb4⟩ : ∃ b, inB k 4096 = b := ⟨_, rfl⟩
  have HM : Hid ((b1 && b2 && b3 && b4) = mayB ⟨cols, o, k, fr, ld⟩) := Lib.hid (by unfold mayB; rw [hb1, hb2, hb3, hb4])
  rw [hb1] at HR
  have HB := Lib.hid (And.intro hb2 (And.intro hb3 hb4))
  clear hb1 hb2 hb3 hb4
  go_enter Try.func56, Try.ntmps56
  go_wp2_with fail
  refine HR.out.mono ?_
  rintro _ _ ⟨rfl, rfl⟩
  clear HR
  cases b1 with
  | false =>
    go_wp2_with fail
    go_ret
    exact ⟨vbool6 HM.out, S0.out⟩
  | true =>
  go_wp2_with fail
  refine within_any.mono ?_
  rintro _ _ ⟨rfl, rfl⟩
  rw [HB.out.1]
  cases b2 with
  | false =>
    go_wp2_with fail
    go_ret
    exact ⟨vbool6 HM.out, S0.out⟩
  | true =>
  go_wp2_with fail
  refine within_any.mono ?_
  rintro _ _ ⟨rfl, rfl⟩
  rw [HB.out.2.1]
  cases b3 with
  | false =>
    go_wp2_with fail
    go_ret
    exact ⟨vbool6 HM.out, S0.out⟩
  | true =>
  go_wp2_with fail
  refine within_any.mono ?_
  rintro _ _ ⟨rfl, rfl⟩
  rw [HB.out.2.2]
  clear HB
  go_wp2_with fail
  go_ret
  exact ⟨vbool6 HM.out, S0.out⟩
def madeB (m : Mk) (s : ByteArray) (n : Int) : Bool := decide (1 ≤ n) && decide (n = s.size) && decide (n ≤ 65536 - m.lead)
theorem madeB_iff {m : Mk} {s : ByteArray} {n : Int} : madeB m s n = true ↔ Made m (bl s) n := by
  unfold madeB Made
  simp only [Bool.and_eq_true, decide_eq_true_eq, bl_len, and_assoc]
  constructor
  · rintro ⟨h1, h2, h3⟩; exact ⟨h1, h2.symm, h3⟩
  · rintro ⟨h1, h2, h3⟩; exact ⟨h1, h2.symm, h3⟩
set_option maxHeartbeats 4000000 in
theorem begins_any {w : World} {m : Mk} {sl : Value} :
    Calls Try.prog 53 #[.agg (mkA sl m)] w fun e w' => e = .returned (.bool (begF m)) ∧ Below w.heap.size w w' := by
  obtain ⟨cols, o, kk, fr, ld⟩ := m
  unfold mkA begF
  simp only []
  have S0 := Lib.hid (((Below.refl w.heap.size w).alloc (Nat.le_refl _) (.cells #[sl, .int .i64 o, .int .i64 kk, .bool fr, .int .i64 ld] 36)))
  cases fr with
  | false =>
    go_enter Try.func53, Try.ntmps53
    go_wp2_with fail
    go_ret
    exact ⟨rfl, S0.out⟩
  | true =>
    go_enter Try.func53, Try.ntmps53
    go_wp2_with fail
    go_ret
    exact ⟨vbool6 (by simp [BEq.beq]), S0.out⟩
theorem colU_app (c : Int) : ∀ (l : List Nat) (b : Nat), colU c (l ++ [b]) = tabF (colU c l) b
  | [], b => rfl
  | a :: l, b => by
    rw [List.cons_append]
    unfold colU
    exact colU_app _ l b
theorem bl_get {s : ByteArray} {j : Nat} (h : j < s.size) : (bl s)[j]'(by rw [bl_len]; exact h) = (s.get j h).toNat := by simp [bl, ByteArray.get]
set_option maxHeartbeats 8000000 in
theorem column_any {w : World} {c : Int} {s : ByteArray} (h0 : 0 ≤ c) (h1 : c ≤ 4096) (hs : s.size ≤ 65536) :
    Calls Try.prog 54 #[.int .i64 c, .string s] w fun e w' => e = .returned (.int .i64 (colC c (bl s))) ∧ w' = w := by
  have HC : Hid (min (colU c (bl s)) 4096 = colC c (bl s)) := Lib.hid (by rw [col_cap _ _ h0, Int.min_eq_left h1])
  have HX0 : Hid (c = colU c ((bl s).take 0)) := Lib.hid (by simp [colU])
  go_enter Try.func54, Try.ntmps54
  go_wp2_with fail
  go_loopw [0, 8] (fun x i wr => ∃ (j : Nat) (cj : Int), x = .int .i64 cj ∧ i = .int .i64 (j : Nat) ∧ j ≤ s.size ∧ 0 ≤ cj ∧ cj ≤ 4096 + 8 * (j : Int) ∧ Hid (cj = colU c ((bl s).take j)) ∧ wr = w) (fun _ i _ => s.size - (intOf i).toNat)
  case atStart => exact ⟨0, c, rfl, rfl, by omega, by omega, by omega, HX0, rfl⟩
  case round =>
  clear HX0
  obtain ⟨j, cj, rfl, rfl, hj, hc0, hc1, HX, rfl⟩ := hrel
  by_cases hlt : j < s.size
  · have hltI : (j : Int) < (s.size : Int) := by omega
    have hjI : ¬ (j : Int) < 0 := by omega
    have HN : Hid (tabF cj (s.get j hlt).toNat = colU c ((bl s).take (j + 1))) := Lib.hid (by
      have hlt2 : j < (bl s).length := by rw [bl_len]; exact hlt
      rw [List.take_add_one, List.getElem?_eq_getElem hlt2, bl_get hlt]
      show _ = colU c ((bl s).take j ++ [(s.get j hlt).toNat])
      rw [colU_app, ← HX.out])
    obtain ⟨u, hu⟩ : ∃ u, s.get j hlt = u := ⟨_, rfl⟩
    have hsg : s.get j hlt = u := hu
    have hbn : s[j]'hlt = u := hu
    by_cases h9 : u = 9
    · have e9 : (s.get j hlt).toNat = 9 := by rw [hu, h9]; rfl
      have hr0 : 0 ≤ cj % 8 := by omega
      have hb9 : ((u.toNat : Int) == 9) = true := by rw [h9]; rfl
      have HN2 : Hid (cj + (8 - cj % 8) = colU c ((bl s).take (j + 1))) := Lib.hid (by rw [← HN.out, e9]; rfl)
      clear HN HX
      go_wp2_with fail
      go_roundw
      case rel => exact ⟨j + 1, _, rfl, by go_num, by omega, by omega, by omega, HN2, by first | rfl | trivial⟩
      case measure => simp [intOf]; omega
    · have e9 : ¬ (s.get j hlt).toNat = 9 := fun e => h9 (by rw [← hu]; exact UInt8.toNat_inj.1 e)
      have HN2 : Hid (cj + 1 = colU c ((bl s).take (j + 1))) := Lib.hid (by rw [← HN.out]; unfold tabF; rw [if_neg e9])
      have hb9 : ((u.toNat : Int) == 9) = false := by rw [← hu]; simp; omega
      clear HN HX
      go_wp2_with fail
      go_roundw
      case rel => exact ⟨j + 1, _, rfl, by go_num, by omega, by omega, by omega, HN2, by first | rfl | trivial⟩
      case measure => simp [intOf]; omega
  · obtain rfl : j = s.size := by omega
    have hltI : ¬ (s.size : Int) < (s.size : Int) := by omega
    have HY : Hid (cj = colU c (bl s)) := Lib.hid (by rw [HX.out, List.take_of_length_le (by rw [bl_len]; omega)])
    go_wp2_with fail
    go_ret
    refine ⟨?_, rfl⟩
    have e := HC.out
    rw [← HY.out] at e
    rw [← e]
    rfl

theorem eq_nil22 (a : Addr) (n c : Nat) (w : World) : Sem.run Try.prog (binOp BinOp.eql 25 (.slice (some a) n c) (.slice none 0 0)) w = .ok (.bool false) w := by kernel_rfl
/-- slices.Clone of a list that is not empty. -/
theorem clone_any {D : Nat → Prop} {w : World} {l : List Int} {p : Option Addr} {c : Nat} (hne : l ≠ []) (hl : l.length ≤ 1000000) (hD : ∀ b, D b → b < w.heap.size) (h : IV D w l (.slice p l.length c)) :
    Calls Try.prog 51 #[.slice p l.length c] w fun e w' => ∃ v, e = .returned v ∧ w'.ownsRow w.heap.size 3 1 v l.length (zi l) ∧ Below w.heap.size w w' := by
  obtain ⟨i0, hi, hz0, hz1, hz2⟩ := info_parts info3b
  obtain ⟨p', c', he, hh⟩ := h
  injection he with e1 e2 e3
  subst e1 e3
  obtain ⟨b, o, rfl, hDb, hc⟩ := hh hne
  have hw0 := (Below.refl w.heap.size w).alloc (Nat.le_refl _) (.cells #[] 3)
  have HO0 : Hid ((w.alloc (.cells #[] 3)).ownsRow w.heap.size 3 1 (.slice (some ⟨w.heap.size, 0, none⟩) 0 0) 0 []) := Lib.hid ⟨by simp, .inr ⟨w.heap.size, 0, #[], rfl, Nat.le_refl _, heap_alloc_new _ _, Nat.le_refl _, by simp [maxLen], by simp, by simp⟩⟩
  have S0 := Lib.hid hw0
  have HSZ : Hid ((w.alloc (.cells #[] 3)).heap.size = w.heap.size + 1) := Lib.hid (by simp)
  have hbw := hD b hDb
  have HC : Hid (∀ j v, (zi l)[j]? = some v → (w.alloc (.cells #[] 3)).cell? ((⟨b, o, none⟩ : Addr).add j) = some v) := Lib.hid fun j v hj => by
    obtain ⟨hj1, hj2⟩ := List.getElem?_eq_some_iff.1 hj
    have hj3 : j < l.length := by simpa [zi] using hj1
    rw [Addr.add_mid, cell_same (hw0.block b hbw), hc j hj3, ← hj2]
    simp [zi]
  have HZL : Hid ((zi l).length = l.length * 1) := Lib.hid (by simp [zi])
  have HL := Lib.hid hl
  clear hh hc e2 hw0 hD
  go_enter Try.func51, Try.ntmps51
  go_wp2_with (first | rw [eq_nil22] | (at_builtin; refine wpList_append_own_at _ rfl (.tmp 5) (.tmp 6) 25 rfl w.heap.size 3 i0 (.int .i64 0) 1 8 Try.underlying25 hi hz0 hz1 hz2 rfl (by decide) (.slice (some ⟨w.heap.size, 0, none⟩) 0 0) 0 [] rfl ?c0 ⟨b, o, none⟩ l.length c (zi l) rfl HZL.out ?c1 (zi_one l) ?c3 ?c4 ?c5 ?_))
  case c0 => exact HO0.out
  case c1 => exact HC.out
  case c3 => have := HL.out; unfold maxLen; omega
  case c4 => have := HL.out; omega
  case c5 => have := HSZ.out; omega
  intro v1 w1 hown1 hg1 _ _
  have H1 : Hid (w1.ownsRow w.heap.size 3 1 v1 l.length (zi l)) := Lib.hid (by simpa using hown1)
  have L1 : Hid (Below w.heap.size w w1) := Lib.hid (below_grown S0.out hg1 (fun g hg => (World.ownsRow.lt HO0.out g hg).1) (by have := HSZ.out; omega))
  clear hown1 hg1 HO0 S0 HSZ HC HZL
  go_wp2_with fail
  go_ret
  exact ⟨_, rfl, H1.out, L1.out⟩
end Go.Proofs.Ytemkppjdfjoipaa.I1
