/- Package indent. -/
import Derived.Test.YthbfpnbfiliknaaProg
import Derived.Test.YthbfpnbfiliknaaIq
import Derived.Great.BuildSlice
import Derived.WalkKit
import Derived.Maps.OwnSet
import Derived.Maps.OwnOps
import Derived.Maps.Own
import Derived.DeepKeys5
import Derived.BigFrame
import Derived.WalkMore
import Derived.ScopeJumps
import Derived.StillTailTactics
import Derived.Stop.BytesEq
import Derived.WalkLawsBesides
import Derived.WalkSpells
import Derived.Outline
import Derived.Lib.Walk
import Derived.Lib.Hide
import Derived.Lib.Slices
import Derived.Lib.Strings
import Derived.RegionTactic
import Derived.LoopTactic
import Derived.Below
import Derived.IntWalk
import Derived.Deep.QuietTactic
import Derived.BigQuiet
import Derived.Deep.MidRow
import Derived.Maps.AppendAt
import Derived.Laws.Rows
import Derived.Laws.Tables
import Derived.Deep.WholeRow
import Derived.Deep.Cut
import Derived.Deep.CutRange
import Derived.Lib.SliceRun
import Derived.Laws.MakeOwn
import Derived.Deep.RegionLaw
import Derived.Deep.RegionLawGrows
import Derived.Deep.RegionHeld3
import Derived.RegionCalls
import Derived.Deep.RegionWith
import Derived.Deep.Light
import Derived.Laws.CopyOwn
import Derived.Laws.ResultCell
namespace Go.Proofs.Ythbfpnbfiliknaa
set_option linter.unusedSimpArgs false
set_option linter.unusedVariables false
set_option maxRecDepth 100000
open Go.RowKit
/- may, May. -/
set_option maxHeartbeats 16000000 in
theorem may28_any {D : Nat → Prop} {w : World} {m : Mk} {p : Option Addr} {c : Nat} (hl : m.cols.length ≤ 9223372036854775806) (hD : ∀ b, D b → b < w.heap.size) (hiv : IV D w m.cols (.slice p m.cols.length c)) :
    Calls Try.prog 28 #[.agg (mkA (.slice p m.cols.length c) m)] w fun e w' => e = .returned (.bool (mayB m)) ∧ Below w.heap.size w w' := by
  obtain ⟨cols, o, kk, fr, ld⟩ := m
  unfold mkA
  simp only [] at hl hiv ⊢
  have hw0 := (Below.refl w.heap.size w).alloc (Nat.le_refl _) (.cells #[.slice p cols.length c, .int .i64 o, .int .i64 kk, .bool fr, .int .i64 ld] 24)
  have S0 := Lib.hid hw0
  have HIV := Lib.hid (hiv.mono (D := D) (E := D) (w' := w.alloc (.cells #[.slice p cols.length c, .int .i64 o, .int .i64 kk, .bool fr, .int .i64 ld] 24)) (fun b h => h) (fun b hb _ => hw0.block b (hD b hb)))
  have SB := Lib.hid ((Sep.start w).allocAt rfl (.cells #[.slice p cols.length c, .int .i64 o, .int .i64 kk, .bool fr, .int .i64 ld] 24))
  clear hiv hD hw0
  by_cases h1 : cols.length < 1
  · have h1I : (cols.length : Int) < 1 := by omega
    go_enter Try.func28, Try.ntmps28
    have HF : Hid (false = mayB ⟨cols, o, kk, fr, ld⟩) := Lib.hid (by rw [eq_comm, ← Bool.not_eq_true]; intro e; have hm := mayB_may e; have := hm.ne; simp only [] at this; omega)
    go_wp2_with fail
    go_ret
    exact ⟨vbool6 HF.out, S0.out⟩
  have h1I : ¬ (cols.length : Int) < 1 := by omega
  obtain ⟨p', c', he, hh⟩ := HIV.out
  injection he with e1 e2 e3
  subst e1 e3
  obtain ⟨b, of, rfl, hDb, hc⟩ := hh (by intro e; rw [e] at h1; simp at h1)
  have HC : Hid (∀ i, i < cols.length → (w.alloc (.cells #[.slice (some ⟨b, of, none⟩) cols.length c, .int .i64 o, .int .i64 kk, .bool fr, .int .i64 ld] 24)).cell? ⟨b, of + i, none⟩ = some (.int .i64 (cols.getD i 0))) := Lib.hid fun i hi => by rw [hc i hi, getD_lt hi]
  have hb0 := HC.out 0 (by omega)
  rw [Nat.add_zero] at hb0
  clear hh hc HIV e2
  have hlI : (0 : Int) < (cols.length : Int) := by omega
  obtain ⟨x0, hx0⟩ : ∃ x, cols.getD 0 0 = x := ⟨_, rfl⟩
  have HX0 := Lib.hid hx0
  rw [hx0] at hb0
  clear hx0
  by_cases h2 : x0 = 0
  case neg =>
    have h2I : (x0 != 0) = true := by simpa using h2
    go_enter Try.func28, Try.ntmps28
    have HF : Hid (false = mayB ⟨cols, o, kk, fr, ld⟩) := Lib.hid (by rw [eq_comm, ← Bool.not_eq_true]; intro e; have hm := mayB_may e; have := hm.h0; simp only [] at this; rw [HX0.out] at this; exact h2 this)
    go_wp2_with fail
    go_ret
    exact ⟨vbool6 HF.out, S0.out⟩
  have h2I : (x0 != 0) = false := by simpa using h2
  by_cases h3 : o < 0
  · go_enter Try.func28, Try.ntmps28
    have HF : Hid (false = mayB ⟨cols, o, kk, fr, ld⟩) := Lib.hid (by rw [eq_comm, ← Bool.not_eq_true]; intro e; have hm := mayB_may e; have := hm.o0; simp only [] at this; omega)
    go_wp2_with fail
    go_ret
    exact ⟨vbool6 HF.out, S0.out⟩
  by_cases h4 : 65536 < o
  · go_enter Try.func28, Try.ntmps28
    have HF : Hid (false = mayB ⟨cols, o, kk, fr, ld⟩) := Lib.hid (by rw [eq_comm, ← Bool.not_eq_true]; intro e; have hm := mayB_may e; have := hm.o1; simp only [] at this; omega)
    go_wp2_with fail
    go_ret
    exact ⟨vbool6 HF.out, S0.out⟩
  by_cases h5 : ld < 0
  · go_enter Try.func28, Try.ntmps28
    have HF : Hid (false = mayB ⟨cols, o, kk, fr, ld⟩) := Lib.hid (by rw [eq_comm, ← Bool.not_eq_true]; intro e; have hm := mayB_may e; have := hm.l0; simp only [] at this; omega)
    go_wp2_with fail
    go_ret
    exact ⟨vbool6 HF.out, S0.out⟩
  by_cases h6 : 65536 < ld
  · go_enter Try.func28, Try.ntmps28
    have HF : Hid (false = mayB ⟨cols, o, kk, fr, ld⟩) := Lib.hid (by rw [eq_comm, ← Bool.not_eq_true]; intro e; have hm := mayB_may e; have := hm.l1; simp only [] at this; omega)
    go_wp2_with fail
    go_ret
    exact ⟨vbool6 HF.out, S0.out⟩
  by_cases h7 : kk < 0
  · go_enter Try.func28, Try.ntmps28
    have HF : Hid (false = mayB ⟨cols, o, kk, fr, ld⟩) := Lib.hid (by rw [eq_comm, ← Bool.not_eq_true]; intro e; have hm := mayB_may e; have := hm.c0; simp only [] at this; omega)
    go_wp2_with fail
    go_ret
    exact ⟨vbool6 HF.out, S0.out⟩
  by_cases h8 : 4096 < kk
  · go_enter Try.func28, Try.ntmps28
    have HF : Hid (false = mayB ⟨cols, o, kk, fr, ld⟩) := Lib.hid (by rw [eq_comm, ← Bool.not_eq_true]; intro e; have hm := mayB_may e; have := hm.c1; simp only [] at this; omega)
    go_wp2_with fail
    go_ret
    exact ⟨vbool6 HF.out, S0.out⟩
  have HB : Hid (0 ≤ o ∧ o ≤ 65536 ∧ 0 ≤ ld ∧ ld ≤ 65536 ∧ 0 ≤ kk ∧ kk ≤ 4096) := Lib.hid ⟨by omega, by omega, by omega, by omega, by omega, by omega⟩
  have HR0 : Hid (Rk cols 1 ∧ ∀ i, 0 < i → i < 1 → cols.getD i 0 ≤ 4096) := Lib.hid ⟨Rk.one (by rw [HX0.out, h2]), fun i h1 h2 => by omega⟩
  go_enter Try.func28, Try.ntmps28
  go_wp2_with fail
  go_loopw [3] (fun i wr => ∃ j : Nat, i = .int .i64 ((j + 1 : Nat) : Int) ∧ j + 1 ≤ cols.length ∧ Hid (Rk cols (j + 1) ∧ ∀ i, 0 < i → i < j + 1 → cols.getD i 0 ≤ 4096) ∧ Hid (∀ a, wr.cell? a = (w.alloc (.cells #[.slice (some ⟨b, of, none⟩) cols.length c, .int .i64 o, .int .i64 kk, .bool fr, .int .i64 ld] 24)).cell? a) ∧ Hid (Below w.heap.size w wr)) (fun i _ => cols.length - (intOf i).toNat)
  case atStart => exact ⟨0, rfl, by omega, HR0, Lib.hid fun _ => rfl, S0⟩
  case round =>
  clear HR0 hb0
  obtain ⟨j, rfl, hj, HR, HQ, HSW⟩ := hrel
  obtain ⟨W, rfl⟩ : ∃ W : World, W = wr := ⟨_, rfl⟩
  have kb : W.cell? ⟨w.heap.size, 0, none⟩ = some (.slice (some ⟨b, of, none⟩) cols.length c) := (HQ.out _).trans (SB.out.boxAt 0)
  by_cases hlt : j + 1 < cols.length
  · have hltI : ((j + 1 : Nat) : Int) < (cols.length : Int) := by omega
    have hj0 : ¬ ((j + 1 : Nat) : Int) < 0 := by omega
    have hp1 : ((j + 1 : Nat) : Int) - 1 = (j : Int) := by omega
    have hj1 : ¬ (j : Int) < 0 := by omega
    have hj2 : (j : Int) < (cols.length : Int) := by omega
    have kx : W.cell? ⟨b, of + (j + 1), none⟩ = some (.int .i64 (cols.getD (j + 1) 0)) := (HQ.out _).trans (HC.out _ hlt)
    have ky : W.cell? ⟨b, of + j, none⟩ = some (.int .i64 (cols.getD j 0)) := (HQ.out _).trans (HC.out _ (by omega))
    obtain ⟨x, hx⟩ : ∃ x, cols.getD (j + 1) 0 = x := ⟨_, rfl⟩
    obtain ⟨y, hy⟩ : ∃ y, cols.getD j 0 = y := ⟨_, rfl⟩
    have HXY := Lib.hid (And.intro hx hy)
    rw [hx] at kx
    rw [hy] at ky
    clear hx hy
    by_cases hxy : x ≤ y
    · have HF : Hid (false = mayB ⟨cols, o, kk, fr, ld⟩) := Lib.hid (by rw [eq_comm, ← Bool.not_eq_true]; intro e; have hm := mayB_may e; have := hm.up j hlt; simp only [] at this; rw [HXY.out.1, HXY.out.2] at this; omega)
      go_upto_region 6 with fail
      go_quiet (fail)
      go_wp2_with fail
      go_ret
      exact ⟨vbool6 HF.out, below_drewN HSW.out _⟩
    · by_cases hx4 : 4096 < x
      · have HF : Hid (false = mayB ⟨cols, o, kk, fr, ld⟩) := Lib.hid (by rw [eq_comm, ← Bool.not_eq_true]; intro e; have hm := mayB_may e; have := (hm.at (i := j + 1) hlt).2.1; simp only [] at this; rw [HXY.out.1] at this; omega)
        go_upto_region 6 with fail
        go_quiet (fail)
        go_wp2_with fail
        go_ret
        exact ⟨vbool6 HF.out, below_drewN HSW.out _⟩
      · have HR2 : Hid (Rk cols (j + 1 + 1) ∧ ∀ i, 0 < i → i < j + 1 + 1 → cols.getD i 0 ≤ 4096) := Lib.hid ⟨HR.out.1.next (by rw [HXY.out.1, HXY.out.2]; omega), fun i h1 h2 => by
          by_cases e : i = j + 1
          · subst e; rw [HXY.out.1]; omega
          · exact HR.out.2 i h1 (by omega)⟩
        go_upto_region 6 with fail
        go_quiet (fail)
        go_wp2_with fail
        go_roundw
        case rel => exact ⟨j + 1, by go_num, by omega, HR2, Lib.hid HQ.out, Lib.hid (below_drewN HSW.out _)⟩
        case measure => simp [intOf]; omega
  · obtain hj : j + 1 = cols.length := by omega
    have hltI : ¬ ((j + 1 : Nat) : Int) < (cols.length : Int) := by omega
    have HF : Hid (true = mayB ⟨cols, o, kk, fr, ld⟩) := Lib.hid (by
      symm
      refine may_mayB ⟨by simp only []; omega, by simp only []; rw [HX0.out, h2], fun i hi => ?_, ?_, HB.out.1, HB.out.2.1, HB.out.2.2.1, HB.out.2.2.2.1, HB.out.2.2.2.2.1, HB.out.2.2.2.2.2⟩
      · exact HR.out.1.2 i (by simp only [] at hi; omega)
      · simp only []
        rcases Nat.eq_zero_or_pos j with rfl | h
        · rw [← hj]; simp only [Nat.zero_add, Nat.sub_self]; rw [HX0.out, h2]; decide
        · exact HR.out.2 (cols.length - 1) (by omega) (by omega))
    clear HR HC
    go_wp2_with fail
    go_ret
    exact ⟨vbool6 HF.out, HSW.out⟩
set_option maxHeartbeats 16000000 in
theorem may33_any {D : Nat → Prop} {w : World} {m : Mk} {p : Option Addr} {c : Nat} (hl : m.cols.length ≤ 9223372036854775806) (hD : ∀ b, D b → b < w.heap.size) (hiv : IV D w m.cols (.slice p m.cols.length c)) :
    Calls Try.prog 33 #[.agg (mkA (.slice p m.cols.length c) m)] w fun e w' => e = .returned (.bool (mayB m)) ∧ Below w.heap.size w w' := by
  obtain ⟨cols, o, kk, fr, ld⟩ := m
  unfold mkA
  simp only [] at hl hiv ⊢
  have hw0 := (Below.refl w.heap.size w).alloc (Nat.le_refl _) (.cells #[.slice p cols.length c, .int .i64 o, .int .i64 kk, .bool fr, .int .i64 ld] 24)
  have S0 := Lib.hid hw0
  have HIV := Lib.hid (hiv.mono (D := D) (E := D) (w' := w.alloc (.cells #[.slice p cols.length c, .int .i64 o, .int .i64 kk, .bool fr, .int .i64 ld] 24)) (fun b h => h) (fun b hb _ => hw0.block b (hD b hb)))
  have SB := Lib.hid ((Sep.start w).allocAt rfl (.cells #[.slice p cols.length c, .int .i64 o, .int .i64 kk, .bool fr, .int .i64 ld] 24))
  clear hiv hD hw0
  by_cases h1 : cols.length < 1
  · have h1I : (cols.length : Int) < 1 := by omega
    go_enter Try.func33, Try.ntmps33
    have HF : Hid (false = mayB ⟨cols, o, kk, fr, ld⟩) := Lib.hid (by rw [eq_comm, ← Bool.not_eq_true]; intro e; have hm := mayB_may e; have := hm.ne; simp only [] at this; omega)
    go_wp2_with fail
    go_ret
    exact ⟨vbool6 HF.out, S0.out⟩
  have h1I : ¬ (cols.length : Int) < 1 := by omega
  obtain ⟨p', c', he, hh⟩ := HIV.out
  injection he with e1 e2 e3
  subst e1 e3
  obtain ⟨b, of, rfl, hDb, hc⟩ := hh (by intro e; rw [e] at h1; simp at h1)
  have HC : Hid (∀ i, i < cols.length → (w.alloc (.cells #[.slice (some ⟨b, of, none⟩) cols.length c, .int .i64 o, .int .i64 kk, .bool fr, .int .i64 ld] 24)).cell? ⟨b, of + i, none⟩ = some (.int .i64 (cols.getD i 0))) := Lib.hid fun i hi => by rw [hc i hi, getD_lt hi]
  have hb0 := HC.out 0 (by omega)
  rw [Nat.add_zero] at hb0
  clear hh hc HIV e2
  have hlI : (0 : Int) < (cols.length : Int) := by omega
  obtain ⟨x0, hx0⟩ : ∃ x, cols.getD 0 0 = x := ⟨_, rfl⟩
  have HX0 := Lib.hid hx0
  rw [hx0] at hb0
  clear hx0
  by_cases h2 : x0 = 0
  case neg =>
    have h2I : (x0 != 0) = true := by simpa using h2
    go_enter Try.func33, Try.ntmps33
    have HF : Hid (false = mayB ⟨cols, o, kk, fr, ld⟩) := Lib.hid (by rw [eq_comm, ← Bool.not_eq_true]; intro e; have hm := mayB_may e; have := hm.h0; simp only [] at this; rw [HX0.out] at this; exact h2 this)
    go_wp2_with fail
    go_ret
    exact ⟨vbool6 HF.out, S0.out⟩
  have h2I : (x0 != 0) = false := by simpa using h2
  by_cases h3 : o < 0
  · go_enter Try.func33, Try.ntmps33
    have HF : Hid (false = mayB ⟨cols, o, kk, fr, ld⟩) := Lib.hid (by rw [eq_comm, ← Bool.not_eq_true]; intro e; have hm := mayB_may e; have := hm.o0; simp only [] at this; omega)
    go_wp2_with fail
    go_ret
    exact ⟨vbool6 HF.out, S0.out⟩
  by_cases h4 : 65536 < o
  · go_enter Try.func33, Try.ntmps33
    have HF : Hid (false = mayB ⟨cols, o, kk, fr, ld⟩) := Lib.hid (by rw [eq_comm, ← Bool.not_eq_true]; intro e; have hm := mayB_may e; have := hm.o1; simp only [] at this; omega)
    go_wp2_with fail
    go_ret
    exact ⟨vbool6 HF.out, S0.out⟩
  by_cases h5 : ld < 0
  · go_enter Try.func33, Try.ntmps33
    have HF : Hid (false = mayB ⟨cols, o, kk, fr, ld⟩) := Lib.hid (by rw [eq_comm, ← Bool.not_eq_true]; intro e; have hm := mayB_may e; have := hm.l0; simp only [] at this; omega)
    go_wp2_with fail
    go_ret
    exact ⟨vbool6 HF.out, S0.out⟩
  by_cases h6 : 65536 < ld
  · go_enter Try.func33, Try.ntmps33
    have HF : Hid (false = mayB ⟨cols, o, kk, fr, ld⟩) := Lib.hid (by rw [eq_comm, ← Bool.not_eq_true]; intro e; have hm := mayB_may e; have := hm.l1; simp only [] at this; omega)
    go_wp2_with fail
    go_ret
    exact ⟨vbool6 HF.out, S0.out⟩
  by_cases h7 : kk < 0
  · go_enter Try.func33, Try.ntmps33
    have HF : Hid (false = mayB ⟨cols, o, kk, fr, ld⟩) := Lib.hid (by rw [eq_comm, ← Bool.not_eq_true]; intro e; have hm := mayB_may e; have := hm.c0; simp only [] at this; omega)
    go_wp2_with fail
    go_ret
    exact ⟨vbool6 HF.out, S0.out⟩
  by_cases h8 : 4096 < kk
  · go_enter Try.func33, Try.ntmps33
    have HF : Hid (false = mayB ⟨cols, o, kk, fr, ld⟩) := Lib.hid (by rw [eq_comm, ← Bool.not_eq_true]; intro e; have hm := mayB_may e; have := hm.c1; simp only [] at this; omega)
    go_wp2_with fail
    go_ret
    exact ⟨vbool6 HF.out, S0.out⟩
  have HB : Hid (0 ≤ o ∧ o ≤ 65536 ∧ 0 ≤ ld ∧ ld ≤ 65536 ∧ 0 ≤ kk ∧ kk ≤ 4096) := Lib.hid ⟨by omega, by omega, by omega, by omega, by omega, by omega⟩
  have HR0 : Hid (Rk cols 1 ∧ ∀ i, 0 < i → i < 1 → cols.getD i 0 ≤ 4096) := Lib.hid ⟨Rk.one (by rw [HX0.out, h2]), fun i h1 h2 => by omega⟩
  go_enter Try.func33, Try.ntmps33
  go_wp2_with fail
  go_loopw [3] (fun i wr => ∃ j : Nat, i = .int .i64 ((j + 1 : Nat) : Int) ∧ j + 1 ≤ cols.length ∧ Hid (Rk cols (j + 1) ∧ ∀ i, 0 < i → i < j + 1 → cols.getD i 0 ≤ 4096) ∧ Hid (∀ a, wr.cell? a = (w.alloc (.cells #[.slice (some ⟨b, of, none⟩) cols.length c, .int .i64 o, .int .i64 kk, .bool fr, .int .i64 ld] 24)).cell? a) ∧ Hid (Below w.heap.size w wr)) (fun i _ => cols.length - (intOf i).toNat)
  case atStart => exact ⟨0, rfl, by omega, HR0, Lib.hid fun _ => rfl, S0⟩
  case round =>
  clear HR0 hb0
  obtain ⟨j, rfl, hj, HR, HQ, HSW⟩ := hrel
  obtain ⟨W, rfl⟩ : ∃ W : World, W = wr := ⟨_, rfl⟩
  have kb : W.cell? ⟨w.heap.size, 0, none⟩ = some (.slice (some ⟨b, of, none⟩) cols.length c) := (HQ.out _).trans (SB.out.boxAt 0)
  by_cases hlt : j + 1 < cols.length
  · have hltI : ((j + 1 : Nat) : Int) < (cols.length : Int) := by omega
    have hj0 : ¬ ((j + 1 : Nat) : Int) < 0 := by omega
    have hp1 : ((j + 1 : Nat) : Int) - 1 = (j : Int) := by omega
    have hj1 : ¬ (j : Int) < 0 := by omega
    have hj2 : (j : Int) < (cols.length : Int) := by omega
    have kx : W.cell? ⟨b, of + (j + 1), none⟩ = some (.int .i64 (cols.getD (j + 1) 0)) := (HQ.out _).trans (HC.out _ hlt)
    have ky : W.cell? ⟨b, of + j, none⟩ = some (.int .i64 (cols.getD j 0)) := (HQ.out _).trans (HC.out _ (by omega))
    obtain ⟨x, hx⟩ : ∃ x, cols.getD (j + 1) 0 = x := ⟨_, rfl⟩
    obtain ⟨y, hy⟩ : ∃ y, cols.getD j 0 = y := ⟨_, rfl⟩
    have HXY := Lib.hid (And.intro hx hy)
    rw [hx] at kx
    rw [hy] at ky
    clear hx hy
    by_cases hxy : x ≤ y
    · have HF : Hid (false = mayB ⟨cols, o, kk, fr, ld⟩) := Lib.hid (by rw [eq_comm, ← Bool.not_eq_true]; intro e; have hm := mayB_may e; have := hm.up j hlt; simp only [] at this; rw [HXY.out.1, HXY.out.2] at this; omega)
      go_upto_region 6 with fail
      go_quiet (fail)
      go_wp2_with fail
      go_ret
      exact ⟨vbool6 HF.out, below_drewN HSW.out _⟩
    · by_cases hx4 : 4096 < x
      · have HF : Hid (false = mayB ⟨cols, o, kk, fr, ld⟩) := Lib.hid (by rw [eq_comm, ← Bool.not_eq_true]; intro e; have hm := mayB_may e; have := (hm.at (i := j + 1) hlt).2.1; simp only [] at this; rw [HXY.out.1] at this; omega)
        go_upto_region 6 with fail
        go_quiet (fail)
        go_wp2_with fail
        go_ret
        exact ⟨vbool6 HF.out, below_drewN HSW.out _⟩
      · have HR2 : Hid (Rk cols (j + 1 + 1) ∧ ∀ i, 0 < i → i < j + 1 + 1 → cols.getD i 0 ≤ 4096) := Lib.hid ⟨HR.out.1.next (by rw [HXY.out.1, HXY.out.2]; omega), fun i h1 h2 => by
          by_cases e : i = j + 1
          · subst e; rw [HXY.out.1]; omega
          · exact HR.out.2 i h1 (by omega)⟩
        go_upto_region 6 with fail
        go_quiet (fail)
        go_wp2_with fail
        go_roundw
        case rel => exact ⟨j + 1, by go_num, by omega, HR2, Lib.hid HQ.out, Lib.hid (below_drewN HSW.out _)⟩
        case measure => simp [intOf]; omega
  · obtain hj : j + 1 = cols.length := by omega
    have hltI : ¬ ((j + 1 : Nat) : Int) < (cols.length : Int) := by omega
    have HF : Hid (true = mayB ⟨cols, o, kk, fr, ld⟩) := Lib.hid (by
      symm
      refine may_mayB ⟨by simp only []; omega, by simp only []; rw [HX0.out, h2], fun i hi => ?_, ?_, HB.out.1, HB.out.2.1, HB.out.2.2.1, HB.out.2.2.2.1, HB.out.2.2.2.2.1, HB.out.2.2.2.2.2⟩
      · exact HR.out.1.2 i (by simp only [] at hi; omega)
      · simp only []
        rcases Nat.eq_zero_or_pos j with rfl | h
        · rw [← hj]; simp only [Nat.zero_add, Nat.sub_self]; rw [HX0.out, h2]; decide
        · exact HR.out.2 (cols.length - 1) (by omega) (by omega))
    clear HR HC
    go_wp2_with fail
    go_ret
    exact ⟨vbool6 HF.out, HSW.out⟩
end Go.Proofs.Ythbfpnbfiliknaa
