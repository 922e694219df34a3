/- Texts of package regs, one behind the other. -/
import Derived.Test.YtemkppjdfjoipaaProg
import Derived.Test.YtemkppjdfjoipaaIp
import Derived.Great.BuildSlice
import Derived.WalkKit
import Derived.Maps.OwnSet
import Derived.Maps.OwnOps
import Derived.Maps.Own
import Derived.DeepKeys5
import Derived.BigFrame
import Derived.WalkMore
import Derived.ScopeJumps
import Derived.StillTailTactics
import Derived.Stop.BytesEq
import Derived.WalkLawsBesides
import Derived.WalkSpells
import Derived.Outline
import Derived.Lib.Walk
import Derived.Lib.Hide
import Derived.Lib.Slices
import Derived.Lib.Strings
import Derived.RegionTactic
import Derived.LoopTactic
import Derived.Below
import Derived.IntWalk
import Derived.Deep.QuietTactic
import Derived.BigQuiet
import Derived.Deep.MidRow
import Derived.Maps.AppendAt
import Derived.Laws.Rows
import Derived.Laws.Tables
import Derived.Deep.WholeRow
import Derived.Deep.Cut
import Derived.Deep.CutRange
import Derived.Lib.SliceRun
import Derived.Laws.MakeOwn
import Derived.Deep.RegionLaw
import Derived.Deep.RegionLawGrows
import Derived.Deep.RegionHeld3
import Derived.RegionCalls
import Derived.Deep.RegionWith
import Derived.Deep.Light
import Derived.Laws.CopyOwn
import Derived.Laws.ResultCell
section
/- Package indent. -/
namespace Go.Proofs.Ytemkppjdfjoipaa.I1
set_option linter.unusedSimpArgs false
set_option linter.unusedVariables false
set_option maxRecDepth 100000
open Go.RowKit
/- alive. -/
def aS : ByteArray := ⟨#[32, 32, 32, 32, 97, 10, 32, 32, 98]⟩
def aR : List Rw := [(25, 4, 0), (0, 1, 0), (19, 1, 0), (25, 2, 0), (0, 1, 0)]
def aT : List Tk := [(20, 4, 0), (0, 0, 1), (19, 0, 1), (21, 2, 0), (23, 0, 0), (0, 0, 1), (19, 0, 0), (22, 0, 0)]
theorem alive_q : (allQ aS aR).1.2.toks = aT ∧ (allQ aS aR).2 = 0 := by
  constructor
  · kernel_rfl
  · kernel_rfl
theorem rw_block {w : World} {b : Nat} {cs : Array Value} {e : TypeId} {l : List Rw} (h : w.heap[b]? = some (.cells cs e (0, 0))) (hc : cs.toList = rwL l) {n : Nat} (hn : l.length = n) : RW (fun x => x = b) w l (.slice (some ⟨b, 0, none⟩) n n) := by
  subst hn
  refine ⟨_, _, rfl, (fun h => by cases h), fun _ => ⟨b, 0, rfl, rfl, fun j u hu => ?_⟩⟩
  rw [Nat.zero_add, cell_of_row w b j cs e (0, 0) h, ← hu, ← hc]; simp
set_option maxHeartbeats 8000000 in
theorem alive_any {w : World} : Calls Try.prog 15 #[] w fun e w' => e = .returned (.bool true) ∧ Below w.heap.size w w' := by
  have hz46 := zero46
  obtain ⟨b0, hb0⟩ : ∃ b, w.heap.size = b := ⟨_, rfl⟩
  have S0 := Lib.hid ((Sep.start w).allocAt hb0 (.cells #[.int .i64 25, .int .i64 4, .int .i64 0, .int .i64 0, .int .i64 1, .int .i64 0, .int .i64 19, .int .i64 1, .int .i64 0, .int .i64 25, .int .i64 2, .int .i64 0, .int .i64 0, .int .i64 1, .int .i64 0] 38))
  go_enter Try.func15, Try.ntmps15
  go_upto_region 2 with fail
  refine at_world (fun y => Sep w.heap.size w y [.box b0 (.cells #[.int .i64 25, .int .i64 4, .int .i64 0, .int .i64 0, .int .i64 1, .int .i64 0, .int .i64 19, .int .i64 1, .int .i64 0, .int .i64 25, .int .i64 2, .int .i64 0, .int .i64 0, .int .i64 1, .int .i64 0] 38)]) S0.out fun y hy => ?_
  have S1 := Lib.hid hy
  have HRW := Lib.hid (rw_block (l := aR) hy.at.2 rfl (n := 5) rfl)
  have HALL := Lib.hid (all_any (B := y.heap.size) (w0 := y) (w := y) (XX := []) (s := aS) (lst := aR) (by decide) (by decide) (fun b hb => by rw [hb]; exact (It.lt hy.at rfl).2) HRW.out (Sep.start y))
  have hq := alive_q
  obtain ⟨⟨⟨q1, ⟨q2, q3, q4⟩⟩, q5⟩, hQ⟩ : ∃ z, allQ aS aR = z := ⟨_, rfl⟩
  rw [hQ] at HALL hq
  simp only [] at hq
  obtain ⟨rfl, rfl⟩ := hq
  clear hQ S0 hy HRW
  go_wp2_with (first | (refine HALL.out.mono ?_) | fail)
  rintro _ w2 ⟨v1, v2, v3, v4, vs, rfl, hvs, hs2⟩
  simp only [] at hvs hs2 ⊢
  obtain ⟨p1, c1, rfl⟩ := row_form hs2.at
  obtain ⟨p2, c2, rfl⟩ := row_form hs2.tl.at
  obtain ⟨p3, c3, rfl⟩ := row_form hs2.tl.tl.at
  obtain ⟨p4, c4, rfl⟩ : ∃ p c, v4 = .slice p 8 c := row_form hs2.tl.tl.tl.at
  have hT : w2.ownsRow y.heap.size 40 3 (.slice p4 8 c4) aT.length (tkL aT) := hs2.tl.tl.tl.at
  have hbe : Below w.heap.size w w2 := S1.out.bel.trans (hs2.bel.mono S1.out.sz)
  have hsz2 : w.heap.size ≤ w2.heap.size := hbe.size
  obtain ⟨b2, hb2⟩ : ∃ b, w2.heap.size = b := ⟨_, rfl⟩
  obtain ⟨l1, hl1⟩ : ∃ z, q1.length = z := ⟨_, rfl⟩
  obtain ⟨l2, hl2⟩ : ∃ z, q2.length = z := ⟨_, rfl⟩
  obtain ⟨l3, hl3⟩ : ∃ z, q3.length = z := ⟨_, rfl⟩
  rw [hl1, hl2, hl3]
  have S2 := Lib.hid ((Sep.mk hbe hsz2 (fun x hx => (by obtain rfl := List.mem_singleton.1 hx; exact row_base hT S1.out.sz)) (List.pairwise_singleton _ _) : Sep w.heap.size w w2 [rT (.slice p4 8 c4) aT]).allocAt hb2 (.cells #[.slice p1 l1 c1, .slice p2 l2 c2, .slice p3 l3 c3, .slice p4 8 c4] 28))
  clear hs2 hvs hT hbe hsz2 S1 HALL hl1 hl2 hl3
  go_upto_region 3 with fail
  refine at_world (fun y => Sep w.heap.size w y [bxL b2 #[.slice p1 l1 c1, .slice p2 l2 c2, .slice p3 l3 c3, .slice p4 8 c4], rT (.slice p4 8 c4) aT]) S2.out fun y3 hy3 => ?_
  obtain ⟨b3, hb3⟩ : ∃ b, y3.heap.size = b := ⟨_, rfl⟩
  have S3 := Lib.hid (hy3.allocAt hb3 (.cells #[.int .i64 20, .int .i64 4, .int .i64 0, .int .i64 0, .int .i64 0, .int .i64 1, .int .i64 19, .int .i64 0, .int .i64 1, .int .i64 21, .int .i64 2, .int .i64 0, .int .i64 23, .int .i64 0, .int .i64 0, .int .i64 0, .int .i64 0, .int .i64 1, .int .i64 19, .int .i64 0, .int .i64 0, .int .i64 22, .int .i64 0, .int .i64 0] 40))
  clear S2 hy3
  go_upto_region 4 with fail
  refine at_world (fun y => Sep w.heap.size w y [.box b3 (.cells #[.int .i64 20, .int .i64 4, .int .i64 0, .int .i64 0, .int .i64 0, .int .i64 1, .int .i64 19, .int .i64 0, .int .i64 1, .int .i64 21, .int .i64 2, .int .i64 0, .int .i64 23, .int .i64 0, .int .i64 0, .int .i64 0, .int .i64 0, .int .i64 1, .int .i64 19, .int .i64 0, .int .i64 0, .int .i64 22, .int .i64 0, .int .i64 0] 40), bxL b2 #[.slice p1 l1 c1, .slice p2 l2 c2, .slice p3 l3 c3, .slice p4 8 c4], rT (.slice p4 8 c4) aT]) S3.out fun y4 hy4 => ?_
  have S4 := Lib.hid hy4
  have k3 : y4.cell? ⟨b2, 3, none⟩ = some (.slice p4 8 c4) := hy4.tl.boxAt 3
  have HST := Lib.hid (sametok_any (w := y4) (l := aT) (fun b hb => hb.2.1) (fun b hb => by rw [hb]; exact (It.lt hy4.at rfl).2) (row_wv hy4.tl.tl.at) (rw_block (l := aT) hy4.at.2 rfl (n := 8) rfl).wv (by decide))
  have b00 : ((0 : Int) == 0) = true := rfl
  clear S3 hy4
  go_wp2_with (first | (refine HST.out.mono ?_) | fail)
  rintro _ w5 ⟨rfl, hb⟩
  have S5 := Lib.hid (S4.out.up hb)
  clear hb S4 HST k3
  go_wp2_with fail
  refine (first_any (B := w.heap.size) (w0 := w) (X := []) (S5.out.sub (List.nil_sublist _))).mono ?_
  rintro _ w6 ⟨v0, rfl, hs6⟩
  obtain ⟨p0, c0, rfl⟩ : ∃ p c, v0 = .slice p 1 c := row_form hs6.at
  unfold mkA m0
  simp only []
  obtain ⟨b6, hb6⟩ : ∃ b, w6.heap.size = b := ⟨_, rfl⟩
  have S6 := Lib.hid (hs6.allocAt hb6 (.cells #[.int .i64 0] 3))
  have HW6 : Hid (IV (fun x => x = b6) (w6.alloc (.cells #[.int .i64 0] 3)) [0] (.slice (some ⟨b6, 0, none⟩) 1 1)) := Lib.hid ⟨_, _, rfl, fun _ => ⟨b6, 0, rfl, rfl, fun i hi => by
    have : i = 0 := by simp at hi; omega
    subst this
    exact S6.out.boxAt 0⟩⟩
  have HSM := Lib.hid (samemark_any (m := m0) (by decide) (fun b hb => hb.2.1) (fun b hb => by rw [hb]; exact (It.lt S6.out.at rfl).2) (own_iv S6.out.tl.at) HW6.out)
  unfold mkA m0 at HSM
  simp only [] at HSM
  clear hs6 S5 HW6
  go_wp2_with fail
  refine HSM.out.mono ?_
  rintro _ w7 ⟨rfl, hb⟩
  have S7 := Lib.hid (S6.out.up hb)
  clear hb S6 HSM
  go_wp2_with fail
  go_ret
  exact ⟨rfl, S7.out.bel⟩
end Go.Proofs.Ytemkppjdfjoipaa.I1
end
section
/- Package indent. -/
namespace Go.Proofs.Ytemkppjdfjoipaa.I1
set_option linter.unusedSimpArgs false
set_option linter.unusedVariables false
set_option maxRecDepth 100000
open Go.RowKit
/- may, May. -/
set_option maxHeartbeats 16000000 in
theorem may33_any {D : Nat → Prop} {w : World} {m : Mk} {p : Option Addr} {c : Nat} (hl : m.cols.length ≤ 9223372036854775806) (hD : ∀ b, D b → b < w.heap.size) (hiv : IV D w m.cols (.slice p m.cols.length c)) :
    Calls Try.prog 57 #[.agg (mkA (.slice p m.cols.length c) m)] w fun e w' => e = .returned (.bool (mayB m)) ∧ Below w.heap.size w w' := by
  obtain ⟨cols, o, kk, fr, ld⟩ := m
  unfold mkA
  simp only [] at hl hiv ⊢
  have hw0 := (Below.refl w.heap.size w).alloc (Nat.le_refl _) (.cells #[.slice p cols.length c, .int .i64 o, .int .i64 kk, .bool fr, .int .i64 ld] 36)
  have S0 := Lib.hid hw0
  have HIV := Lib.hid (hiv.mono (D := D) (E := D) (w' := w.alloc (.cells #[.slice p cols.length c, .int .i64 o, .int .i64 kk, .bool fr, .int .i64 ld] 36)) (fun b h => h) (fun b hb _ => hw0.block b (hD b hb)))
  have SB := Lib.hid ((Sep.start w).allocAt rfl (.cells #[.slice p cols.length c, .int .i64 o, .int .i64 kk, .bool fr, .int .i64 ld] 36))
  clear hiv hD hw0
  by_cases h1 : cols.length < 1
  · have h1I : (cols.length : Int) < 1 := by omega
    go_enter Try.func57, Try.ntmps57
    have HF : Hid (false = mayB ⟨cols, o, kk, fr, ld⟩) := Lib.hid (by rw [eq_comm, ← Bool.not_eq_true]; intro e; have hm := mayB_may e; have := hm.ne; simp only [] at this; omega)
    go_wp2_with fail
    go_ret
    exact ⟨vbool6 HF.out, S0.out⟩
  have h1I : ¬ (cols.length : Int) < 1 := by omega
  obtain ⟨p', c', he, hh⟩ := HIV.out
  injection he with e1 e2 e3
  subst e1 e3
  obtain ⟨b, of, rfl, hDb, hc⟩ := hh (by intro e; rw [e] at h1; simp at h1)
  have HC : Hid (∀ i, i < cols.length → (w.alloc (.cells #[.slice (some ⟨b, of, none⟩) cols.length c, .int .i64 o, .int .i64 kk, .bool fr, .int .i64 ld] 36)).cell? ⟨b, of + i, none⟩ = some (.int .i64 (cols.getD i 0))) := Lib.hid fun i hi => by rw [hc i hi, getD_lt hi]
  have hb0 := HC.out 0 (by omega)
  rw [Nat.add_zero] at hb0
  clear hh hc HIV e2
  have hlI : (0 : Int) < (cols.length : Int) := by omega
  obtain ⟨x0, hx0⟩ : ∃ x, cols.getD 0 0 = x := ⟨_, rfl⟩
  have HX0 := Lib.hid hx0
  rw [hx0] at hb0
  clear hx0
  by_cases h2 : x0 = 0
  case neg =>
    have h2I : (x0 != 0) = true := by simpa using h2
    go_enter Try.func57, Try.ntmps57
    have HF : Hid (false = mayB ⟨cols, o, kk, fr, ld⟩) := Lib.hid (by rw [eq_comm, ← Bool.not_eq_true]; intro e; have hm := mayB_may e; have := hm.h0; simp only [] at this; rw [HX0.out] at this; exact h2 this)
    go_wp2_with fail
    go_ret
    exact ⟨vbool6 HF.out, S0.out⟩
  have h2I : (x0 != 0) = false := by simpa using h2
  by_cases h3 : o < 0
  · go_enter Try.func57, Try.ntmps57
    have HF : Hid (false = mayB ⟨cols, o, kk, fr, ld⟩) := Lib.hid (by rw [eq_comm, ← Bool.not_eq_true]; intro e; have hm := mayB_may e; have := hm.o0; simp only [] at this; omega)
    go_wp2_with fail
    go_ret
    exact ⟨vbool6 HF.out, S0.out⟩
  by_cases h4 : 65536 < o
  · go_enter Try.func57, Try.ntmps57
    have HF : Hid (false = mayB ⟨cols, o, kk, fr, ld⟩) := Lib.hid (by rw [eq_comm, ← Bool.not_eq_true]; intro e; have hm := mayB_may e; have := hm.o1; simp only [] at this; omega)
    go_wp2_with fail
    go_ret
    exact ⟨vbool6 HF.out, S0.out⟩
  by_cases h5 : ld < 0
  · go_enter Try.func57, Try.ntmps57
    have HF : Hid (false = mayB ⟨cols, o, kk, fr, ld⟩) := Lib.hid (by rw [eq_comm, ← Bool.not_eq_true]; intro e; have hm := mayB_may e; have := hm.l0; simp only [] at this; omega)
    go_wp2_with fail
    go_ret
    exact ⟨vbool6 HF.out, S0.out⟩
  by_cases h6 : 65536 < ld
  · go_enter Try.func57, Try.ntmps57
    have HF : Hid (false = mayB ⟨cols, o, kk, fr, ld⟩) := Lib.hid (by rw [eq_comm, ← Bool.not_eq_true]; intro e; have hm := mayB_may e; have := hm.l1; simp only [] at this; omega)
    go_wp2_with fail
    go_ret
    exact ⟨vbool6 HF.out, S0.out⟩
  by_cases h7 : kk < 0
  · go_enter Try.func57, Try.ntmps57
    have HF : Hid (false = mayB ⟨cols, o, kk, fr, ld⟩) := Lib.hid (by rw [eq_comm, ← Bool.not_eq_true]; intro e; have hm := mayB_may e; have := hm.c0; simp only [] at this; omega)
    go_wp2_with fail
    go_ret
    exact ⟨vbool6 HF.out, S0.out⟩
  by_cases h8 : 4096 < kk
  · go_enter Try.func57, Try.ntmps57
    have HF : Hid (false = mayB ⟨cols, o, kk, fr, ld⟩) := Lib.hid (by rw [eq_comm, ← Bool.not_eq_true]; intro e; have hm := mayB_may e; have := hm.c1; simp only [] at this; omega)
    go_wp2_with fail
    go_ret
    exact ⟨vbool6 HF.out, S0.out⟩
  have HB : Hid (0 ≤ o ∧ o ≤ 65536 ∧ 0 ≤ ld ∧ ld ≤ 65536 ∧ 0 ≤ kk ∧ kk ≤ 4096) := Lib.hid ⟨by omega, by omega, by omega, by omega, by omega, by omega⟩
  have HR0 : Hid (Rk cols 1 ∧ ∀ i, 0 < i → i < 1 → cols.getD i 0 ≤ 4096) := Lib.hid ⟨Rk.one (by rw [HX0.out, h2]), fun i h1 h2 => by omega⟩
  go_enter Try.func57, Try.ntmps57
  go_wp2_with fail
  go_loopw [3] (fun i wr => ∃ j : Nat, i = .int .i64 ((j + 1 : Nat) : Int) ∧ j + 1 ≤ cols.length ∧ Hid (Rk cols (j + 1) ∧ ∀ i, 0 < i → i < j + 1 → cols.getD i 0 ≤ 4096) ∧ Hid (∀ a, wr.cell? a = (w.alloc (.cells #[.slice (some ⟨b, of, none⟩) cols.length c, .int .i64 o, .int .i64 kk, .bool fr, .int .i64 ld] 36)).cell? a) ∧ Hid (Below w.heap.size w wr)) (fun i _ => cols.length - (intOf i).toNat)
  case atStart => exact ⟨0, rfl, by omega, HR0, Lib.hid fun _ => rfl, S0⟩
  case round =>
  clear HR0 hb0
  obtain ⟨j, rfl, hj, HR, HQ, HSW⟩ := hrel
  obtain ⟨W, rfl⟩ : ∃ W : World, W = wr := ⟨_, rfl⟩
  have kb : W.cell? ⟨w.heap.size, 0, none⟩ = some (.slice (some ⟨b, of, none⟩) cols.length c) := (HQ.out _).trans (SB.out.boxAt 0)
  by_cases hlt : j + 1 < cols.length
  · have hltI : ((j + 1 : Nat) : Int) < (cols.length : Int) := by omega
    have hj0 : ¬ ((j + 1 : Nat) : Int) < 0 := by omega
    have hp1 : ((j + 1 : Nat) : Int) - 1 = (j : Int) := by omega
    have hj1 : ¬ (j : Int) < 0 := by omega
    have hj2 : (j : Int) < (cols.length : Int) := by omega
    have kx : W.cell? ⟨b, of + (j + 1), none⟩ = some (.int .i64 (cols.getD (j + 1) 0)) := (HQ.out _).trans (HC.out _ hlt)
    have ky : W.cell? ⟨b, of + j, none⟩ = some (.int .i64 (cols.getD j 0)) := (HQ.out _).trans (HC.out _ (by omega))
    obtain ⟨x, hx⟩ : ∃ x, cols.getD (j + 1) 0 = x := ⟨_, rfl⟩
    obtain ⟨y, hy⟩ : ∃ y, cols.getD j 0 = y := ⟨_, rfl⟩
    have HXY := Lib.hid (And.intro hx hy)
    rw [hx] at kx
    rw [hy] at ky
    clear hx hy
    by_cases hxy : x ≤ y
    · have HF : Hid (false = mayB ⟨cols, o, kk, fr, ld⟩) := Lib.hid (by rw [eq_comm, ← Bool.not_eq_true]; intro e; have hm := mayB_may e; have := hm.up j hlt; simp only [] at this; rw [HXY.out.1, HXY.out.2] at this; omega)
      go_upto_region 6 with fail
      go_quiet (fail)
      go_wp2_with fail
      go_ret
      exact ⟨vbool6 HF.out, below_drewN HSW.out _⟩
    · by_cases hx4 : 4096 < x
      · have HF : Hid (false = mayB ⟨cols, o, kk, fr, ld⟩) := Lib.hid (by rw [eq_comm, ← Bool.not_eq_true]; intro e; have hm := mayB_may e; have := (hm.at (i := j + 1) hlt).2.1; simp only [] at this; rw [HXY.out.1] at this; omega)
        go_upto_region 6 with fail
        go_quiet (fail)
        go_wp2_with fail
        go_ret
        exact ⟨vbool6 HF.out, below_drewN HSW.out _⟩
      · have HR2 : Hid (Rk cols (j + 1 + 1) ∧ ∀ i, 0 < i → i < j + 1 + 1 → cols.getD i 0 ≤ 4096) := Lib.hid ⟨HR.out.1.next (by rw [HXY.out.1, HXY.out.2]; omega), fun i h1 h2 => by
          by_cases e : i = j + 1
          · subst e; rw [HXY.out.1]; omega
          · exact HR.out.2 i h1 (by omega)⟩
        go_upto_region 6 with fail
        go_quiet (fail)
        go_wp2_with fail
        go_roundw
        case rel => exact ⟨j + 1, by go_num, by omega, HR2, Lib.hid HQ.out, Lib.hid (below_drewN HSW.out _)⟩
        case measure => simp [intOf]; omega
  · obtain hj : j + 1 = cols.length := by omega
    have hltI : ¬ ((j + 1 : Nat) : Int) < (cols.length : Int) := by omega
    have HF : Hid (true = mayB ⟨cols, o, kk, fr, ld⟩) := Lib.hid (by
      symm
      refine may_mayB ⟨by simp only []; omega, by simp only []; rw [HX0.out, h2], fun i hi => ?_, ?_, HB.out.1, HB.out.2.1, HB.out.2.2.1, HB.out.2.2.2.1, HB.out.2.2.2.2.1, HB.out.2.2.2.2.2⟩
      · exact HR.out.1.2 i (by simp only [] at hi; omega)
      · simp only []
        rcases Nat.eq_zero_or_pos j with rfl | h
        · rw [← hj]; simp only [Nat.zero_add, Nat.sub_self]; rw [HX0.out, h2]; decide
        · exact HR.out.2 (cols.length - 1) (by omega) (by omega))
    clear HR HC
    go_wp2_with fail
    go_ret
    exact ⟨vbool6 HF.out, HSW.out⟩
end Go.Proofs.Ytemkppjdfjoipaa.I1
end
