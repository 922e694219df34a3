/- Package indent. -/
import Derived.Test.YthbfpnbfiliknaaProg
import Derived.Test.YthbfpnbfiliknaaIp
import Derived.Great.BuildSlice
import Derived.WalkKit
import Derived.Maps.OwnSet
import Derived.Maps.OwnOps
import Derived.Maps.Own
import Derived.DeepKeys5
import Derived.BigFrame
import Derived.WalkMore
import Derived.ScopeJumps
import Derived.StillTailTactics
import Derived.Stop.BytesEq
import Derived.WalkLawsBesides
import Derived.WalkSpells
import Derived.Outline
import Derived.Lib.Walk
import Derived.Lib.Hide
import Derived.Lib.Slices
import Derived.Lib.Strings
import Derived.RegionTactic
import Derived.LoopTactic
import Derived.Below
import Derived.IntWalk
import Derived.Deep.QuietTactic
import Derived.BigQuiet
import Derived.Deep.MidRow
import Derived.Maps.AppendAt
import Derived.Laws.Rows
import Derived.Laws.Tables
import Derived.Deep.WholeRow
import Derived.Deep.Cut
import Derived.Deep.CutRange
import Derived.Lib.SliceRun
import Derived.Laws.MakeOwn
import Derived.Deep.RegionLaw
import Derived.Deep.RegionLawGrows
import Derived.Deep.RegionHeld3
import Derived.RegionCalls
import Derived.Deep.RegionWith
import Derived.Deep.Light
import Derived.Laws.CopyOwn
import Derived.Laws.ResultCell
namespace Go.Proofs.Ythbfpnbfiliknaa
set_option linter.unusedSimpArgs false
set_option linter.unusedVariables false
set_option maxRecDepth 100000
open Go.RowKit
/- alive. -/
def aS : ByteArray := ⟨#[32, 32, 32, 32, 97, 10, 32, 32, 98]⟩
def aR : List Rw := [(25, 4, 0), (0, 1, 0), (19, 1, 0), (25, 2, 0), (0, 1, 0)]
def aT : List Tk := [(20, 4, 0), (0, 0, 1), (19, 0, 1), (21, 2, 0), (23, 0, 0), (0, 0, 1), (19, 0, 0), (22, 0, 0)]
theorem alive_q : (allQ aS aR).1.2.toks = aT ∧ (allQ aS aR).2 = 0 := by
  constructor
  · kernel_rfl
  · kernel_rfl
theorem rw_block {w : World} {b : Nat} {cs : Array Value} {e : TypeId} {l : List Rw} (h : w.heap[b]? = some (.cells cs e (0, 0))) (hc : cs.toList = rwL l) {n : Nat} (hn : l.length = n) : RW (fun x => x = b) w l (.slice (some ⟨b, 0, none⟩) n n) := by
  subst hn
  refine ⟨_, _, rfl, (fun h => by cases h), fun _ => ⟨b, 0, rfl, rfl, fun j u hu => ?_⟩⟩
  rw [Nat.zero_add, cell_of_row w b j cs e (0, 0) h, ← hu, ← hc]; simp
set_option maxHeartbeats 8000000 in
theorem alive_any {w : World} : Calls Try.prog 17 #[] w fun e w' => e = .returned (.bool true) ∧ Below w.heap.size w w' := by
  have hz46 := zero46
  obtain ⟨b0, hb0⟩ : ∃ b, w.heap.size = b := ⟨_, rfl⟩
  have S0 := Lib.hid ((Sep.start w).allocAt hb0 (.cells #[.int .i64 25, .int .i64 4, .int .i64 0, .int .i64 0, .int .i64 1, .int .i64 0, .int .i64 19, .int .i64 1, .int .i64 0, .int .i64 25, .int .i64 2, .int .i64 0, .int .i64 0, .int .i64 1, .int .i64 0] 26))
  go_enter Try.func17, Try.ntmps17
  go_upto_region 2 with fail
  refine at_world (fun y => Sep w.heap.size w y [.box b0 (.cells #[.int .i64 25, .int .i64 4, .int .i64 0, .int .i64 0, .int .i64 1, .int .i64 0, .int .i64 19, .int .i64 1, .int .i64 0, .int .i64 25, .int .i64 2, .int .i64 0, .int .i64 0, .int .i64 1, .int .i64 0] 26)]) S0.out fun y hy => ?_
  have S1 := Lib.hid hy
  have HRW := Lib.hid (rw_block (l := aR) hy.at.2 rfl (n := 5) rfl)
  have HALL := Lib.hid (all_any (B := y.heap.size) (w0 := y) (w := y) (XX := []) (s := aS) (lst := aR) (by decide) (by decide) (fun b hb => by rw [hb]; exact (It.lt hy.at rfl).2) HRW.out (Sep.start y))
  have hq := alive_q
  obtain ⟨⟨⟨q1, ⟨q2, q3, q4⟩⟩, q5⟩, hQ⟩ : ∃ z, allQ aS aR = z := ⟨_, rfl⟩
  rw [hQ] at HALL hq
  simp only [] at hq
  obtain ⟨rfl, rfl⟩ := hq
  clear hQ S0 hy HRW
  go_wp2_with (first | (refine HALL.out.mono ?_) | fail)
  rintro _ w2 ⟨v1, v2, v3, v4, vs, rfl, hvs, hs2⟩
  simp only [] at hvs hs2 ⊢
  obtain ⟨p1, c1, rfl⟩ := row_form hs2.at
  obtain ⟨p2, c2, rfl⟩ := row_form hs2.tl.at
  obtain ⟨p3, c3, rfl⟩ := row_form hs2.tl.tl.at
  obtain ⟨p4, c4, rfl⟩ : ∃ p c, v4 = .slice p 8 c := row_form hs2.tl.tl.tl.at
  have hT : w2.ownsRow y.heap.size 35 3 (.slice p4 8 c4) aT.length (tkL aT) := hs2.tl.tl.tl.at
  have hbe : Below w.heap.size w w2 := S1.out.bel.trans (hs2.bel.mono S1.out.sz)
  have hsz2 : w.heap.size ≤ w2.heap.size := hbe.size
  obtain ⟨b2, hb2⟩ : ∃ b, w2.heap.size = b := ⟨_, rfl⟩
  obtain ⟨l1, hl1⟩ : ∃ z, q1.length = z := ⟨_, rfl⟩
  obtain ⟨l2, hl2⟩ : ∃ z, q2.length = z := ⟨_, rfl⟩
  obtain ⟨l3, hl3⟩ : ∃ z, q3.length = z := ⟨_, rfl⟩
  rw [hl1, hl2, hl3]
  have S2 := Lib.hid ((Sep.mk hbe hsz2 (fun x hx => (by obtain rfl := List.mem_singleton.1 hx; exact row_base hT S1.out.sz)) (List.pairwise_singleton _ _) : Sep w.heap.size w w2 [rT (.slice p4 8 c4) aT]).allocAt hb2 (.cells #[.slice p1 l1 c1, .slice p2 l2 c2, .slice p3 l3 c3, .slice p4 8 c4] 46))
  clear hs2 hvs hT hbe hsz2 S1 HALL hl1 hl2 hl3
  go_upto_region 3 with fail
  refine at_world (fun y => Sep w.heap.size w y [bxL b2 #[.slice p1 l1 c1, .slice p2 l2 c2, .slice p3 l3 c3, .slice p4 8 c4], rT (.slice p4 8 c4) aT]) S2.out fun y3 hy3 => ?_
  obtain ⟨b3, hb3⟩ : ∃ b, y3.heap.size = b := ⟨_, rfl⟩
  have S3 := Lib.hid (hy3.allocAt hb3 (.cells #[.int .i64 20, .int .i64 4, .int .i64 0, .int .i64 0, .int .i64 0, .int .i64 1, .int .i64 19, .int .i64 0, .int .i64 1, .int .i64 21, .int .i64 2, .int .i64 0, .int .i64 23, .int .i64 0, .int .i64 0, .int .i64 0, .int .i64 0, .int .i64 1, .int .i64 19, .int .i64 0, .int .i64 0, .int .i64 22, .int .i64 0, .int .i64 0] 35))
  clear S2 hy3
  go_upto_region 4 with fail
  refine at_world (fun y => Sep w.heap.size w y [.box b3 (.cells #[.int .i64 20, .int .i64 4, .int .i64 0, .int .i64 0, .int .i64 0, .int .i64 1, .int .i64 19, .int .i64 0, .int .i64 1, .int .i64 21, .int .i64 2, .int .i64 0, .int .i64 23, .int .i64 0, .int .i64 0, .int .i64 0, .int .i64 0, .int .i64 1, .int .i64 19, .int .i64 0, .int .i64 0, .int .i64 22, .int .i64 0, .int .i64 0] 35), bxL b2 #[.slice p1 l1 c1, .slice p2 l2 c2, .slice p3 l3 c3, .slice p4 8 c4], rT (.slice p4 8 c4) aT]) S3.out fun y4 hy4 => ?_
  have S4 := Lib.hid hy4
  have k3 : y4.cell? ⟨b2, 3, none⟩ = some (.slice p4 8 c4) := hy4.tl.boxAt 3
  have HST := Lib.hid (sametok_any (w := y4) (l := aT) (fun b hb => hb.2.1) (fun b hb => by rw [hb]; exact (It.lt hy4.at rfl).2) (row_wv hy4.tl.tl.at) (rw_block (l := aT) hy4.at.2 rfl (n := 8) rfl).wv (by decide))
  have b00 : ((0 : Int) == 0) = true := rfl
  clear S3 hy4
  go_wp2_with (first | (refine HST.out.mono ?_) | fail)
  rintro _ w5 ⟨rfl, hb⟩
  have S5 := Lib.hid (S4.out.up hb)
  clear hb S4 HST k3
  go_wp2_with fail
  refine (first_any (B := w.heap.size) (w0 := w) (X := []) (S5.out.sub (List.nil_sublist _))).mono ?_
  rintro _ w6 ⟨v0, rfl, hs6⟩
  obtain ⟨p0, c0, rfl⟩ : ∃ p c, v0 = .slice p 1 c := row_form hs6.at
  unfold mkA m0
  simp only []
  obtain ⟨b6, hb6⟩ : ∃ b, w6.heap.size = b := ⟨_, rfl⟩
  have S6 := Lib.hid (hs6.allocAt hb6 (.cells #[.int .i64 0] 3))
  have HW6 : Hid (IV (fun x => x = b6) (w6.alloc (.cells #[.int .i64 0] 3)) [0] (.slice (some ⟨b6, 0, none⟩) 1 1)) := Lib.hid ⟨_, _, rfl, fun _ => ⟨b6, 0, rfl, rfl, fun i hi => by
    have : i = 0 := by simp at hi; omega
    subst this
    exact S6.out.boxAt 0⟩⟩
  have HSM := Lib.hid (samemark_any (m := m0) (by decide) (fun b hb => hb.2.1) (fun b hb => by rw [hb]; exact (It.lt S6.out.at rfl).2) (own_iv S6.out.tl.at) HW6.out)
  unfold mkA m0 at HSM
  simp only [] at HSM
  clear hs6 S5 HW6
  go_wp2_with fail
  refine HSM.out.mono ?_
  rintro _ w7 ⟨rfl, hb⟩
  have S7 := Lib.hid (S6.out.up hb)
  clear hb S6 HSM
  go_wp2_with fail
  go_ret
  exact ⟨rfl, S7.out.bel⟩
end Go.Proofs.Ythbfpnbfiliknaa
