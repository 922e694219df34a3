/- The document's Print. -/
import Derived.Test.YtennflnfjjhgpaaProg
import Derived.Test.YtennflnfjjhgpaaIt
import Derived.WalkKit
import Derived.WalkLawsBesides
import Derived.WalkSpells
import Derived.Outline
import Derived.Lib.Walk
import Derived.Lib.Hide
import Derived.RegionTactic
import Derived.LoopTactic
import Derived.Below
import Derived.IntWalk
import Derived.Lib.Slices
import Derived.Lib.Strings
namespace Go.Proofs.Ytennflnfjjhgpaa
set_option linter.unusedSimpArgs false
set_option linter.unusedVariables false
open Go.RowKit

theorem noF_zero (f : Nat → Bool) : (fun j => decide (j < 0) && !f j) = fun _ => false := by funext j; simp
def lowN (f : Nat → Bool) (k j : Nat) : Bool := decide (j < k) && !f j
theorem lowN_zero (f : Nat → Bool) : lowN f 0 = fun _ => false := by funext j; simp [lowN]
theorem lowN_set (f : Nat → Bool) (k : Nat) : (fl (lowN f k)).setIfInBounds k (.bool (!f k)) = fl (lowN f (k + 1)) := by
  refine fl_set _ _ k (!f k) fun j _ => ?_
  unfold lowN
  by_cases h : j = k
  · subst h; simp
  · by_cases h1 : j < k
    · simp [h, h1, show j < k + 1 by omega]
    · simp [h, h1, show ¬ j < k + 1 by omega]
theorem lowN_all (f : Nat → Bool) : fl (lowN f 256) = fl (fun b => !f b) := fl_congr fun j hj => by simp [lowN, hj]
set_option maxHeartbeats 8000000 in
set_option maxRecDepth 100000 in
theorem rprint_any (f : Nat → Bool) (w : World) : Calls Try.prog 25 #[.agg (fl f)] w fun e w' => e = .returned (.string (bs (pr f))) ∧ Below w.heap.size w w' := by
  have S0 := Lib.hid ((Sb.start w).alloc (.cells (fl f) 27))
  have hz := zero27
  have hcn := Lib.hid (rcount_any f)
  have hit := Lib.hid (items_any f)
  have hin := Lib.hid (items_any (fun b => !f b))
  have hl1 := txt_len f 256
  have hl2 := txt_len (fun b => !f b) 256
  have hl3 := cnt_not f 256
  have h0 := Lib.hid S0.out.heap
  by_cases hc : 128 < cntF f 256
  · have heq := Lib.hid (show bs [91, 94] ++ bs (txt (runsF (fun b => !f b) 256)) ++ bs [93] = bs (pr f) by unfold pr; rw [if_pos hc, bs_app, bs_app])
    have hsz : (bs (txt (runsF (fun b => !f b) 256))).size ≤ 512 := by rw [bsz]; omega
    have hcd : ¬ cntF f 256 ≤ 128 := by omega
    clear hl1 hl2 hl3 hc hit
    generalize cntF f 256 = n at *
    generalize bs (pr f) = P at *
    generalize bs (txt (runsF (fun b => !f b) 256)) = x at *
    have z1 : ¬ 9223372036854775807 < 2 + x.size := by omega
    have z2 : ¬ 9223372036854775807 < (bs [91, 94] ++ x).size + 1 := by simp [bsz]; omega
    go_enter Try.func25, Try.ntmps25
    go_wp2_with (refine wpList_load_row rfl 27 (.tmp 1) rfl w.heap.size rfl 27 (fl f) (0, 0) _ h0.out Try.underlying27 rfl (fsize27 f) ?_)
    refine (hcn.out _).mono ?_
    rintro _ w1 ⟨rfl, hb⟩
    have S1 := Lib.hid (S0.out.up hb)
    clear hb hcn h0
    have S2 := Lib.hid (S1.out.alloc (.cells (fl fun _ => false) 27))
    have hz1 : w.heap.size < w1.heap.size := S1.out.lt
    go_wp2_with fail
    go_loopw [4] (fun i wr => ∃ k : Nat, k ≤ 256 ∧ i = .int .i64 k ∧ Sb w wr [(w1.heap.size, .cells (fl (lowN f k)) 27), (w.heap.size, .cells (fl f) 27)]) (fun i _ => 256 - (intOf i).toNat)
    case atStart => exact ⟨0, by omega, rfl, by rw [lowN_zero]; exact S2.out⟩
    case round =>
      obtain ⟨k, hk, rfl, hS⟩ := hrel
      have HS := Lib.hid hS
      clear hS
      by_cases hlt : k < 256
      · have hlt' : (k : Int) < 256 := by omega
        have c0 := HS.out.tl.flag k hlt
        have c1 := HS.out.flag k hlt
        have f1 := HS.out.free k
        have z9 := HS.out.lt
        have hset := Lib.hid (lowN_set f k)
        generalize f k = v at c0 hset
        go_wp2
        go_roundw
        case rel => exact ⟨k + 1, by omega, by go_num, by rw [← hset.out]; exact HS.out.set _ (by simp; omega)⟩
        case measure => simp [intOf]; omega
      · obtain rfl : k = 256 := by omega
        rw [lowN_all] at HS
        have h0 := Lib.hid HS.out.heap
        clear hlt hk
        go_wp2_with (refine wpList_load_row rfl 27 (.tmp 3) rfl w1.heap.size rfl 27 (fl fun b => !f b) (0, 0) _ h0.out Try.underlying27 rfl (fsize27 _) ?_)
        refine (hin.out _).mono ?_
        rintro _ w4 ⟨rfl, hb⟩
        have HE := Lib.hid (HS.out.up hb).1
        clear hb h0
        go_wp2
        go_ret
        exact ⟨by rw [← heq.out]; rfl, HE.out⟩
  · have heq := Lib.hid (show bs [91] ++ bs (txt (runsF f 256)) ++ bs [93] = bs (pr f) by unfold pr; rw [if_neg hc, bs_app, bs_app])
    have hsz : (bs (txt (runsF f 256))).size ≤ 512 := by rw [bsz]; omega
    have hcd : cntF f 256 ≤ 128 := by omega
    clear hl1 hl2 hl3 hc hin
    generalize cntF f 256 = n at *
    generalize bs (pr f) = P at *
    generalize bs (txt (runsF f 256)) = x at *
    have z1 : ¬ 9223372036854775807 < 1 + x.size := by omega
    have z2 : ¬ 9223372036854775807 < (bs [91] ++ x).size + 1 := by simp [bsz]; omega
    go_enter Try.func25, Try.ntmps25
    go_wp2_with (refine wpList_load_row rfl 27 (.tmp 1) rfl w.heap.size rfl 27 (fl f) (0, 0) _ h0.out Try.underlying27 rfl (fsize27 f) ?_)
    refine (hcn.out _).mono ?_
    rintro _ w1 ⟨rfl, hb⟩
    have S1 := Lib.hid (S0.out.up hb)
    have h1 := Lib.hid S1.out.heap
    clear hb hcn h0
    go_wp2_with (refine wpList_load_row rfl 27 (.tmp 1) rfl w.heap.size rfl 27 (fl f) (0, 0) _ h1.out Try.underlying27 rfl (fsize27 f) ?_)
    refine (hit.out _).mono ?_
    rintro _ w4 ⟨rfl, hb⟩
    have HE := Lib.hid (S1.out.up hb).1
    clear hb h1
    go_wp2
    go_ret
    exact ⟨by rw [← heq.out]; rfl, HE.out⟩
end Go.Proofs.Ytennflnfjjhgpaa
