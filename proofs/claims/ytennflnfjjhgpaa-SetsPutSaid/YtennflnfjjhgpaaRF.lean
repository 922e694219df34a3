/- The document's Flags: a set's bits, one by one. -/
import Derived.Test.YtennflnfjjhgpaaProg
import Derived.Test.YtennflnfjjhgpaaSb
import Derived.WalkKit
import Derived.WalkLawsBesides
import Derived.WalkSpells
import Derived.Outline
import Derived.Lib.Walk
import Derived.Lib.Hide
import Derived.RegionTactic
import Derived.LoopTactic
import Derived.Below
import Derived.IntWalk
import Derived.Laws.ResultCell
namespace Go.Proofs.Ytennflnfjjhgpaa
set_option linter.unusedSimpArgs false
set_option linter.unusedVariables false
open Go.RowKit

theorem W_bit (f : Nat → Bool) (k : Nat) : (((W f (k / 64) / 2 ^ (k % 64) : Nat) : Int) % 2 == 1) = f k := by
  have h := W_test f (k / 64) (k % 64) (Nat.mod_lt _ (by omega))
  rw [Nat.div_add_mod] at h
  rw [← h, Nat.testBit_eq_decide_div_mod_eq, Bool.eq_iff_iff]
  clear h
  generalize W f (k / 64) / 2 ^ (k % 64) = y
  simp; omega
def lowF (f : Nat → Bool) (k j : Nat) : Bool := decide (j < k) && f j
theorem lowF_zero (f : Nat → Bool) : lowF f 0 = fun _ => false := by funext j; simp [lowF]
theorem lowF_set (f : Nat → Bool) (k : Nat) : (fl (lowF f k)).setIfInBounds k (.bool (f k)) = fl (lowF f (k + 1)) := by
  refine fl_set _ _ k (f k) fun j _ => ?_
  unfold lowF
  by_cases h : j = k
  · subst h; simp
  · by_cases h1 : j < k
    · simp [h, h1, show j < k + 1 by omega]
    · simp [h, h1, show ¬ j < k + 1 by omega]
theorem lowF_all (f : Nat → Bool) : fl (lowF f 256) = fl f := fl_congr fun j hj => by simp [lowF, hj]

set_option maxHeartbeats 4000000 in
set_option maxRecDepth 100000 in
theorem flags_any (f : Nat → Bool) (w : World) :
    Calls Try.prog 11 #[setV f] w fun e w' => e = .returned (.agg (fl f)) ∧ Below w.heap.size w w' := by
  have S0 := Lib.hid ((((Sb.start w).alloc (.cells (wc f) 24)).alloc (.cells (fl fun _ => false) 27)).alloc (.cells (fl fun _ => false) 27))
  have hz := zero27
  go_enter Try.func11, Try.ntmps11
  go_wp2
  go_loopw [4] (fun i wr => ∃ k : Nat, k ≤ 256 ∧ i = .int .i64 k ∧ Sb w wr [(w.heap.size + 1 + 1, .cells (fl (lowF f k)) 27), (w.heap.size + 1, .cells (fl fun _ => false) 27), (w.heap.size, .cells (wc f) 24)]) (fun i _ => 256 - (intOf i).toNat)
  case atStart => exact ⟨0, by omega, rfl, by simpa [wc, lowF_zero] using S0.out⟩
  case round =>
    obtain ⟨k, hk, rfl, hS⟩ := hrel
    have HS := Lib.hid hS
    clear hS
    by_cases hlt : k < 256
    · have hlt' : (k : Int) < 256 := by omega
      have c0 := HS.out.tl.tl.word (k / 64) (by omega)
      have hx := W_lt f (k / 64)
      have hW := W_bit f k
      have hset := Lib.hid (lowF_set f k)
      generalize hq : W f (k / 64) = x at c0 hx hW
      clear hq
      generalize f k = v at hW hset
      have c1 := HS.out.flag k hlt
      have f1 := HS.out.free k
      have z1 := HS.out.lt
      obtain ⟨wo, rfl⟩ : ∃ wo : World, wo = wr := ⟨_, rfl⟩
      have hm : k % 64 < 64 := Nat.mod_lt _ (by omega)
      go_wp2
      go_loop [5, 6, 21, 22] (fun t i _ _ => ∃ j : Nat, j ≤ k % 64 ∧ i = .int .i64 j ∧ t = .int .u64 (x / 2 ^ j : Nat)) (fun _ i _ _ => k % 64 - (intOf i).toNat)
      case atStart => exact ⟨0, by omega, rfl, by simp⟩
      case round =>
        obtain ⟨j, hj, rfl, rfl⟩ := hrel
        by_cases hlj : j < k % 64
        · have hl : (j : Int) < (k : Int) % 64 := by omega
          have hd : IntKind.u64.wrap (((x / 2 ^ j : Nat) : Int) / 2) = ((x / 2 ^ (j + 1) : Nat) : Int) := by
            rw [Nat.pow_succ, ← Nat.div_div_eq_div_mul, IntKind.wrap_u64]
            have : x / 2 ^ j ≤ x := Nat.div_le_self ..
            generalize x / 2 ^ j = y at this ⊢
            omega
          generalize x / 2 ^ j = y at hd
          generalize hy : x / 2 ^ (j + 1) = y' at hd
          have hy' := Lib.hid hy
          clear hy
          go_wp2
          exact ⟨⟨j + 1, by omega, by go_num, by rw [hy'.out]⟩, by simp [intOf]; omega⟩
        · obtain rfl : j = k % 64 := by omega
          generalize x / 2 ^ (k % 64) = y at hW
          go_wp2
          go_roundw
          case rel => exact ⟨k + 1, by omega, by go_num, by rw [← hset.out]; exact HS.out.set _ (by simp <;> omega)⟩
          case measure => simp [intOf]; omega
    · obtain rfl : k = 256 := by omega
      clear hlt hk
      rw [lowF_all] at HS
      have h2 := Lib.hid HS.out.heap
      have h1 := Lib.hid HS.out.tl.heap
      go_wp2_with (first | (refine wpList_load_row rfl 27 (.tmp 3) rfl (w.heap.size + 1 + 1) rfl 27 (fl f) (0, 0) _ h2.out Try.underlying27 rfl (fsize27 f) ?_) | (refine wpList_store_row rfl 27 (.tmp 2) (.tmp 28) rfl (w.heap.size + 1) (fl f) rfl rfl 27 _ h1.out (fsize27 f) (by rw [fl_size, fl_size]) (fl_one f) ?_))
      have hE := (HS.out.sub (M := [(w.heap.size + 1, .cells (fl fun _ => false) 27), (w.heap.size, .cells (wc f) 24)]) (by simp)).setRow (cs' := fl f) (by simp)
      refine bodyPost_ret (v := .agg (fl f)) (results_cell_row rfl _ _ (w.heap.size + 1) 27 (fl f) (0, 0) _ rfl hE.heap Try.underlying27 rfl (fsize27 f)) rfl ⟨rfl, hE.1⟩
end Go.Proofs.Ytennflnfjjhgpaa
