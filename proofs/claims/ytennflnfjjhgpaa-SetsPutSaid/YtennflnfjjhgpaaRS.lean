/- The document's Set: four words of 256 flags. -/
import Derived.Test.YtennflnfjjhgpaaProg
import Derived.Test.YtennflnfjjhgpaaSb
import Derived.WalkKit
import Derived.WalkLawsBesides
import Derived.WalkSpells
import Derived.Outline
import Derived.Lib.Walk
import Derived.Lib.Hide
import Derived.RegionTactic
import Derived.LoopTactic
import Derived.Below
import Derived.IntWalk
import Derived.Laws.ResultCell
namespace Go.Proofs.Ytennflnfjjhgpaa
set_option linter.unusedSimpArgs false
set_option linter.unusedVariables false
open Go.RowKit

def z4 (f : Nat → Bool) (i : Nat) : Array Value := C4 (mix (fun j => .int .u64 (W f j)) (fun _ => .int .u64 0) i)
theorem z4_zero (f : Nat → Bool) : z4 f 0 = #[.int .u64 0, .int .u64 0, .int .u64 0, .int .u64 0] := by simp [z4, C4, mix]
theorem z4_four (f : Nat → Bool) : z4 f 4 = wc f := by simp [z4, C4, mix, wc]
theorem z4_set (f : Nat → Bool) (i : Nat) : (z4 f i).setIfInBounds i (.int .u64 (W f i)) = z4 f (i + 1) := by
  refine C4_set _ _ i _ fun j _ => ?_
  unfold mix
  by_cases e : j = i
  · subst e; simp
  · by_cases h1 : j < i
    · simp [h1, e, show j < i + 1 by omega]
    · simp [h1, e, show ¬ j < i + 1 by omega]
theorem z4_get (f : Nat → Bool) (i : Nat) (h : i < 4) : (z4 f i)[i]? = some (.int .u64 0) := by
  unfold z4; rw [C4_get _ _ h]; simp [mix]
theorem wc_one (f : Nat → Bool) : (wc f).all (·.oneCell') = true := by
  unfold wc
  simp only [Array.all_eq_true]
  intro i hi
  have : i < 4 := hi
  rcases (by omega : i = 0 ∨ i = 1 ∨ i = 2 ∨ i = 3) with rfl | rfl | rfl | rfl <;> rfl
theorem half_step (y : Nat) : y = y / 2 * 2 + (decide (y % 2 = 1)).toNat := by
  by_cases hy : y % 2 = 1
  · rw [decide_eq_true hy]; simp; omega
  · rw [decide_eq_false hy]; simp; omega
theorem W_step (f : Nat → Bool) (i m : Nat) (hm : m < 64) : W f i / 2 ^ m = W f i / 2 ^ (m + 1) * 2 + (f (64 * i + m)).toNat := by
  have h := W_test f i m hm
  rw [Nat.testBit_eq_decide_div_mod_eq] at h
  rw [← h, Nat.pow_succ, ← Nat.div_div_eq_div_mul]
  exact half_step _
theorem dbl (x j : Nat) (v : Bool) (hx : x < 18446744073709551616) (hs : x / 2 ^ j = x / 2 ^ (j + 1) * 2 + v.toNat) : x / 2 ^ (j + 1) * 2 < 18446744073709551616 - v.toNat := by
  have h1 : x / 2 ^ j ≤ x := Nat.div_le_self ..
  generalize x / 2 ^ j = a at hs h1
  generalize x / 2 ^ (j + 1) = b at hs ⊢
  have : v.toNat ≤ 1 := by cases v <;> decide
  omega
theorem W_top (f : Nat → Bool) (i : Nat) : W f i / 2 ^ 64 = 0 := Nat.div_eq_of_lt (W_lt' f i)

theorem fin0 {y y' z : Nat} (h1 : z = y') (h2 : y' = y * 2 + false.toNat) : (y : Int) * 2 = (z : Int) := by subst h1; rw [h2]; simp
theorem fin1 {y y' z : Nat} (h1 : z = y') (h2 : y' = y * 2 + true.toNat) : (y : Int) * 2 + 1 = (z : Int) := by subst h1; rw [h2]; simp
theorem vint {k : IntKind} {a b : Int} (h : a = b) : Value.int k a = .int k b := by rw [h]
set_option maxHeartbeats 4000000 in
set_option maxRecDepth 100000 in
theorem rset_any (f : Nat → Bool) (w : World) :
    Calls Try.prog 18 #[.agg (fl f)] w fun e w' => e = .returned (setV f) ∧ Below w.heap.size w w' := by
  have S0 := Lib.hid ((((Sb.start w).alloc (.cells (fl f) 27)).alloc (.cells #[.int .u64 0, .int .u64 0, .int .u64 0, .int .u64 0] 24)).alloc (.cells #[.int .u64 0, .int .u64 0, .int .u64 0, .int .u64 0] 24))
  go_enter Try.func18, Try.ntmps18
  go_wp2
  go_loopw [4] (fun i wr => ∃ k : Nat, k ≤ 4 ∧ i = .int .i64 k ∧ Sb w wr [(w.heap.size + 1 + 1, .cells (z4 f k) 24), (w.heap.size + 1, .cells #[.int .u64 0, .int .u64 0, .int .u64 0, .int .u64 0] 24), (w.heap.size, .cells (fl f) 27)]) (fun i _ => 4 - (intOf i).toNat)
  case atStart => exact ⟨0, by omega, rfl, by rw [z4_zero]; simpa using S0.out⟩
  case round =>
    obtain ⟨i, hi, rfl, hS⟩ := hrel
    have HS := Lib.hid hS
    clear hS
    by_cases hlt : i < 4
    · have hlt' : (i : Int) < 4 := by omega
      have c1 := (HS.out.cell i).trans (z4_get f i hlt)
      have f1 := HS.out.free i
      have z1 := HS.out.lt
      have hset := Lib.hid (z4_set f i)
      have hst := Lib.hid (W_step f i)
      have htop := W_top f i
      have hx := Lib.hid (W_lt f i)
      generalize hxx : W f i = x at hset hst htop hx
      clear hxx
      obtain ⟨wo, rfl⟩ : ∃ wo : World, wo = wr := ⟨_, rfl⟩
      go_wp2
      go_loop [5, 6, 15, 16, 17, 18, 19, 20, 21, 22, 23, 24] (fun t c _ _ _ _ _ _ _ _ _ _ => ∃ m : Nat, m ≤ 64 ∧ c = .int .i64 ((m : Int) - 1) ∧ t = .int .u64 (x / 2 ^ m : Nat)) (fun _ c _ _ _ _ _ _ _ _ _ _ => (intOf c + 1).toNat)
      case atStart => exact ⟨64, by omega, rfl, by rw [htop]; rfl⟩
      case round =>
        obtain ⟨m, hm, rfl, rfl⟩ := hrel
        clear htop
        rcases Nat.eq_zero_or_pos m with h0 | h0
        · subst h0
          go_wp2
          go_roundw
          case rel => exact ⟨i + 1, by omega, by go_num, by rw [← hset.out]; simpa using HS.out.set (i := i) (.int .u64 x) (by simp <;> omega)⟩
          case measure => simp [intOf]; omega
        · obtain ⟨j, rfl⟩ : ∃ j, m = j + 1 := ⟨m - 1, by omega⟩
          have hj : j < 64 := by omega
          have hlt2 : i * 64 + j < 256 := by omega
          have c0 := HS.out.tl.tl.flag (i * 64 + j) hlt2
          have hs := hst.out j hj
          rw [show 64 * i + j = i * 64 + j by omega] at hs
          rw [show (((j + 1 : Nat) : Int) - 1) = (j : Int) by omega]
          generalize f (i * 64 + j) = v at c0 hs
          have hb1 := dbl x j v hx.out hs
          generalize x / 2 ^ (j + 1) = y at hs hb1
          generalize hq : x / 2 ^ j = y' at hs
          have hq' := Lib.hid hq
          clear hq
          cases v
          · have hs' := Lib.hid hs
            have hb3 : y * 2 < 18446744073709551616 := by simpa using hb1
            clear hs hb1
            go_wp2
            exact ⟨⟨j, Nat.le_of_lt hj, rfl, vint (fin0 hq'.out hs'.out)⟩, by simp [intOf]⟩
          · have hs' := Lib.hid hs
            have hb3 : y * 2 < 18446744073709551615 := by simpa using hb1
            clear hs hb1
            go_wp2
            exact ⟨⟨j, Nat.le_of_lt hj, rfl, vint (fin1 hq'.out hs'.out)⟩, by simp [intOf]⟩
    · obtain rfl : i = 4 := by omega
      clear hlt hi
      rw [z4_four] at HS
      have c0 := HS.out.word 0 (by omega); have d0 := HS.out.tl.cell 0; have g0 := HS.out.tl.free 0
      have c1 := HS.out.word 1 (by omega); have d1 := HS.out.tl.cell 1; have g1 := HS.out.tl.free 1
      have c2 := HS.out.word 2 (by omega); have d2 := HS.out.tl.cell 2; have g2 := HS.out.tl.free 2
      have c3 := HS.out.word 3 (by omega); have d3 := HS.out.tl.cell 3; have g3 := HS.out.tl.free 3
      simp at d0 d1 d2 d3
      have z2 := HS.out.lt
      have z3 := HS.out.tl.lt
      have hE := Lib.hid ((((((HS.out.sub (M := [(w.heap.size + 1, .cells #[.int .u64 0, .int .u64 0, .int .u64 0, .int .u64 0] 24)]) (by simp)).set (i := 0) (.int .u64 (W f 0)) (by simp)).set (i := 1) (.int .u64 (W f 1)) (by simp)).set (i := 2) (.int .u64 (W f 2)) (by simp)).set (i := 3) (.int .u64 (W f 3)) (by simp)))
      go_wp2
      refine bodyPost_ret (v := setV f) (results_cell_row rfl _ _ (w.heap.size + 1) 24 (wc f) (0, 0) _ rfl hE.out.heap Try.underlying24 rfl (i24 f)) rfl ⟨rfl, hE.out.1⟩
end Go.Proofs.Ytennflnfjjhgpaa
