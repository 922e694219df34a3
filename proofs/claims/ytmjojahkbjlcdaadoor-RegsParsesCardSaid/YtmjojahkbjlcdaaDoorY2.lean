/- Texts of package regs, one behind the other. -/
import Derived.Laws.Entries
import Derived.Laws.Bits64
import Derived.Laws.Bits64b
import Derived.Test.YtmjojahkbjlcdaaDoorPop
import Derived.Test.YtmjojahkbjlcdaaDoorProg
import Derived.WalkKit
import Derived.WalkLawsBesides
import Derived.WalkSpells
import Derived.Outline
import Derived.Lib.Walk
import Derived.Lib.Hide
import Derived.RegionTactic
import Derived.LoopTactic
import Derived.Below
import Derived.Laws.BitsLemmas
import Derived.IntWalk
import Derived.Laws.Rows
import Derived.StillTailTactics
import Derived.Deep.QuietTactic
import Derived.BigQuiet
import Derived.Deep.LoopGhost
section
/- Words of bits: a set of the numbers below 256 as four words; what '|', '&', '^', '<<', '>>' do to a bit; rows of 256 flags. No program, no world. -/
namespace Go.Proofs.YtmjojahkbjlcdaaDoor
set_option linter.unusedSimpArgs false
set_option linter.unusedVariables false
set_option maxRecDepth 100000

def bitsN (g : Nat → Bool) : Nat → Nat
  | 0 => 0
  | n + 1 => (g n).toNat * 2 ^ n + bitsN g n
theorem bitsN_lt (g : Nat → Bool) : ∀ n, bitsN g n < 2 ^ n
  | 0 => by simp [bitsN]
  | n + 1 => by
    have := bitsN_lt g n
    simp only [bitsN, Nat.pow_succ]
    cases g n <;> simp <;> omega
theorem bitsN_test (g : Nat → Bool) : ∀ n k, (bitsN g n).testBit k = (decide (k < n) && g k)
  | 0, k => by simp [bitsN]
  | n + 1, k => by
    have h := bitsN_lt g n
    have ih := bitsN_test g n k
    simp only [bitsN]
    cases hg : g n
    · simp [ih]
      by_cases hk : k < n
      · simp [hk, show k < n + 1 by omega]
      · by_cases he : k = n
        · subst he; simp [hg]
        · simp [hk, show ¬ k < n + 1 by omega]
    · simp only [Bool.toNat_true, Nat.one_mul]
      by_cases he : k = n
      · subst he
        rw [Nat.testBit_two_pow_add_eq]
        simp [ih, hg]
      · by_cases hk : k < n
        · rw [Nat.testBit_two_pow_add_gt hk]; simp [ih, hk, show k < n + 1 by omega]
        · have h3 : 2 ^ n + bitsN g n < 2 ^ k := by
            have : 2 ^ (n + 1) ≤ 2 ^ k := Nat.pow_le_pow_right (by omega) (by omega)
            rw [Nat.pow_succ] at this; omega
          rw [Nat.testBit_lt_two_pow h3]; simp [show ¬ k < n + 1 by omega]

/-- Word i of the set of all numbers below 256 that are in f. -/
def W (f : Nat → Bool) (i : Nat) : Nat := bitsN (fun k => f (64 * i + k)) 64
theorem W_lt (f : Nat → Bool) (i : Nat) : W f i < 18446744073709551616 := bitsN_lt _ 64
theorem W_test (f : Nat → Bool) (i k : Nat) (hk : k < 64) : (W f i).testBit k = f (64 * i + k) := by unfold W; rw [bitsN_test]; simp [hk]
theorem W_eq (f : Nat → Bool) (i x : Nat) (hx : x < 18446744073709551616) (h : ∀ k, k < 64 → x.testBit k = f (64 * i + k)) : x = W f i := by
  apply Nat.eq_of_testBit_eq
  intro k
  by_cases hk : k < 64
  · rw [W_test f i k hk, h k hk]
  · have e : (2 : Nat) ^ 64 ≤ 2 ^ k := Nat.pow_le_pow_right (by omega) (by omega)
    have e64 : (2 : Nat) ^ 64 = 18446744073709551616 := by decide
    have := W_lt f i
    rw [Nat.testBit_lt_two_pow (by omega), Nat.testBit_lt_two_pow (by omega)]
theorem W_congr {f g : Nat → Bool} (i : Nat) (h : ∀ k, k < 64 → f (64 * i + k) = g (64 * i + k)) : W f i = W g i :=
  W_eq g i _ (W_lt f i) fun k hk => by rw [W_test f i k hk, h k hk]
theorem W_inj {f g : Nat → Bool} {i : Nat} (h : W f i = W g i) (k : Nat) (hk : k < 64) : f (64 * i + k) = g (64 * i + k) := by
  rw [← W_test f i k hk, h, W_test g i k hk]
theorem W_lt' (f : Nat → Bool) (i : Nat) : W f i < 2 ^ 64 := bitsN_lt _ 64
theorem p64 : (2 : Nat) ^ 64 = 18446744073709551616 := by decide
theorem W_or (f g : Nat → Bool) (i : Nat) : bits .or .u64 (W f i : Int) (W g i : Int) = ((W (fun b => f b || g b) i : Nat) : Int) := by
  rw [bits_or_u64_nat _ _ (W_lt f i) (W_lt g i)]
  refine congrArg (fun n : Nat => (n : Int)) ?_
  refine W_eq _ _ _ (p64 ▸ Nat.or_lt_two_pow (W_lt' f i) (W_lt' g i)) fun k hk => ?_
  rw [Nat.testBit_or, W_test f i k hk, W_test g i k hk]
theorem W_and (f g : Nat → Bool) (i : Nat) : bits .and .u64 (W f i : Int) (W g i : Int) = ((W (fun b => f b && g b) i : Nat) : Int) := by
  rw [bits_and_u64_nat _ _ (W_lt f i) (W_lt g i)]
  refine congrArg (fun n : Nat => (n : Int)) ?_
  refine W_eq _ _ _ (p64 ▸ Nat.and_lt_two_pow _ (W_lt' g i)) fun k hk => ?_
  rw [Nat.testBit_and, W_test f i k hk, W_test g i k hk]
theorem W_not (f : Nat → Bool) (i : Nat) : bits .xor .u64 18446744073709551615 (W f i : Int) = ((W (fun b => !f b) i : Nat) : Int) := by
  have h := bits_xor_u64_nat 18446744073709551615 (W f i) (by omega) (W_lt f i)
  rw [show ((18446744073709551615 : Nat) : Int) = 18446744073709551615 from rfl] at h
  rw [h]
  refine congrArg (fun n : Nat => (n : Int)) ?_
  refine W_eq _ _ _ (p64 ▸ Nat.xor_lt_two_pow (by rw [p64]; omega) (W_lt' f i)) fun k hk => ?_
  rw [Nat.testBit_xor, W_test f i k hk, show (18446744073709551615 : Nat) = 2 ^ 64 - 1 by decide, Nat.testBit_two_pow_sub_one]; simp [hk]
/-- A bit that is asked for. -/
theorem W_has (f : Nat → Bool) (i k : Nat) (hk : k < 64) : (bits .and .u64 ((W f i : Int) / 2 ^ k) 1 == 1) = f (64 * i + k) := by
  have e : ((W f i : Int) / 2 ^ k) = ((W f i / 2 ^ k : Nat) : Int) := by simp
  have h := bits_and_u64_nat (W f i / 2 ^ k) 1 (Nat.lt_of_le_of_lt (Nat.div_le_self ..) (W_lt f i)) (by omega)
  rw [show ((1 : Nat) : Int) = 1 from rfl] at h
  rw [e, h, Nat.and_one_is_mod, ← W_test f i k hk, Nat.testBit_eq_decide_div_mod_eq]
  rw [Bool.eq_iff_iff]; simp; omega
/-- A bit that is put. -/
theorem W_with (f : Nat → Bool) (i k : Nat) (hk : k < 64) : bits .or .u64 (W f i : Int) (IntKind.u64.wrap (2 ^ k)) = ((W (fun b => f b || b == 64 * i + k) i : Nat) : Int) := by
  have hp : (2 : Nat) ^ k < 18446744073709551616 := Nat.pow_lt_pow_right (by omega) (show k < 64 from hk)
  have e : IntKind.u64.wrap (2 ^ k) = ((2 ^ k : Nat) : Int) := by
    have : ((2 ^ k : Nat) : Int) = 2 ^ k := by simp
    rw [← this, IntKind.wrap_u64]
    clear this
    generalize (2 : Nat) ^ k = z at hp ⊢
    omega
  rw [e, bits_or_u64_nat _ _ (W_lt f i) hp]
  refine congrArg (fun n : Nat => (n : Int)) ?_
  refine W_eq _ _ _ (p64 ▸ Nat.or_lt_two_pow (W_lt' f i) (p64.symm ▸ hp)) fun j hj => ?_
  rw [Nat.testBit_or, W_test f i j hj, Nat.testBit_two_pow]
  have e : decide (k = j) = (64 * i + j == 64 * i + k) := by rw [Bool.eq_iff_iff]; simp; omega
  rw [e]
theorem W_skip (f : Nat → Bool) (i n : Nat) (h : ∀ k, k < 64 → n ≠ 64 * i + k) : W (fun b => f b || b == n) i = W f i :=
  W_congr i fun k hk => by
    have := h k hk
    rw [show ((64 * i + k == n) = false) by rw [beq_eq_false_iff_ne]; omega, Bool.or_false]

/-- A set's value. -/
abbrev setV (f : Nat → Bool) : Value := .agg #[.int .u64 (W f 0), .int .u64 (W f 1), .int .u64 (W f 2), .int .u64 (W f 3)]
theorem setV_congr {f g : Nat → Bool} (h : ∀ k, k < 256 → f k = g k) : setV f = setV g := by
  unfold setV
  rw [W_congr 0 (fun k hk => h _ (by omega)), W_congr 1 (fun k hk => h _ (by omega)), W_congr 2 (fun k hk => h _ (by omega)), W_congr 3 (fun k hk => h _ (by omega))]
theorem W_all {f g : Nat → Bool} (h : ∀ k, k < 256 → f k = g k) (i : Nat) (hi : i < 4) : W f i = W g i := W_congr i (fun k hk => h _ (by omega))
theorem W_back {f g : Nat → Bool} (h0 : W f 0 = W g 0) (h1 : W f 1 = W g 1) (h2 : W f 2 = W g 2) (h3 : W f 3 = W g 3) (k : Nat) (hk : k < 256) : f k = g k := by
  have e := Nat.div_add_mod k 64
  have hm : k % 64 < 64 := Nat.mod_lt _ (by omega)
  have hd : k / 64 < 4 := by omega
  rw [← e]
  rcases (by omega : k / 64 = 0 ∨ k / 64 = 1 ∨ k / 64 = 2 ∨ k / 64 = 3) with h | h | h | h <;> rw [h]
  · exact W_inj h0 _ hm
  · exact W_inj h1 _ hm
  · exact W_inj h2 _ hm
  · exact W_inj h3 _ hm

/-- The set that four words are. -/
def ofW (a b c d : Nat) (n : Nat) : Bool := if n < 64 then a.testBit n else if n < 128 then b.testBit (n - 64) else if n < 192 then c.testBit (n - 128) else d.testBit (n - 192)
theorem ofW0 (a b c d : Nat) (ha : a < 18446744073709551616) : W (ofW a b c d) 0 = a := (W_eq _ _ _ ha fun k hk => by unfold ofW; rw [if_pos (by omega)]; simp).symm
theorem ofW1 (a b c d : Nat) (ha : b < 18446744073709551616) : W (ofW a b c d) 1 = b := (W_eq _ _ _ ha fun k hk => by unfold ofW; rw [if_neg (by omega), if_pos (by omega), show 64 * 1 + k - 64 = k by omega]).symm
theorem ofW2 (a b c d : Nat) (ha : c < 18446744073709551616) : W (ofW a b c d) 2 = c := (W_eq _ _ _ ha fun k hk => by unfold ofW; rw [if_neg (by omega), if_neg (by omega), if_pos (by omega), show 64 * 2 + k - 128 = k by omega]).symm
theorem ofW3 (a b c d : Nat) (ha : d < 18446744073709551616) : W (ofW a b c d) 3 = d := (W_eq _ _ _ ha fun k hk => by unfold ofW; rw [if_neg (by omega), if_neg (by omega), if_neg (by omega), show 64 * 3 + k - 192 = k by omega]).symm

/-- How many bytes a set has, word by word. -/
theorem cnt_W (f : Nat → Bool) (i : Nat) : cntF (Nat.testBit (W f i)) 64 = cntF (fun k => f (64 * i + k)) 64 := cnt_congr fun k hk => W_test f i k hk
theorem cnt_256 (f : Nat → Bool) : cntF f 256 = cntF (Nat.testBit (W f 0)) 64 + cntF (Nat.testBit (W f 1)) 64 + cntF (Nat.testBit (W f 2)) 64 + cntF (Nat.testBit (W f 3)) 64 := by
  rw [cnt_W, cnt_W, cnt_W, cnt_W, show (256 : Nat) = 64 + (64 + (64 + 64)) from rfl, cnt_add, cnt_add, cnt_add]
  rw [cnt_congr (f := f) (g := fun k => f (64 * 0 + k)) (fun k _ => by simp)]
  rw [cnt_congr (f := fun k => f (64 + k)) (g := fun k => f (64 * 1 + k)) (fun k _ => by simp)]
  rw [cnt_congr (f := fun k => f (64 + (64 + k))) (g := fun k => f (64 * 2 + k)) (fun k _ => by congr 1; omega)]
  rw [cnt_congr (f := fun k => f (64 + (64 + (64 + k)))) (g := fun k => f (64 * 3 + k)) (fun k _ => by congr 1; omega)]
  omega

/-- A row of 256 flags. -/
def fl (f : Nat → Bool) : Array Value := ((List.range 256).map fun k => Value.bool (f k)).toArray
theorem fl_size (f : Nat → Bool) : (fl f).size = 256 := by simp [fl]
theorem fl_get (f : Nat → Bool) (k : Nat) (hk : k < 256) : (fl f)[k]? = some (.bool (f k)) := by simp [fl, hk]
theorem fl_congr {f g : Nat → Bool} (h : ∀ k, k < 256 → f k = g k) : fl f = fl g := by
  unfold fl; congr 1
  apply List.map_congr_left
  intro k hk
  rw [h k (by simpa using hk)]
theorem fl_set (f g : Nat → Bool) (k : Nat) (b : Bool) (h : ∀ j, j < 256 → g j = if j = k then b else f j) : (fl f).setIfInBounds k (.bool b) = fl g := by
  apply Array.ext_getElem?
  intro j
  rw [Array.getElem?_setIfInBounds]
  by_cases hj : j < 256
  · rw [fl_get g j hj, h j hj]
    by_cases he : k = j
    · subst he; simp [fl_size, hj]
    · rw [if_neg he, fl_get f j hj, if_neg (fun e => he e.symm)]
  · have e1 : (fl g)[j]? = none := by simp [fl_size]; omega
    have e2 : (fl f)[j]? = none := by simp [fl_size]; omega
    rw [e1, e2]
    by_cases he : k = j
    · subst he; simp [fl_size, hj]
    · rw [if_neg he]
theorem fl_one (f : Nat → Bool) : (fl f).all (·.oneCell') = true := by
  rw [Array.all_eq_true]
  intro i hi
  have h := fl_get f i (by rw [fl_size] at hi; exact hi)
  rw [Array.getElem?_eq_getElem hi] at h
  rw [Option.some.inj h]; rfl
theorem fl_none : fl (fun _ => false) = Array.replicate 256 (Value.bool false) := by
  apply Array.ext_getElem?
  intro j
  by_cases hj : j < 256
  · rw [fl_get _ j hj]; simp [hj]
  · simp [fl_size, hj]
end Go.Proofs.YtmjojahkbjlcdaaDoor
end
section
/- Has, with, Union, Meet, Not: byte by byte. -/
namespace Go.Proofs.YtmjojahkbjlcdaaDoor
set_option linter.unusedSimpArgs false
set_option linter.unusedVariables false
set_option maxRecDepth 100000
open Go.RowKit

theorem ret_agg {a b : Value} (h : a = b) : Ending.returned a = .returned b := by rw [h]
set_option maxHeartbeats 1000000 in
theorem has_any (f : Nat → Bool) (n : Nat) (hn : n < 256) (w : World) :
    Calls Tryd.prog 94 #[setV f, .int .u8 n] w fun e w' => e = .returned (.bool (f n)) ∧ Below w.heap.size w w' := by
  have hv : [Value.int IntKind.u64 (W f 0), Value.int IntKind.u64 (W f 1), Value.int IntKind.u64 (W f 2), Value.int IntKind.u64 (W f 3)][n / 64]? = some (.int .u64 (W f (n / 64))) := by
    rcases (by omega : n / 64 = 0 ∨ n / 64 = 1 ∨ n / 64 = 2 ∨ n / 64 = 3) with h | h | h | h <;> rw [h] <;> rfl
  have hr := W_has f (n / 64) (n % 64) (Nat.mod_lt _ (by omega))
  rw [Nat.div_add_mod] at hr
  generalize f n = v at hr ⊢
  go_enter Tryd.func94, Tryd.ntmps94
  go_wp2
  go_ret
  exact ⟨rfl, (Below.refl _ _).alloc (Nat.le_refl _) _⟩

set_option maxHeartbeats 1000000 in
theorem with_q (f : Nat → Bool) (n q : Nat) (hq : n / 64 = q) (hq4 : q = 0 ∨ q = 1 ∨ q = 2 ∨ q = 3) (w : World) :
    Calls Tryd.prog 102 #[setV f, .int .u8 n] w fun e w' => e = .returned (setV (fun b => f b || b == n)) ∧ Below w.heap.size w w' := by
  have hn : n < 256 := by omega
  have hr := W_with f q (n % 64) (Nat.mod_lt _ (by omega))
  rw [← hq, Nat.div_add_mod, hq] at hr
  have hs : ∀ i, i ≠ q → W (fun b => f b || b == n) i = W f i := fun i hi => W_skip f i n fun k hk e => by omega
  have HS := Lib.hid hs
  clear hs
  unfold setV
  rcases hq4 with rfl | rfl | rfl | rfl
  · rw [HS.out 1 (by decide), HS.out 2 (by decide), HS.out 3 (by decide)]
    generalize W (fun b => f b || b == n) 0 = g at hr ⊢
    clear HS
    go_enter Tryd.func102, Tryd.ntmps102
    go_wp2
    refine bodyPost_ret (v := _) (by simp [results, Tryd.results102, go_sem]) rfl ⟨rfl, ?_⟩
    exact (((Below.refl _ _).alloc (Nat.le_refl _) _).alloc (by simp) _)
  · rw [HS.out 0 (by decide), HS.out 2 (by decide), HS.out 3 (by decide)]
    generalize W (fun b => f b || b == n) 1 = g at hr ⊢
    clear HS
    go_enter Tryd.func102, Tryd.ntmps102
    go_wp2
    refine bodyPost_ret (v := _) (by simp [results, Tryd.results102, go_sem]) rfl ⟨rfl, ?_⟩
    exact (((Below.refl _ _).alloc (Nat.le_refl _) _).alloc (by simp) _)
  · rw [HS.out 1 (by decide), HS.out 0 (by decide), HS.out 3 (by decide)]
    generalize W (fun b => f b || b == n) 2 = g at hr ⊢
    clear HS
    go_enter Tryd.func102, Tryd.ntmps102
    go_wp2
    refine bodyPost_ret (v := _) (by simp [results, Tryd.results102, go_sem]) rfl ⟨rfl, ?_⟩
    exact (((Below.refl _ _).alloc (Nat.le_refl _) _).alloc (by simp) _)
  · rw [HS.out 1 (by decide), HS.out 2 (by decide), HS.out 0 (by decide)]
    generalize W (fun b => f b || b == n) 3 = g at hr ⊢
    clear HS
    go_enter Tryd.func102, Tryd.ntmps102
    go_wp2
    refine bodyPost_ret (v := _) (by simp [results, Tryd.results102, go_sem]) rfl ⟨rfl, ?_⟩
    exact (((Below.refl _ _).alloc (Nat.le_refl _) _).alloc (by simp) _)
theorem with_any (f : Nat → Bool) (n : Nat) (hn : n < 256) (w : World) :
    Calls Tryd.prog 102 #[setV f, .int .u8 n] w fun e w' => e = .returned (setV (fun b => f b || b == n)) ∧ Below w.heap.size w w' := with_q f n (n / 64) rfl (by omega) w
end Go.Proofs.YtmjojahkbjlcdaaDoor
end
section
/- math/bits.OnesCount64: how many bits are 1. -/
namespace Go.Proofs.YtmjojahkbjlcdaaDoor
set_option linter.unusedSimpArgs false
set_option linter.unusedVariables false
set_option maxRecDepth 100000
open Go.RowKit

theorem wrap_u64_id (x : Nat) (h : x < 18446744073709551616) : IntKind.u64.wrap (x : Int) = (x : Int) := by
  rw [IntKind.wrap_u64]; omega
theorem and_u64 (a b : Nat) (ha : a < 18446744073709551616) (hb : b < 18446744073709551616) : bits .and .u64 (a : Int) (b : Int) = ((a &&& b : Nat) : Int) := bits_and_u64_nat a b ha hb
theorem and_lt (a b : Nat) (hb : b < 18446744073709551616) : (a &&& b) < 18446744073709551616 := Nat.lt_of_le_of_lt Nat.and_le_right hb

theorem o1_lt (x : Nat) (h : x < 18446744073709551616) : o1 x < 18446744073709551616 := by
  unfold o1
  have h1 : (x / 2 &&& 6148914691236517205) ≤ 6148914691236517205 := Nat.and_le_right
  have h2 : (x &&& 6148914691236517205) ≤ 6148914691236517205 := Nat.and_le_right
  omega
theorem o2_lt (x : Nat) : o2 x < 18446744073709551616 / 2 := by
  unfold o2
  have h1 : (x / 4 &&& 3689348814741910323) ≤ 3689348814741910323 := Nat.and_le_right
  have h2 : (x &&& 3689348814741910323) ≤ 3689348814741910323 := Nat.and_le_right
  omega
theorem st1 (x : Nat) (h : x < 18446744073709551616) : IntKind.u64.wrap (bits .and .u64 ((x : Int) / 2) 6148914691236517205 + bits .and .u64 (x : Int) 6148914691236517205) = ((o1 x : Nat) : Int) := by
  have e1 : ((x : Int) / 2) = ((x / 2 : Nat) : Int) := by simp
  have a1 := and_u64 (x / 2) 6148914691236517205 (by omega) (by omega)
  have a2 := and_u64 x 6148914691236517205 h (by omega)
  have c : ((6148914691236517205 : Nat) : Int) = 6148914691236517205 := rfl
  rw [c] at a1 a2
  rw [e1, a1, a2, ← Int.natCast_add]
  exact wrap_u64_id _ (o1_lt x h)
theorem st2 (x : Nat) (h : x < 18446744073709551616) : IntKind.u64.wrap (bits .and .u64 ((x : Int) / 4) 3689348814741910323 + bits .and .u64 (x : Int) 3689348814741910323) = ((o2 x : Nat) : Int) := by
  have e1 : ((x : Int) / 4) = ((x / 4 : Nat) : Int) := by simp
  have a1 := and_u64 (x / 4) 3689348814741910323 (by omega) (by omega)
  have a2 := and_u64 x 3689348814741910323 h (by omega)
  have c : ((3689348814741910323 : Nat) : Int) = 3689348814741910323 := rfl
  rw [c] at a1 a2
  rw [e1, a1, a2, ← Int.natCast_add]
  exact wrap_u64_id _ (by have := o2_lt x; unfold o2 at this; omega)
theorem st3 (x : Nat) (h : x < 18446744073709551616 / 2) : bits .and .u64 (IntKind.u64.wrap ((x : Int) / 16 + (x : Int))) 1085102592571150095 = ((o3 x : Nat) : Int) := by
  have e1 : ((x : Int) / 16 + (x : Int)) = ((x / 16 + x : Nat) : Int) := by simp
  have a1 := and_u64 (x / 16 + x) 1085102592571150095 (by omega) (by omega)
  have c : ((1085102592571150095 : Nat) : Int) = 1085102592571150095 := rfl
  rw [c] at a1
  rw [e1, wrap_u64_id _ (by omega), a1]; rfl

theorem i63 : ((2 : Int) ^ 63) = 9223372036854775808 := by decide
theorem wraps_i64 (n : Int) (h0 : 0 ≤ n) (h1 : n < 2 ^ 63) : IntKind.i64.wrap n = n := by
  rw [i63] at h1
  rw [IntKind.wrap_i64]; omega
theorem p7 : ((2 : Int) ^ 7) = 128 := by decide
theorem p7' : ((2 : Int) ^ 7 - 1) = 127 := by decide
theorem and127 (t : Nat) (h : t < 9223372036854775808) : bits .and .i64 (t : Int) 127 = ((t % 128 : Nat) : Int) := by
  have h1 : (t : Int) < 9223372036854775808 := by omega
  have hm := bits_mask .i64 63 (by decide) wraps_i64 7 (by decide) (t : Int) (Int.natCast_nonneg t) (i63.symm ▸ h1)
  rw [p7', p7] at hm
  rw [hm]
  exact (Int.natCast_emod t 128).symm

theorem sums (u a b t : Nat) (q2 : u + u / 256 = a) (q3 : a + a / 65536 = b) (q4 : b + b / 4294967296 = t) (q5 : u < 1152921504606846976) :
    IntKind.u64.wrap ((u : Int) + (u : Int) / 256) = (a : Int) ∧ IntKind.u64.wrap ((a : Int) + (a : Int) / 65536) = (b : Int) ∧ IntKind.u64.wrap ((b : Int) + (b : Int) / 4294967296) = (t : Int) ∧ t < 9223372036854775808 := by
  refine ⟨?_, ?_, ?_, ?_⟩
  · rw [IntKind.wrap_u64]; omega
  · rw [IntKind.wrap_u64]; omega
  · rw [IntKind.wrap_u64]; omega
  · omega
theorem e7 (t : Nat) (h : t < 9223372036854775808) : bits .and .i64 (wrap64 (t : Int)) 127 = ((t % 128 : Nat) : Int) := by
  have hw : wrap64 (t : Int) = (t : Int) := IntWalk.wrap64_in _ (by omega)
  rw [hw, and127 t h]

set_option maxHeartbeats 1000000 in
theorem ones_any (x : Nat) (hx : x < 18446744073709551616) (w : World) :
    Calls Tryd.prog 91 #[.int .u64 x] w fun e w' => e = .returned (.int .i64 (cntF (Nat.testBit x) 64 : Nat)) ∧ w = w' := by
  have e1 := st1 x hx
  have l1 := o1_lt x hx
  generalize hy : o1 x = y at e1 l1
  have e2 := st2 y l1
  have l2 := o2_lt y
  generalize hz : o2 y = z at e2 l2
  have e3 := st3 z l2
  obtain ⟨u, a, b, t, q1, q2, q3, q4, q5, q6⟩ := ones_all x hx
  rw [hy, hz] at q1
  rw [q1] at e3
  obtain ⟨e4, e5, e6, l4⟩ := sums u a b t q2 q3 q4 q5
  have e7 := e7 t l4
  rw [q6] at e7
  generalize hc : cntF (Nat.testBit x) 64 = c at e7
  clear q1 q2 q3 q4 q5 q6 l1 l2 l4 hy hz hx hc
  go_enter Tryd.func91, Tryd.ntmps91
  go_wp2
  go_ret
  exact ⟨rfl, rfl⟩
end Go.Proofs.YtmjojahkbjlcdaaDoor
end
section
/- Union, Meet, Not, Count: word by word. -/
namespace Go.Proofs.YtmjojahkbjlcdaaDoor
set_option linter.unusedSimpArgs false
set_option linter.unusedVariables false
set_option maxRecDepth 100000
open Go.RowKit

theorem below_drewN {B : Nat} {a w : World} (h : Below B a w) (n : Nat) : Below B a (w.drewN n) := ⟨h.os, h.tape, h.output, h.size, h.block⟩
def C4 (x : Nat → Value) : Array Value := #[x 0, x 1, x 2, x 3]
theorem C4_get (x : Nat → Value) (k : Nat) (h : k < 4) : (C4 x)[k]? = some (x k) := by
  rcases (by omega : k = 0 ∨ k = 1 ∨ k = 2 ∨ k = 3) with rfl | rfl | rfl | rfl <;> rfl
theorem C4_set (x y : Nat → Value) (k : Nat) (v : Value) (h : ∀ j, j < 4 → y j = if j = k then v else x j) : (C4 x).setIfInBounds k v = C4 y := by
  apply Array.ext_getElem?
  intro j
  rw [Array.getElem?_setIfInBounds]
  by_cases hj : j < 4
  · rw [C4_get y j hj, h j hj]
    by_cases he : k = j
    · subst he; simp [C4, hj]
    · rw [if_neg he, C4_get x j hj, if_neg (fun e => he e.symm)]
  · have e1 : (C4 y)[j]? = none := by simp [C4]; omega
    have e2 : (C4 x)[j]? = none := by simp [C4]; omega
    rw [e1, e2]
    by_cases he : k = j
    · subst he; simp [C4, hj]
    · rw [if_neg he]
def mix (r a : Nat → Value) (k j : Nat) : Value := if j < k then r j else a j
/-- Two arrays of four words, and one that is to be the answer. -/
def U (w0 : World) (r a b : Nat → Value) (k : Nat) (w : World) : Prop :=
  w.heap[w0.heap.size]? = some (.cells (C4 (mix r a k)) 24 (0, 0)) ∧ w.heap[w0.heap.size + 1]? = some (.cells (C4 b) 24 (0, 0)) ∧
  w.heap[w0.heap.size + 2]? = some (.cells #[.int .u64 0, .int .u64 0, .int .u64 0, .int .u64 0] 24 (0, 0)) ∧ Below w0.heap.size w0 w
theorem U.start (w : World) (r a b : Nat → Value) : U w r a b 0 (((w.alloc (.cells (C4 a) 24)).alloc (.cells (C4 b) 24)).alloc (.cells #[.int .u64 0, .int .u64 0, .int .u64 0, .int .u64 0] 24)) := by
  refine ⟨?_, ?_, ?_, (((Below.refl _ _).alloc (Nat.le_refl _) _).alloc (by simp) _).alloc (by simp; omega) _⟩
  · rw [heap_alloc_old _ _ (by simp; omega), heap_alloc2_old]
    have : mix r a 0 = a := by funext j; simp [mix]
    rw [this]
  · rw [heap_alloc_old _ _ (by simp), heap_alloc2_new]
  · have h := _root_.Go.heap_alloc_new ((w.alloc (.cells (C4 a) 24)).alloc (.cells (C4 b) 24)) (.cells #[.int .u64 0, .int .u64 0, .int .u64 0, .int .u64 0] 24)
    have e : ((w.alloc (.cells (C4 a) 24)).alloc (.cells (C4 b) 24)).heap.size = w.heap.size + 2 := by simp
    rwa [e] at h
theorem U.drewN {w0 w : World} {r a b : Nat → Value} {k : Nat} (h : U w0 r a b k w) (n : Nat) : U w0 r a b k (w.drewN n) := ⟨h.1, h.2.1, h.2.2.1, below_drewN h.2.2.2 n⟩
theorem U.set {w0 w : World} {r a b : Nat → Value} {k : Nat} (h : U w0 r a b k w) (hk : k < 4) : U w0 r a b (k + 1) (w.setCell ⟨w0.heap.size, k, none⟩ (r k)) := by
  refine ⟨?_, ?_, ?_, h.2.2.2.setCell (p := ⟨w0.heap.size, k, none⟩) (Nat.le_refl _) _⟩
  · rw [heap_setCell_same w _ k _ 24 (r k) h.1, C4_set (mix r a k) (mix r a (k + 1)) k (r k)]
    intro j hj
    unfold mix
    by_cases e : j = k
    · subst e; simp
    · by_cases h1 : j < k
      · simp [h1, e, show j < k + 1 by omega]
      · simp [h1, e, show ¬ j < k + 1 by omega]
  · rw [heap_setCell_other _ _ _ _ (by simp)]; exact h.2.1
  · rw [heap_setCell_other _ _ _ _ (by simp)]; exact h.2.2.1
theorem U.c0 {w0 w : World} {r a b : Nat → Value} {k : Nat} (h : U w0 r a b k w) (hk : k < 4) : w.cell? ⟨w0.heap.size, k, none⟩ = some (a k) := by
  rw [cell_of_row w _ k _ 24 (0, 0) h.1, C4_get _ _ hk]; simp [mix]
theorem U.c1 {w0 w : World} {r a b : Nat → Value} {k : Nat} (h : U w0 r a b k w) (hk : k < 4) : w.cell? ⟨w0.heap.size + 1, k, none⟩ = some (b k) := by
  rw [cell_of_row w _ k _ 24 (0, 0) h.2.1, C4_get _ _ hk]
theorem U.f0 {w0 w : World} {r a b : Nat → Value} {k : Nat} (h : U w0 r a b k w) : w.frozen? ⟨w0.heap.size, k, none⟩ = false := frozen_of_row w _ k _ 24 h.1
theorem U.e0 {w0 w : World} {r a b : Nat → Value} (h : U w0 r a b 4 w) (j : Nat) (hj : j < 4) : w.cell? ⟨w0.heap.size, j, none⟩ = some (r j) := by
  rw [cell_of_row w _ j _ 24 (0, 0) h.1, C4_get _ _ hj]; simp [mix, hj]
theorem U.h2 {w0 w : World} {r a b : Nat → Value} {k : Nat} (h : U w0 r a b k w) : w0.heap.size + 2 < w.heap.size := (Array.getElem?_eq_some_iff.1 h.2.2.1).1
def zero4 (j : Nat) : Value := .int .u64 0
theorem U.z {w0 w : World} {r a b : Nat → Value} {k : Nat} (h : U w0 r a b k w) (j : Nat) (hj : j < 4) : w.cell? ⟨w0.heap.size + 1 + 1, j, none⟩ = some (.int .u64 0) := by
  rw [cell_of_row w _ j _ 24 (0, 0) h.2.2.1]; rcases (by omega : j = 0 ∨ j = 1 ∨ j = 2 ∨ j = 3) with rfl | rfl | rfl | rfl <;> rfl
theorem U.zf {w0 w : World} {r a b : Nat → Value} {k : Nat} (h : U w0 r a b k w) (j : Nat) : w.frozen? ⟨w0.heap.size + 1 + 1, j, none⟩ = false := frozen_of_row w _ j _ 24 h.2.2.1

set_option maxHeartbeats 2000000 in
theorem union_r (a b r : Nat → Nat) (hr : ∀ k, k < 4 → bits .or .u64 (a k : Int) (b k : Int) = ((r k : Nat) : Int)) (w : World) :
    Calls Tryd.prog 118 #[.agg #[.int .u64 (a 0), .int .u64 (a 1), .int .u64 (a 2), .int .u64 (a 3)], .agg #[.int .u64 (b 0), .int .u64 (b 1), .int .u64 (b 2), .int .u64 (b 3)]] w
      fun e w' => e = .returned (.agg #[.int .u64 (r 0), .int .u64 (r 1), .int .u64 (r 2), .int .u64 (r 3)]) ∧ Below w.heap.size w w' := by
  have HR := Lib.hid hr
  clear hr
  have S0 := Lib.hid (U.start w (fun k => .int .u64 (r k)) (fun k => .int .u64 (a k)) (fun k => .int .u64 (b k)))
  unfold C4 at S0
  go_enter Tryd.func118, Tryd.ntmps118
  go_wp2
  go_loopw [6] (fun i wr => ∃ k : Nat, k ≤ 4 ∧ i = .int .i64 k ∧ U w (fun k => .int .u64 (r k)) (fun k => .int .u64 (a k)) (fun k => .int .u64 (b k)) k wr) (fun i _ => 4 - (intOf i).toNat)
  case atStart => exact ⟨0, by omega, rfl, S0.out⟩
  case round =>
    obtain ⟨k, hk, rfl, hS⟩ := hrel
    have HS := Lib.hid hS
    clear hS
    by_cases hlt : k < 4
    · have hlt' : (k : Int) < 4 := by omega
      have c0 := HS.out.c0 hlt
      have c1 := HS.out.c1 hlt
      have f0 := HS.out.f0
      have z0 : w.heap.size < wr.heap.size := by have := HS.out.h2; omega
      have hv := HR.out k hlt
      go_wp2
      go_region
      go_wp2
      go_roundw
      case rel => exact ⟨k + 1, by omega, by go_num, (HS.out.set hlt).drewN 1⟩
      case measure => simp [intOf]; omega
    · obtain rfl : k = 4 := by omega
      clear hlt hk
      have c0 := HS.out.e0 0 (by omega)
      have c1 := HS.out.e0 1 (by omega)
      have c2 := HS.out.e0 2 (by omega)
      have c3 := HS.out.e0 3 (by omega)
      have d0 := HS.out.z 0 (by omega)
      have d1 := HS.out.z 1 (by omega)
      have d2 := HS.out.z 2 (by omega)
      have d3 := HS.out.z 3 (by omega)
      have g0 := HS.out.zf 0
      have g1 := HS.out.zf 1
      have g2 := HS.out.zf 2
      have g3 := HS.out.zf 3
      have z2 : w.heap.size + 1 + 1 < wr.heap.size := HS.out.h2
      go_wp2
      refine bodyPost_ret (v := .agg #[.int .u64 (r 0), .int .u64 (r 1), .int .u64 (r 2), .int .u64 (r 3)]) (by simp [results, Tryd.results118, go_sem, c0, c1, c2, c3, d0, d1, d2, d3, g0, g1, g2, g3, z2]) rfl ⟨rfl, ?_⟩
      have hb := HS.out.2.2.2
      exact (((hb.setCell (p := ⟨w.heap.size + 1 + 1, 0, none⟩) (by simp; omega) _).setCell (p := ⟨w.heap.size + 1 + 1, 1, none⟩) (by simp; omega) _).setCell (p := ⟨w.heap.size + 1 + 1, 2, none⟩) (by simp; omega) _).setCell (p := ⟨w.heap.size + 1 + 1, 3, none⟩) (by simp; omega) _
theorem union_any (f g : Nat → Bool) (w : World) :
    Calls Tryd.prog 118 #[setV f, setV g] w fun e w' => e = .returned (setV (fun b => f b || g b)) ∧ Below w.heap.size w w' :=
  union_r (W f) (W g) (W fun b => f b || g b) (fun k _ => W_or f g k) w
end Go.Proofs.YtmjojahkbjlcdaaDoor
end
section
/- Union, Meet, Not, Count: word by word. -/
namespace Go.Proofs.YtmjojahkbjlcdaaDoor
set_option linter.unusedSimpArgs false
set_option linter.unusedVariables false
set_option maxRecDepth 100000
open Go.RowKit

set_option maxHeartbeats 2000000 in
theorem not_any (f : Nat → Bool) (w : World) :
    Calls Tryd.prog 89 #[setV f] w fun e w' => e = .returned (setV (fun b => !f b)) ∧ Below w.heap.size w w' := by
  have h0 := W_not f 0; have h1 := W_not f 1; have h2 := W_not f 2; have h3 := W_not f 3
  have hsg : IntKind.u64.signed = false := rfl
  have hmx : (18446744073709551615 : Int) = IntKind.u64.max := rfl
  rw [hmx] at h0 h1 h2 h3
  clear hmx
  unfold setV
  generalize W (fun b => !f b) 0 = r0 at h0 ⊢
  generalize W (fun b => !f b) 1 = r1 at h1 ⊢
  generalize W (fun b => !f b) 2 = r2 at h2 ⊢
  generalize W (fun b => !f b) 3 = r3 at h3 ⊢
  generalize W f 0 = a0 at *
  generalize W f 1 = a1 at *
  generalize W f 2 = a2 at *
  generalize W f 3 = a3 at *
  go_enter Tryd.func89, Tryd.ntmps89
  go_wp2
  refine wp_loop_rounds 5 ?_
  rw [rounds_succ]
  go_wp2
  rw [rounds_succ]
  go_wp2
  rw [rounds_succ]
  go_wp2
  rw [rounds_succ]
  go_wp2
  rw [rounds_succ]
  go_wp2
  refine bodyPost_ret (v := _) (by simp [results, Tryd.results89, go_sem]) rfl ⟨rfl, ?_⟩
  exact (((Below.refl _ _).alloc (Nat.le_refl _) _).alloc (by simp) _)

set_option maxHeartbeats 2000000 in
theorem count_any (f : Nat → Bool) (w : World) :
    Calls Tryd.prog 71 #[setV f] w fun e w' => e = .returned (.int .i64 (cntF f 256 : Nat)) ∧ Below w.heap.size w w' := by
  rw [cnt_256]
  have c0 := Lib.hid (ones_any (W f 0) (W_lt f 0))
  have c1 := Lib.hid (ones_any (W f 1) (W_lt f 1))
  have c2 := Lib.hid (ones_any (W f 2) (W_lt f 2))
  have c3 := Lib.hid (ones_any (W f 3) (W_lt f 3))
  have l0 := cnt_le (Nat.testBit (W f 0)) 64
  have l1 := cnt_le (Nat.testBit (W f 1)) 64
  have l2 := cnt_le (Nat.testBit (W f 2)) 64
  have l3 := cnt_le (Nat.testBit (W f 3)) 64
  generalize cntF (Nat.testBit (W f 0)) 64 = r0 at *
  generalize cntF (Nat.testBit (W f 1)) 64 = r1 at *
  generalize cntF (Nat.testBit (W f 2)) 64 = r2 at *
  generalize cntF (Nat.testBit (W f 3)) 64 = r3 at *
  unfold setV
  generalize W f 0 = a0 at *
  generalize W f 1 = a1 at *
  generalize W f 2 = a2 at *
  generalize W f 3 = a3 at *
  have i0 : ∀ w, (Instr.index 24 (.agg #[.int .u64 a0, .int .u64 a1, .int .u64 a2, .int .u64 a3]) (.int .i64 0)).run Tryd.prog w = .ok (.int .u64 a0) w := fun _ => by kernel_rfl
  have i1 : ∀ w, (Instr.index 24 (.agg #[.int .u64 a0, .int .u64 a1, .int .u64 a2, .int .u64 a3]) (.int .i64 1)).run Tryd.prog w = .ok (.int .u64 a1) w := fun _ => by kernel_rfl
  have i2 : ∀ w, (Instr.index 24 (.agg #[.int .u64 a0, .int .u64 a1, .int .u64 a2, .int .u64 a3]) (.int .i64 2)).run Tryd.prog w = .ok (.int .u64 a2) w := fun _ => by kernel_rfl
  have i3 : ∀ w, (Instr.index 24 (.agg #[.int .u64 a0, .int .u64 a1, .int .u64 a2, .int .u64 a3]) (.int .i64 3)).run Tryd.prog w = .ok (.int .u64 a3) w := fun _ => by kernel_rfl
  go_enter Tryd.func71, Tryd.ntmps71
  go_wp2
  refine wp_loop_rounds 5 ?_
  rw [rounds_succ]
  go_wp2_with fail
  refine (c0.out _).mono ?_
  rintro _ _ ⟨rfl, rfl⟩
  go_wp2
  rw [rounds_succ]
  go_wp2_with fail
  refine (c1.out _).mono ?_
  rintro _ _ ⟨rfl, rfl⟩
  go_wp2
  rw [rounds_succ]
  go_wp2_with fail
  refine (c2.out _).mono ?_
  rintro _ _ ⟨rfl, rfl⟩
  go_wp2
  rw [rounds_succ]
  go_wp2_with fail
  refine (c3.out _).mono ?_
  rintro _ _ ⟨rfl, rfl⟩
  go_wp2
  rw [rounds_succ]
  go_wp2
  go_ret
  exact ⟨by simp, (Below.refl _ _).alloc (Nat.le_refl _) _⟩
end Go.Proofs.YtmjojahkbjlcdaaDoor
end
