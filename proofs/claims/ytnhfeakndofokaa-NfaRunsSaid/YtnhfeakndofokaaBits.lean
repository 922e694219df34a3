/- Words of bits: a set of the numbers below 256 as four words; what '|', '&', '^', '<<', '>>' do to a bit; rows of 256 flags. No program, no world. -/
import Derived.Laws.Entries
import Derived.Laws.Bits64
import Derived.Laws.Bits64b
import Derived.Test.YtnhfeakndofokaaPop
namespace Go.Proofs.Ytnhfeakndofokaa
set_option linter.unusedSimpArgs false
set_option linter.unusedVariables false
set_option maxRecDepth 100000

def bitsN (g : Nat → Bool) : Nat → Nat
  | 0 => 0
  | n + 1 => (g n).toNat * 2 ^ n + bitsN g n
theorem bitsN_lt (g : Nat → Bool) : ∀ n, bitsN g n < 2 ^ n
  | 0 => by simp [bitsN]
  | n + 1 => by
    have := bitsN_lt g n
    simp only [bitsN, Nat.pow_succ]
    cases g n <;> simp <;> omega
theorem bitsN_test (g : Nat → Bool) : ∀ n k, (bitsN g n).testBit k = (decide (k < n) && g k)
  | 0, k => by simp [bitsN]
  | n + 1, k => by
    have h := bitsN_lt g n
    have ih := bitsN_test g n k
    simp only [bitsN]
    cases hg : g n
    · simp [ih]
      by_cases hk : k < n
      · simp [hk, show k < n + 1 by omega]
      · by_cases he : k = n
        · subst he; simp [hg]
        · simp [hk, show ¬ k < n + 1 by omega]
    · simp only [Bool.toNat_true, Nat.one_mul]
      by_cases he : k = n
      · subst he
        rw [Nat.testBit_two_pow_add_eq]
        simp [ih, hg]
      · by_cases hk : k < n
        · rw [Nat.testBit_two_pow_add_gt hk]; simp [ih, hk, show k < n + 1 by omega]
        · have h3 : 2 ^ n + bitsN g n < 2 ^ k := by
            have : 2 ^ (n + 1) ≤ 2 ^ k := Nat.pow_le_pow_right (by omega) (by omega)
            rw [Nat.pow_succ] at this; omega
          rw [Nat.testBit_lt_two_pow h3]; simp [show ¬ k < n + 1 by omega]

/-- Word i of the set of all numbers below 256 that are in f. -/
def W (f : Nat → Bool) (i : Nat) : Nat := bitsN (fun k => f (64 * i + k)) 64
theorem W_lt (f : Nat → Bool) (i : Nat) : W f i < 18446744073709551616 := bitsN_lt _ 64
theorem W_test (f : Nat → Bool) (i k : Nat) (hk : k < 64) : (W f i).testBit k = f (64 * i + k) := by unfold W; rw [bitsN_test]; simp [hk]
theorem W_eq (f : Nat → Bool) (i x : Nat) (hx : x < 18446744073709551616) (h : ∀ k, k < 64 → x.testBit k = f (64 * i + k)) : x = W f i := by
  apply Nat.eq_of_testBit_eq
  intro k
  by_cases hk : k < 64
  · rw [W_test f i k hk, h k hk]
  · have e : (2 : Nat) ^ 64 ≤ 2 ^ k := Nat.pow_le_pow_right (by omega) (by omega)
    have e64 : (2 : Nat) ^ 64 = 18446744073709551616 := by decide
    have := W_lt f i
    rw [Nat.testBit_lt_two_pow (by omega), Nat.testBit_lt_two_pow (by omega)]
theorem W_congr {f g : Nat → Bool} (i : Nat) (h : ∀ k, k < 64 → f (64 * i + k) = g (64 * i + k)) : W f i = W g i :=
  W_eq g i _ (W_lt f i) fun k hk => by rw [W_test f i k hk, h k hk]
theorem W_inj {f g : Nat → Bool} {i : Nat} (h : W f i = W g i) (k : Nat) (hk : k < 64) : f (64 * i + k) = g (64 * i + k) := by
  rw [← W_test f i k hk, h, W_test g i k hk]
theorem W_lt' (f : Nat → Bool) (i : Nat) : W f i < 2 ^ 64 := bitsN_lt _ 64
theorem p64 : (2 : Nat) ^ 64 = 18446744073709551616 := by decide
theorem W_or (f g : Nat → Bool) (i : Nat) : bits .or .u64 (W f i : Int) (W g i : Int) = ((W (fun b => f b || g b) i : Nat) : Int) := by
  rw [bits_or_u64_nat _ _ (W_lt f i) (W_lt g i)]
  refine congrArg (fun n : Nat => (n : Int)) ?_
  refine W_eq _ _ _ (p64 ▸ Nat.or_lt_two_pow (W_lt' f i) (W_lt' g i)) fun k hk => ?_
  rw [Nat.testBit_or, W_test f i k hk, W_test g i k hk]
theorem W_and (f g : Nat → Bool) (i : Nat) : bits .and .u64 (W f i : Int) (W g i : Int) = ((W (fun b => f b && g b) i : Nat) : Int) := by
  rw [bits_and_u64_nat _ _ (W_lt f i) (W_lt g i)]
  refine congrArg (fun n : Nat => (n : Int)) ?_
  refine W_eq _ _ _ (p64 ▸ Nat.and_lt_two_pow _ (W_lt' g i)) fun k hk => ?_
  rw [Nat.testBit_and, W_test f i k hk, W_test g i k hk]
theorem W_not (f : Nat → Bool) (i : Nat) : bits .xor .u64 18446744073709551615 (W f i : Int) = ((W (fun b => !f b) i : Nat) : Int) := by
  have h := bits_xor_u64_nat 18446744073709551615 (W f i) (by omega) (W_lt f i)
  rw [show ((18446744073709551615 : Nat) : Int) = 18446744073709551615 from rfl] at h
  rw [h]
  refine congrArg (fun n : Nat => (n : Int)) ?_
  refine W_eq _ _ _ (p64 ▸ Nat.xor_lt_two_pow (by rw [p64]; omega) (W_lt' f i)) fun k hk => ?_
  rw [Nat.testBit_xor, W_test f i k hk, show (18446744073709551615 : Nat) = 2 ^ 64 - 1 by decide, Nat.testBit_two_pow_sub_one]; simp [hk]
/-- A bit that is asked for. -/
theorem W_has (f : Nat → Bool) (i k : Nat) (hk : k < 64) : (bits .and .u64 ((W f i : Int) / 2 ^ k) 1 == 1) = f (64 * i + k) := by
  have e : ((W f i : Int) / 2 ^ k) = ((W f i / 2 ^ k : Nat) : Int) := by simp
  have h := bits_and_u64_nat (W f i / 2 ^ k) 1 (Nat.lt_of_le_of_lt (Nat.div_le_self ..) (W_lt f i)) (by omega)
  rw [show ((1 : Nat) : Int) = 1 from rfl] at h
  rw [e, h, Nat.and_one_is_mod, ← W_test f i k hk, Nat.testBit_eq_decide_div_mod_eq]
  rw [Bool.eq_iff_iff]; simp; omega
/-- A bit that is put. -/
theorem W_with (f : Nat → Bool) (i k : Nat) (hk : k < 64) : bits .or .u64 (W f i : Int) (IntKind.u64.wrap (2 ^ k)) = ((W (fun b => f b || b == 64 * i + k) i : Nat) : Int) := by
  have hp : (2 : Nat) ^ k < 18446744073709551616 := Nat.pow_lt_pow_right (by omega) (show k < 64 from hk)
  have e : IntKind.u64.wrap (2 ^ k) = ((2 ^ k : Nat) : Int) := by
    have : ((2 ^ k : Nat) : Int) = 2 ^ k := by simp
    rw [← this, IntKind.wrap_u64]
    clear this
    generalize (2 : Nat) ^ k = z at hp ⊢
    omega
  rw [e, bits_or_u64_nat _ _ (W_lt f i) hp]
  refine congrArg (fun n : Nat => (n : Int)) ?_
  refine W_eq _ _ _ (p64 ▸ Nat.or_lt_two_pow (W_lt' f i) (p64.symm ▸ hp)) fun j hj => ?_
  rw [Nat.testBit_or, W_test f i j hj, Nat.testBit_two_pow]
  have e : decide (k = j) = (64 * i + j == 64 * i + k) := by rw [Bool.eq_iff_iff]; simp; omega
  rw [e]
theorem W_skip (f : Nat → Bool) (i n : Nat) (h : ∀ k, k < 64 → n ≠ 64 * i + k) : W (fun b => f b || b == n) i = W f i :=
  W_congr i fun k hk => by
    have := h k hk
    rw [show ((64 * i + k == n) = false) by rw [beq_eq_false_iff_ne]; omega, Bool.or_false]

/-- A set's value. -/
abbrev setV (f : Nat → Bool) : Value := .agg #[.int .u64 (W f 0), .int .u64 (W f 1), .int .u64 (W f 2), .int .u64 (W f 3)]
theorem setV_congr {f g : Nat → Bool} (h : ∀ k, k < 256 → f k = g k) : setV f = setV g := by
  unfold setV
  rw [W_congr 0 (fun k hk => h _ (by omega)), W_congr 1 (fun k hk => h _ (by omega)), W_congr 2 (fun k hk => h _ (by omega)), W_congr 3 (fun k hk => h _ (by omega))]
theorem W_all {f g : Nat → Bool} (h : ∀ k, k < 256 → f k = g k) (i : Nat) (hi : i < 4) : W f i = W g i := W_congr i (fun k hk => h _ (by omega))
theorem W_back {f g : Nat → Bool} (h0 : W f 0 = W g 0) (h1 : W f 1 = W g 1) (h2 : W f 2 = W g 2) (h3 : W f 3 = W g 3) (k : Nat) (hk : k < 256) : f k = g k := by
  have e := Nat.div_add_mod k 64
  have hm : k % 64 < 64 := Nat.mod_lt _ (by omega)
  have hd : k / 64 < 4 := by omega
  rw [← e]
  rcases (by omega : k / 64 = 0 ∨ k / 64 = 1 ∨ k / 64 = 2 ∨ k / 64 = 3) with h | h | h | h <;> rw [h]
  · exact W_inj h0 _ hm
  · exact W_inj h1 _ hm
  · exact W_inj h2 _ hm
  · exact W_inj h3 _ hm

/-- The set that four words are. -/
def ofW (a b c d : Nat) (n : Nat) : Bool := if n < 64 then a.testBit n else if n < 128 then b.testBit (n - 64) else if n < 192 then c.testBit (n - 128) else d.testBit (n - 192)
theorem ofW0 (a b c d : Nat) (ha : a < 18446744073709551616) : W (ofW a b c d) 0 = a := (W_eq _ _ _ ha fun k hk => by unfold ofW; rw [if_pos (by omega)]; simp).symm
theorem ofW1 (a b c d : Nat) (ha : b < 18446744073709551616) : W (ofW a b c d) 1 = b := (W_eq _ _ _ ha fun k hk => by unfold ofW; rw [if_neg (by omega), if_pos (by omega), show 64 * 1 + k - 64 = k by omega]).symm
theorem ofW2 (a b c d : Nat) (ha : c < 18446744073709551616) : W (ofW a b c d) 2 = c := (W_eq _ _ _ ha fun k hk => by unfold ofW; rw [if_neg (by omega), if_neg (by omega), if_pos (by omega), show 64 * 2 + k - 128 = k by omega]).symm
theorem ofW3 (a b c d : Nat) (ha : d < 18446744073709551616) : W (ofW a b c d) 3 = d := (W_eq _ _ _ ha fun k hk => by unfold ofW; rw [if_neg (by omega), if_neg (by omega), if_neg (by omega), show 64 * 3 + k - 192 = k by omega]).symm

/-- How many bytes a set has, word by word. -/
theorem cnt_W (f : Nat → Bool) (i : Nat) : cntF (Nat.testBit (W f i)) 64 = cntF (fun k => f (64 * i + k)) 64 := cnt_congr fun k hk => W_test f i k hk
theorem cnt_256 (f : Nat → Bool) : cntF f 256 = cntF (Nat.testBit (W f 0)) 64 + cntF (Nat.testBit (W f 1)) 64 + cntF (Nat.testBit (W f 2)) 64 + cntF (Nat.testBit (W f 3)) 64 := by
  rw [cnt_W, cnt_W, cnt_W, cnt_W, show (256 : Nat) = 64 + (64 + (64 + 64)) from rfl, cnt_add, cnt_add, cnt_add]
  rw [cnt_congr (f := f) (g := fun k => f (64 * 0 + k)) (fun k _ => by simp)]
  rw [cnt_congr (f := fun k => f (64 + k)) (g := fun k => f (64 * 1 + k)) (fun k _ => by simp)]
  rw [cnt_congr (f := fun k => f (64 + (64 + k))) (g := fun k => f (64 * 2 + k)) (fun k _ => by congr 1; omega)]
  rw [cnt_congr (f := fun k => f (64 + (64 + (64 + k)))) (g := fun k => f (64 * 3 + k)) (fun k _ => by congr 1; omega)]
  omega

/-- A row of 256 flags. -/
def fl (f : Nat → Bool) : Array Value := ((List.range 256).map fun k => Value.bool (f k)).toArray
theorem fl_size (f : Nat → Bool) : (fl f).size = 256 := by simp [fl]
theorem fl_get (f : Nat → Bool) (k : Nat) (hk : k < 256) : (fl f)[k]? = some (.bool (f k)) := by simp [fl, hk]
theorem fl_congr {f g : Nat → Bool} (h : ∀ k, k < 256 → f k = g k) : fl f = fl g := by
  unfold fl; congr 1
  apply List.map_congr_left
  intro k hk
  rw [h k (by simpa using hk)]
theorem fl_set (f g : Nat → Bool) (k : Nat) (b : Bool) (h : ∀ j, j < 256 → g j = if j = k then b else f j) : (fl f).setIfInBounds k (.bool b) = fl g := by
  apply Array.ext_getElem?
  intro j
  rw [Array.getElem?_setIfInBounds]
  by_cases hj : j < 256
  · rw [fl_get g j hj, h j hj]
    by_cases he : k = j
    · subst he; simp [fl_size, hj]
    · rw [if_neg he, fl_get f j hj, if_neg (fun e => he e.symm)]
  · have e1 : (fl g)[j]? = none := by simp [fl_size]; omega
    have e2 : (fl f)[j]? = none := by simp [fl_size]; omega
    rw [e1, e2]
    by_cases he : k = j
    · subst he; simp [fl_size, hj]
    · rw [if_neg he]
theorem fl_one (f : Nat → Bool) : (fl f).all (·.oneCell') = true := by
  rw [Array.all_eq_true]
  intro i hi
  have h := fl_get f i (by rw [fl_size] at hi; exact hi)
  rw [Array.getElem?_eq_getElem hi] at h
  rw [Option.some.inj h]; rfl
theorem fl_none : fl (fun _ => false) = Array.replicate 256 (Value.bool false) := by
  apply Array.ext_getElem?
  intro j
  by_cases hj : j < 256
  · rw [fl_get _ j hj]; simp [hj]
  · simp [fl_size, hj]
end Go.Proofs.Ytnhfeakndofokaa
