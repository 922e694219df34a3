/- Texts of package regs, one behind the other. -/
import Derived.Laws.Entries
import Derived.Laws.Bits64
import Derived.Laws.Bits64b
import Derived.Test.YthglciccejholaaDoorZ3
import Derived.Test.YthglciccejholaaDoorProg
import Derived.WalkKit
import Derived.WalkLawsBesides
import Derived.WalkSpells
import Derived.Outline
import Derived.Lib.Walk
import Derived.Lib.Hide
import Derived.Lib.Slices
import Derived.Lib.Strings
import Derived.RegionTactic
import Derived.LoopTactic
import Derived.Below
import Derived.IntWalk
import Derived.Deep.QuietTactic
import Derived.BigQuiet
import Derived.Deep.MidRow
import Derived.Maps.AppendAt
import Derived.Laws.Rows
import Derived.Laws.Tables
import Derived.Deep.WholeRow
import Derived.Deep.Cut
import Derived.Deep.CutRange
section
/- Words of bits: a set of the numbers below 256 as four words; what '|', '&', '^', '<<', '>>' do to a bit; rows of 256 flags. No program, no world. -/
namespace Go.Proofs.YthglciccejholaaDoor
set_option linter.unusedSimpArgs false
set_option linter.unusedVariables false
set_option maxRecDepth 100000

def bitsN (g : Nat → Bool) : Nat → Nat
  | 0 => 0
  | n + 1 => (g n).toNat * 2 ^ n + bitsN g n
theorem bitsN_lt (g : Nat → Bool) : ∀ n, bitsN g n < 2 ^ n
  | 0 => by simp [bitsN]
  | n + 1 => by
    have := bitsN_lt g n
    simp only [bitsN, Nat.pow_succ]
    cases g n <;> simp <;> omega
theorem bitsN_test (g : Nat → Bool) : ∀ n k, (bitsN g n).testBit k = (decide (k < n) && g k)
  | 0, k => by simp [bitsN]
  | n + 1, k => by
    have h := bitsN_lt g n
    have ih := bitsN_test g n k
    simp only [bitsN]
    cases hg : g n
    · simp [ih]
      by_cases hk : k < n
      · simp [hk, show k < n + 1 by omega]
      · by_cases he : k = n
        · subst he; simp [hg]
        · simp [hk, show ¬ k < n + 1 by omega]
    · simp only [Bool.toNat_true, Nat.one_mul]
      by_cases he : k = n
      · subst he
        rw [Nat.testBit_two_pow_add_eq]
        simp [ih, hg]
      · by_cases hk : k < n
        · rw [Nat.testBit_two_pow_add_gt hk]; simp [ih, hk, show k < n + 1 by omega]
        · have h3 : 2 ^ n + bitsN g n < 2 ^ k := by
            have : 2 ^ (n + 1) ≤ 2 ^ k := Nat.pow_le_pow_right (by omega) (by omega)
            rw [Nat.pow_succ] at this; omega
          rw [Nat.testBit_lt_two_pow h3]; simp [show ¬ k < n + 1 by omega]

/-- Word i of the set of all numbers below 256 that are in f. -/
def W (f : Nat → Bool) (i : Nat) : Nat := bitsN (fun k => f (64 * i + k)) 64
theorem W_lt (f : Nat → Bool) (i : Nat) : W f i < 18446744073709551616 := bitsN_lt _ 64
theorem W_test (f : Nat → Bool) (i k : Nat) (hk : k < 64) : (W f i).testBit k = f (64 * i + k) := by unfold W; rw [bitsN_test]; simp [hk]
theorem W_eq (f : Nat → Bool) (i x : Nat) (hx : x < 18446744073709551616) (h : ∀ k, k < 64 → x.testBit k = f (64 * i + k)) : x = W f i := by
  apply Nat.eq_of_testBit_eq
  intro k
  by_cases hk : k < 64
  · rw [W_test f i k hk, h k hk]
  · have e : (2 : Nat) ^ 64 ≤ 2 ^ k := Nat.pow_le_pow_right (by omega) (by omega)
    have e64 : (2 : Nat) ^ 64 = 18446744073709551616 := by decide
    have := W_lt f i
    rw [Nat.testBit_lt_two_pow (by omega), Nat.testBit_lt_two_pow (by omega)]
theorem W_congr {f g : Nat → Bool} (i : Nat) (h : ∀ k, k < 64 → f (64 * i + k) = g (64 * i + k)) : W f i = W g i :=
  W_eq g i _ (W_lt f i) fun k hk => by rw [W_test f i k hk, h k hk]
theorem W_inj {f g : Nat → Bool} {i : Nat} (h : W f i = W g i) (k : Nat) (hk : k < 64) : f (64 * i + k) = g (64 * i + k) := by
  rw [← W_test f i k hk, h, W_test g i k hk]
theorem W_lt' (f : Nat → Bool) (i : Nat) : W f i < 2 ^ 64 := bitsN_lt _ 64
theorem p64 : (2 : Nat) ^ 64 = 18446744073709551616 := by decide
theorem W_or (f g : Nat → Bool) (i : Nat) : bits .or .u64 (W f i : Int) (W g i : Int) = ((W (fun b => f b || g b) i : Nat) : Int) := by
  rw [bits_or_u64_nat _ _ (W_lt f i) (W_lt g i)]
  refine congrArg (fun n : Nat => (n : Int)) ?_
  refine W_eq _ _ _ (p64 ▸ Nat.or_lt_two_pow (W_lt' f i) (W_lt' g i)) fun k hk => ?_
  rw [Nat.testBit_or, W_test f i k hk, W_test g i k hk]
theorem W_and (f g : Nat → Bool) (i : Nat) : bits .and .u64 (W f i : Int) (W g i : Int) = ((W (fun b => f b && g b) i : Nat) : Int) := by
  rw [bits_and_u64_nat _ _ (W_lt f i) (W_lt g i)]
  refine congrArg (fun n : Nat => (n : Int)) ?_
  refine W_eq _ _ _ (p64 ▸ Nat.and_lt_two_pow _ (W_lt' g i)) fun k hk => ?_
  rw [Nat.testBit_and, W_test f i k hk, W_test g i k hk]
theorem W_not (f : Nat → Bool) (i : Nat) : bits .xor .u64 18446744073709551615 (W f i : Int) = ((W (fun b => !f b) i : Nat) : Int) := by
  have h := bits_xor_u64_nat 18446744073709551615 (W f i) (by omega) (W_lt f i)
  rw [show ((18446744073709551615 : Nat) : Int) = 18446744073709551615 from rfl] at h
  rw [h]
  refine congrArg (fun n : Nat => (n : Int)) ?_
  refine W_eq _ _ _ (p64 ▸ Nat.xor_lt_two_pow (by rw [p64]; omega) (W_lt' f i)) fun k hk => ?_
  rw [Nat.testBit_xor, W_test f i k hk, show (18446744073709551615 : Nat) = 2 ^ 64 - 1 by decide, Nat.testBit_two_pow_sub_one]; simp [hk]
/-- A bit that is asked for. -/
theorem W_has (f : Nat → Bool) (i k : Nat) (hk : k < 64) : (bits .and .u64 ((W f i : Int) / 2 ^ k) 1 == 1) = f (64 * i + k) := by
  have e : ((W f i : Int) / 2 ^ k) = ((W f i / 2 ^ k : Nat) : Int) := by simp
  have h := bits_and_u64_nat (W f i / 2 ^ k) 1 (Nat.lt_of_le_of_lt (Nat.div_le_self ..) (W_lt f i)) (by omega)
  rw [show ((1 : Nat) : Int) = 1 from rfl] at h
  rw [e, h, Nat.and_one_is_mod, ← W_test f i k hk, Nat.testBit_eq_decide_div_mod_eq]
  rw [Bool.eq_iff_iff]; simp; omega
/-- A bit that is put. -/
theorem W_with (f : Nat → Bool) (i k : Nat) (hk : k < 64) : bits .or .u64 (W f i : Int) (IntKind.u64.wrap (2 ^ k)) = ((W (fun b => f b || b == 64 * i + k) i : Nat) : Int) := by
  have hp : (2 : Nat) ^ k < 18446744073709551616 := Nat.pow_lt_pow_right (by omega) (show k < 64 from hk)
  have e : IntKind.u64.wrap (2 ^ k) = ((2 ^ k : Nat) : Int) := by
    have : ((2 ^ k : Nat) : Int) = 2 ^ k := by simp
    rw [← this, IntKind.wrap_u64]
    clear this
    generalize (2 : Nat) ^ k = z at hp ⊢
    omega
  rw [e, bits_or_u64_nat _ _ (W_lt f i) hp]
  refine congrArg (fun n : Nat => (n : Int)) ?_
  refine W_eq _ _ _ (p64 ▸ Nat.or_lt_two_pow (W_lt' f i) (p64.symm ▸ hp)) fun j hj => ?_
  rw [Nat.testBit_or, W_test f i j hj, Nat.testBit_two_pow]
  have e : decide (k = j) = (64 * i + j == 64 * i + k) := by rw [Bool.eq_iff_iff]; simp; omega
  rw [e]
theorem W_skip (f : Nat → Bool) (i n : Nat) (h : ∀ k, k < 64 → n ≠ 64 * i + k) : W (fun b => f b || b == n) i = W f i :=
  W_congr i fun k hk => by
    have := h k hk
    rw [show ((64 * i + k == n) = false) by rw [beq_eq_false_iff_ne]; omega, Bool.or_false]

/-- A set's value. -/
abbrev setV (f : Nat → Bool) : Value := .agg #[.int .u64 (W f 0), .int .u64 (W f 1), .int .u64 (W f 2), .int .u64 (W f 3)]
theorem setV_congr {f g : Nat → Bool} (h : ∀ k, k < 256 → f k = g k) : setV f = setV g := by
  unfold setV
  rw [W_congr 0 (fun k hk => h _ (by omega)), W_congr 1 (fun k hk => h _ (by omega)), W_congr 2 (fun k hk => h _ (by omega)), W_congr 3 (fun k hk => h _ (by omega))]
theorem W_all {f g : Nat → Bool} (h : ∀ k, k < 256 → f k = g k) (i : Nat) (hi : i < 4) : W f i = W g i := W_congr i (fun k hk => h _ (by omega))
theorem W_back {f g : Nat → Bool} (h0 : W f 0 = W g 0) (h1 : W f 1 = W g 1) (h2 : W f 2 = W g 2) (h3 : W f 3 = W g 3) (k : Nat) (hk : k < 256) : f k = g k := by
  have e := Nat.div_add_mod k 64
  have hm : k % 64 < 64 := Nat.mod_lt _ (by omega)
  have hd : k / 64 < 4 := by omega
  rw [← e]
  rcases (by omega : k / 64 = 0 ∨ k / 64 = 1 ∨ k / 64 = 2 ∨ k / 64 = 3) with h | h | h | h <;> rw [h]
  · exact W_inj h0 _ hm
  · exact W_inj h1 _ hm
  · exact W_inj h2 _ hm
  · exact W_inj h3 _ hm

/-- The set that four words are. -/
def ofW (a b c d : Nat) (n : Nat) : Bool := if n < 64 then a.testBit n else if n < 128 then b.testBit (n - 64) else if n < 192 then c.testBit (n - 128) else d.testBit (n - 192)
theorem ofW0 (a b c d : Nat) (ha : a < 18446744073709551616) : W (ofW a b c d) 0 = a := (W_eq _ _ _ ha fun k hk => by unfold ofW; rw [if_pos (by omega)]; simp).symm
theorem ofW1 (a b c d : Nat) (ha : b < 18446744073709551616) : W (ofW a b c d) 1 = b := (W_eq _ _ _ ha fun k hk => by unfold ofW; rw [if_neg (by omega), if_pos (by omega), show 64 * 1 + k - 64 = k by omega]).symm
theorem ofW2 (a b c d : Nat) (ha : c < 18446744073709551616) : W (ofW a b c d) 2 = c := (W_eq _ _ _ ha fun k hk => by unfold ofW; rw [if_neg (by omega), if_neg (by omega), if_pos (by omega), show 64 * 2 + k - 128 = k by omega]).symm
theorem ofW3 (a b c d : Nat) (ha : d < 18446744073709551616) : W (ofW a b c d) 3 = d := (W_eq _ _ _ ha fun k hk => by unfold ofW; rw [if_neg (by omega), if_neg (by omega), if_neg (by omega), show 64 * 3 + k - 192 = k by omega]).symm

/-- How many bytes a set has, word by word. -/
theorem cnt_W (f : Nat → Bool) (i : Nat) : cntF (Nat.testBit (W f i)) 64 = cntF (fun k => f (64 * i + k)) 64 := cnt_congr fun k hk => W_test f i k hk
theorem cnt_256 (f : Nat → Bool) : cntF f 256 = cntF (Nat.testBit (W f 0)) 64 + cntF (Nat.testBit (W f 1)) 64 + cntF (Nat.testBit (W f 2)) 64 + cntF (Nat.testBit (W f 3)) 64 := by
  rw [cnt_W, cnt_W, cnt_W, cnt_W, show (256 : Nat) = 64 + (64 + (64 + 64)) from rfl, cnt_add, cnt_add, cnt_add]
  rw [cnt_congr (f := f) (g := fun k => f (64 * 0 + k)) (fun k _ => by simp)]
  rw [cnt_congr (f := fun k => f (64 + k)) (g := fun k => f (64 * 1 + k)) (fun k _ => by simp)]
  rw [cnt_congr (f := fun k => f (64 + (64 + k))) (g := fun k => f (64 * 2 + k)) (fun k _ => by congr 1; omega)]
  rw [cnt_congr (f := fun k => f (64 + (64 + (64 + k)))) (g := fun k => f (64 * 3 + k)) (fun k _ => by congr 1; omega)]
  omega

/-- A row of 256 flags. -/
def fl (f : Nat → Bool) : Array Value := ((List.range 256).map fun k => Value.bool (f k)).toArray
theorem fl_size (f : Nat → Bool) : (fl f).size = 256 := by simp [fl]
theorem fl_get (f : Nat → Bool) (k : Nat) (hk : k < 256) : (fl f)[k]? = some (.bool (f k)) := by simp [fl, hk]
theorem fl_congr {f g : Nat → Bool} (h : ∀ k, k < 256 → f k = g k) : fl f = fl g := by
  unfold fl; congr 1
  apply List.map_congr_left
  intro k hk
  rw [h k (by simpa using hk)]
theorem fl_set (f g : Nat → Bool) (k : Nat) (b : Bool) (h : ∀ j, j < 256 → g j = if j = k then b else f j) : (fl f).setIfInBounds k (.bool b) = fl g := by
  apply Array.ext_getElem?
  intro j
  rw [Array.getElem?_setIfInBounds]
  by_cases hj : j < 256
  · rw [fl_get g j hj, h j hj]
    by_cases he : k = j
    · subst he; simp [fl_size, hj]
    · rw [if_neg he, fl_get f j hj, if_neg (fun e => he e.symm)]
  · have e1 : (fl g)[j]? = none := by simp [fl_size]; omega
    have e2 : (fl f)[j]? = none := by simp [fl_size]; omega
    rw [e1, e2]
    by_cases he : k = j
    · subst he; simp [fl_size, hj]
    · rw [if_neg he]
theorem fl_one (f : Nat → Bool) : (fl f).all (·.oneCell') = true := by
  rw [Array.all_eq_true]
  intro i hi
  have h := fl_get f i (by rw [fl_size] at hi; exact hi)
  rw [Array.getElem?_eq_getElem hi] at h
  rw [Option.some.inj h]; rfl
theorem fl_none : fl (fun _ => false) = Array.replicate 256 (Value.bool false) := by
  apply Array.ext_getElem?
  intro j
  by_cases hj : j < 256
  · rw [fl_get _ j hj]; simp [hj]
  · simp [fl_size, hj]
end Go.Proofs.YthglciccejholaaDoor
end
section
/- Package nfa. -/
namespace Go.Proofs.YthglciccejholaaDoor
set_option linter.unusedSimpArgs false
set_option linter.unusedVariables false
set_option maxRecDepth 100000
open Go.RowKit
/- sets.Has of four words; reach with room. -/
theorem ret_agg {a b : Value} (h : a = b) : Ending.returned a = .returned b := by rw [h]
set_option maxHeartbeats 1000000 in
theorem has_any (f : Nat → Bool) (n : Nat) (hn : n < 256) (w : World) :
    Calls Tryd.prog 80 #[setV f, .int .u8 n] w fun e w' => e = .returned (.bool (f n)) ∧ Below w.heap.size w w' := by
  have hv : [Value.int IntKind.u64 (W f 0), Value.int IntKind.u64 (W f 1), Value.int IntKind.u64 (W f 2), Value.int IntKind.u64 (W f 3)][n / 64]? = some (.int .u64 (W f (n / 64))) := by
    rcases (by omega : n / 64 = 0 ∨ n / 64 = 1 ∨ n / 64 = 2 ∨ n / 64 = 3) with h | h | h | h <;> rw [h] <;> rfl
  have hr := W_has f (n / 64) (n % 64) (Nat.mod_lt _ (by omega))
  rw [Nat.div_add_mod] at hr
  generalize f n = v at hr ⊢
  go_enter Tryd.func80, Tryd.ntmps80
  go_wp2
  go_ret
  exact ⟨rfl, (Below.refl _ _).alloc (Nat.le_refl _) _⟩
def okW (u : Nat → Int) : Prop := ∀ i, 0 ≤ u i ∧ u i ≤ 18446744073709551615
def uV (u : Nat → Int) : Value := .agg #[.int .u64 (u 0), .int .u64 (u 1), .int .u64 (u 2), .int .u64 (u 3)]
theorem hasU_any {u : Nat → Int} (hu : okW u) (b : UInt8) (w : World) : Calls Tryd.prog 80 #[uV u, .int .u8 b.toNat] w fun e w' => e = .returned (.bool (hasU u b)) ∧ Below w.heap.size w w' := by
  have hk : ∀ i, ∃ k : Nat, k < 18446744073709551616 ∧ u i = k := fun i => ⟨(u i).toNat, by have := hu i; omega, by have := hu i; omega⟩
  obtain ⟨k0, l0, h0⟩ := hk 0
  obtain ⟨k1, l1, h1⟩ := hk 1
  obtain ⟨k2, l2, h2⟩ := hk 2
  obtain ⟨k3, l3, h3⟩ := hk 3
  have hb : b.toNat < 256 := b.toNat_lt
  have e0 := ofW0 k0 k1 k2 k3 l0
  have e1 := ofW1 k0 k1 k2 k3 l1
  have e2 := ofW2 k0 k1 k2 k3 l2
  have e3 := ofW3 k0 k1 k2 k3 l3
  have hv : uV u = setV (ofW k0 k1 k2 k3) := by
    unfold uV setV; rw [h0, h1, h2, h3, e0, e1, e2, e3]
  have hf : hasU u b = ofW k0 k1 k2 k3 b.toNat := by
    unfold hasU
    have ht := W_test (ofW k0 k1 k2 k3) (b.toNat / 64) (b.toNat % 64) (Nat.mod_lt _ (by omega))
    rw [Nat.div_add_mod] at ht
    rw [← ht]
    have : (u (b.toNat / 64)).toNat = W (ofW k0 k1 k2 k3) (b.toNat / 64) := by
      rcases (by omega : b.toNat / 64 = 0 ∨ b.toNat / 64 = 1 ∨ b.toNat / 64 = 2 ∨ b.toNat / 64 = 3) with h | h | h | h <;> rw [h]
      · rw [h0, e0, Int.toNat_natCast]
      · rw [h1, e1, Int.toNat_natCast]
      · rw [h2, e2, Int.toNat_natCast]
      · rw [h3, e3, Int.toNat_natCast]
    rw [this]
  rw [hv, hf]
  exact has_any _ _ hb w
/-- A front whose states lie in a row that is known whole. -/
structure FG (B : Nat) (w0 y : World) (F A : Nat) (stp : Value) (n : Nat) (la l : List Nat) (g cap : Nat) (cs : Array Value) : Prop where
  bel : Below B w0 y
  f : y.heap[F]? = some (.cells #[stp, .slice (some ⟨g, 0, none⟩) l.length cap, .slice (some ⟨A, 0, none⟩) n n] 84)
  a : y.heap[A]? = some (.cells (mkb n la) 4)
  r : y.heap[g]? = some (.cells cs 3)
  ln : cs.size = cap
  max : cap ≤ maxLen
  new : ∀ i (h : i < l.length), cs[i]? = some (.int .i64 (l[i] : Nat))
  hF : B ≤ F
  hA : B ≤ A
  hg : B ≤ g
  fa : F ≠ A
  fg : F ≠ g
  ag : A ≠ g
  sz : B ≤ y.heap.size
theorem FG.len {B : Nat} {w0 y : World} {F A n : Nat} {stp : Value} {la l : List Nat} {g cap : Nat} {cs : Array Value} (h : FG B w0 y F A stp n la l g cap cs) : l.length ≤ cap := by
  by_cases h0 : l.length = 0
  · omega
  · have h1 := h.new (l.length - 1) (by omega)
    have h2 := (Array.getElem?_eq_some_iff.1 h1).1
    rw [h.ln] at h2; omega
theorem FG.fr {B : Nat} {w0 y : World} {F A n : Nat} {stp : Value} {la l : List Nat} {g cap : Nat} {cs : Array Value} (h : FG B w0 y F A stp n la l g cap cs) : FR B w0 y F A stp n la l (.slice (some ⟨g, 0, none⟩) l.length cap) :=
  ⟨h.bel, h.f, h.a, own1_row ⟨h.hg, h.r, h.len, h.max, h.ln, h.new⟩, h.hF, h.hA, h.fa, fun e => h.fg (by simpa [Value.ownBlock] using e.symm), fun e => h.ag (by simpa [Value.ownBlock] using e.symm), h.sz⟩
set_option maxHeartbeats 4000000 in
theorem reachG_in {B : Nat} {w0 y : World} {F A n : Nat} {stp : Value} {l : List Nat} {g cap : Nat} {cs : Array Value} {s : Nat} (h : FG B w0 y F A stp n l l g cap cs) (hs : s < n) (hn : n ≤ 4096) (hin : s ∈ l) :
    Calls Tryd.prog 44 #[.pointer (some ⟨F, 0, none⟩), .int .i64 (s : Nat)] y fun e y' => e = .returned (.tuple #[]) ∧ FG B w0 y' F A stp n l l g cap cs := by
  have H := Lib.hid h
  have c2 : y.cell? ⟨F, 2, none⟩ = some (.slice (some ⟨A, 0, none⟩) n n) := cell_of_row y F 2 _ 84 (0, 0) h.f
  have ca : y.cell? ⟨A, s, none⟩ = some (.bool true) := by rw [cell_of_row y A s _ 4 (0, 0) h.a, mkb_get hs]; simp [hin]
  have hs1 : ¬ (s : Int) < 0 := by omega
  have hs2 : (s : Int) < (n : Int) := by omega
  clear h hin
  go_enter Tryd.func44, Tryd.ntmps44
  go_wp2_with fail
  go_end0
  exact ⟨rfl, H.out⟩
set_option maxHeartbeats 4000000 in
theorem reachG_new {B : Nat} {w0 y : World} {F A n : Nat} {stp : Value} {l : List Nat} {g cap : Nat} {cs : Array Value} {s : Nat} (h : FG B w0 y F A stp n l l g cap cs) (hs : s < n) (hn : n ≤ 4096) (hroom : l.length + 1 ≤ cap) (hin : ¬ s ∈ l) :
    Calls Tryd.prog 44 #[.pointer (some ⟨F, 0, none⟩), .int .i64 (s : Nat)] y fun e y' => e = .returned (.tuple #[]) ∧ FG B w0 y' F A stp n (l ++ [s]) (l ++ [s]) g cap (cs.setIfInBounds l.length (.int .i64 (s : Nat))) := by
  obtain ⟨i0, hi, hz0, hz1, hz2⟩ := info_parts info3
  have c2 : y.cell? ⟨F, 2, none⟩ = some (.slice (some ⟨A, 0, none⟩) n n) := cell_of_row y F 2 _ 84 (0, 0) h.f
  have ca : y.cell? ⟨A, s, none⟩ = some (.bool false) := by rw [cell_of_row y A s _ 4 (0, 0) h.a, mkb_get hs]; simp [hin]
  have fa : y.frozen? ⟨A, s, none⟩ = false := frozen_of_row y A s _ 4 h.a
  have hs1 : ¬ (s : Int) < 0 := by omega
  have hs2 : (s : Int) < (n : Int) := by omega
  have hA1 : (y.setCell ⟨A, s, none⟩ (.bool true)).heap[A]? = some (.cells (mkb n (l ++ [s])) 4) := by
    have := heap_setCell_same y A s _ 4 (.bool true) h.a
    rwa [mkb_set] at this
  have H1 : Hid (FG B w0 (y.setCell ⟨A, s, none⟩ (.bool true)) F A stp n (l ++ [s]) l g cap cs) := Lib.hid ⟨h.bel.setCell (p := ⟨A, s, none⟩) h.hA _, (heap_setCell_other y _ F _ h.fa).trans h.f, hA1, (heap_setCell_other y _ g _ (fun e => h.ag e.symm)).trans h.r, h.ln, h.max, h.new, h.hF, h.hA, h.hg, h.fa, h.fg, h.ag, by simpa using h.sz⟩
  clear hA1 h hin
  go_enter Tryd.func44, Tryd.ntmps44
  go_upto_region 2 with fail
  refine at_world (fun z => FG B w0 z F A stp n (l ++ [s]) l g cap cs) H1.out fun z hz => ?_
  have H2 := Lib.hid hz
  have c1 : z.cell? ⟨F, 1, none⟩ = some (.slice (some ⟨g, 0, none⟩) l.length cap) := cell_of_row z F 1 _ 84 (0, 0) hz.f
  have hglt : g < z.heap.size := (Array.getElem?_eq_some_iff.1 hz.r).1
  have hFlt : F < z.heap.size := (Array.getElem?_eq_some_iff.1 hz.f).1
  have hAlt : A < z.heap.size := (Array.getElem?_eq_some_iff.1 hz.a).1
  have X4 := Lib.hid ((heap_alloc_old z (.cells #[.int .i64 (s : Nat)] 3) hglt).trans hz.r)
  have hcs := hz.ln
  have hcu : l.length < cs.size := by omega
  have HB := Lib.hid ((hz.bel.alloc hz.sz (.cells #[.int .i64 (s : Nat)] 3)))
  have HF := Lib.hid ((heap_alloc_old z (.cells #[.int .i64 (s : Nat)] 3) hFlt).trans hz.f)
  have HA := Lib.hid ((heap_alloc_old z (.cells #[.int .i64 (s : Nat)] 3) hAlt).trans hz.a)
  have hzsz := hz.sz
  have hsz1 : (z.alloc (.cells #[.int .i64 (s : Nat)] 3)).heap.size = z.heap.size + 1 := by simp
  have HSZ := Lib.hid hsz1
  have HV := Lib.hid (cell_one_new z (.int .i64 (s : Nat)) 3 0 _ rfl)
  clear hz c2 ca fa H1 hsz1
  go_wp2_with (at_builtin; refine wpList_append_row1 _ rfl (.tmp 22) (.tmp 24) 39 rfl 3 i0 Tryd.underlying39 hi hz1 g l.length cap cs X4.out rfl ⟨z.heap.size, 0, none⟩ 1 (.int .i64 (s : Nat)) rfl HV.out rfl hroom hcu ?_)
  intro w7 hw7'
  have hw7 := hw7'.out
  have hF7 : w7.heap[F]? = some (.cells #[stp, .slice (some ⟨g, 0, none⟩) l.length cap, .slice (some ⟨A, 0, none⟩) n n] 84) := by rw [← hw7]; exact (setRow_other _ g F _ H2.out.fg).trans HF.out
  have hA7 : w7.heap[A]? = some (.cells (mkb n (l ++ [s])) 4) := by rw [← hw7]; exact (setRow_other _ g A _ H2.out.ag).trans HA.out
  have hr7 : w7.heap[g]? = some (.cells (cs.setIfInBounds l.length (.int .i64 (s : Nat))) 3) := by rw [← hw7]; exact setRow_heap _ g _ _ 3 (0, 0) X4.out
  have hb7 : Below B w0 w7 := by rw [← hw7]; exact below_row HB.out H2.out.hg _
  have hs7 : B ≤ w7.heap.size := by rw [← hw7]; simp; omega
  clear hw7 hw7'
  have hF8 : w7.cell? ⟨F, 1, none⟩ = some (.slice (some ⟨g, 0, none⟩) l.length cap) := cell_of_row w7 F 1 _ 84 (0, 0) hF7
  have hFf : w7.frozen? ⟨F, 1, none⟩ = false := frozen_of_row w7 F 1 _ 84 hF7
  have hnew : ∀ i (h : i < (l ++ [s]).length), (cs.setIfInBounds l.length (.int .i64 (s : Nat)))[i]? = some (.int .i64 ((l ++ [s])[i] : Nat)) := fun i hi => by
    rw [Array.getElem?_setIfInBounds]
    by_cases e : l.length = i
    · subst e; rw [if_pos rfl, if_pos hcu]; simp
    · have hi' : i < l.length := by simp at hi; omega
      rw [if_neg e, H2.out.new i hi', List.getElem_append_left hi']
  have H3 : Hid (FG B w0 (w7.setCell ⟨F, 1, none⟩ (.slice (some ⟨g, 0, none⟩) (l.length + 1) cap)) F A stp n (l ++ [s]) (l ++ [s]) g cap (cs.setIfInBounds l.length (.int .i64 (s : Nat)))) := Lib.hid ⟨hb7.setCell (p := ⟨F, 1, none⟩) H2.out.hF _, by
      have h9 := heap_setCell_same w7 F 1 _ 84 (.slice (some ⟨g, 0, none⟩) (l.length + 1) cap) hF7
      rw [List.length_append]; exact h9, (heap_setCell_other w7 _ A _ (fun e => H2.out.fa e.symm)).trans hA7, (heap_setCell_other w7 _ g _ (fun e => H2.out.fg e.symm)).trans hr7, by simpa using hcs, H2.out.max, hnew, H2.out.hF, H2.out.hA, H2.out.hg, H2.out.fa, H2.out.fg, H2.out.ag, by simpa using hs7⟩
  clear hF7 hA7 hr7 hb7 hs7 hnew X4 H2 c1 HB HF HA HSZ
  go_wp2_with fail
  go_end0
  exact ⟨rfl, H3.out⟩
theorem reachG_any {B : Nat} {w0 y : World} {F A n : Nat} {stp : Value} {l : List Nat} {g cap : Nat} {cs : Array Value} {s : Nat} (h : FG B w0 y F A stp n l l g cap cs) (hs : s < n) (hn : n ≤ 4096) (hroom : l.length + 1 ≤ cap) :
    Calls Tryd.prog 44 #[.pointer (some ⟨F, 0, none⟩), .int .i64 (s : Nat)] y fun e y' => e = .returned (.tuple #[]) ∧ ∃ cs', FG B w0 y' F A stp n (rch l s) (rch l s) g cap cs' ∧ ∀ i, l.length < i → cs'[i]? = cs[i]? := by
  unfold rch
  by_cases hin : s ∈ l
  · rw [if_pos hin]
    exact (reachG_in h hs hn hin).mono fun e y' k => ⟨k.1, cs, k.2, fun _ _ => rfl⟩
  · rw [if_neg hin]
    exact (reachG_new h hs hn hroom hin).mono fun e y' k => ⟨k.1, _, k.2, fun i hi => by rw [Array.getElem?_setIfInBounds, if_neg (by omega)]⟩
end Go.Proofs.YthglciccejholaaDoor
end
