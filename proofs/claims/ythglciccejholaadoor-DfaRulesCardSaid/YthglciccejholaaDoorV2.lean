/- Texts of package regs, one behind the other. -/
import Derived.Test.YthglciccejholaaDoorProg
import Derived.Test.YthglciccejholaaDoorV1
import Derived.WalkKit
import Derived.WalkLawsBesides
import Derived.WalkSpells
import Derived.Outline
import Derived.Lib.Walk
import Derived.Lib.Hide
import Derived.Lib.Slices
import Derived.Lib.Strings
import Derived.RegionTactic
import Derived.LoopTactic
import Derived.Below
import Derived.IntWalk
import Derived.Deep.QuietTactic
import Derived.BigQuiet
import Derived.Deep.MidRow
import Derived.Maps.AppendAt
import Derived.Laws.Rows
import Derived.Laws.Tables
import Derived.Deep.WholeRow
import Derived.Deep.Cut
import Derived.Deep.CutRange
import Derived.Laws.AppendOwn
import Derived.Laws.OwnMore
import Derived.Laws.Entries
import Derived.Laws.Bits64
import Derived.Laws.Bits64b
import Derived.BigFrame
import Derived.WalkMore
import Derived.ScopeJumps
import Derived.StillTailTactics
import Derived.Stop.BytesEq
import Derived.Lib.SliceRun
import Derived.Laws.MakeOwn
import Derived.Deep.RegionLaw
import Derived.Deep.RegionLawGrows
import Derived.Deep.RegionHeld3
import Derived.RegionCalls
import Derived.Deep.RegionWith
import Derived.Deep.Light
import Derived.Laws.CopyOwn
import Derived.Laws.ResultCell
section
/- Package nfa. -/
namespace Go.Proofs.YthglciccejholaaDoor
set_option linter.unusedSimpArgs false
set_option linter.unusedVariables false
set_option maxRecDepth 100000
open Go.RowKit
/- reach. -/
def ints (l : List Nat) : List Value := l.map fun s => .int .i64 (s : Nat)
/-- A front: its box F, the truths in A. -/
structure FR (B : Nat) (w0 y : World) (F A : Nat) (stp : Value) (n : Nat) (la l : List Nat) (sl : Value) : Prop where
  bel : Below B w0 y
  f : y.heap[F]? = some (.cells #[stp, sl, .slice (some ⟨A, 0, none⟩) n n] 84)
  a : y.heap[A]? = some (.cells (mkb n la) 4)
  row : y.ownsRow B 3 1 sl l.length (ints l)
  hF : B ≤ F
  hA : B ≤ A
  fa : F ≠ A
  sF : sl.ownBlock ≠ some F
  sA : sl.ownBlock ≠ some A
  sz : B ≤ y.heap.size
theorem row_form {y : World} {B : Nat} {sl : Value} {n : Nat} {xs : List Value} (h : y.ownsRow B 3 1 sl n xs) : ∃ p c, sl = .slice p n c := by
  rcases h.2 with ⟨rfl, rfl⟩ | ⟨g, cap, cur, rfl, _⟩
  · exact ⟨_, _, rfl⟩
  · exact ⟨_, _, rfl⟩
theorem info3 : (Tryd.prog.info? 3).map (fun i => (i.zero, i.size, i.bytes)) = some (some (.int .i64 0), 1, 8) := by kernel_rfl
end Go.Proofs.YthglciccejholaaDoor
end
section
/- Package nfa. -/
namespace Go.Proofs.YthglciccejholaaDoor
set_option linter.unusedSimpArgs false
set_option linter.unusedVariables false
set_option maxRecDepth 100000
open Go.RowKit
/- goFree. -/
/-- What may be led through: each way leads «to» a state. -/
def InB (ss : List Nst) : Prop := ∀ s x, x ∈ frOf ss s → 0 ≤ x ∧ x < ss.length
theorem frOf_get {ss : List Nst} {s : Nat} (h : s < ss.length) : frOf ss s = ss[s].fr := by
  unfold frOf; rw [List.getElem?_eq_getElem h]
theorem SV.up {B : Nat} {w0 y : World} {ss : List Nst} {stp : Value} (h : SV (fun b => b < B) w0 ss stp) (hb : Below B w0 y) : SV (fun b => b < B) y ss stp := h.mono (fun b hb => hb) (fun b hB _ => hb.block b hB)
theorem FR.reb {B : Nat} {w0 y : World} {F A n : Nat} {stp sl : Value} {la l : List Nat} (h : FR B w0 y F A stp n la l sl) (hn : l ≠ []) : ∃ g cap cs, sl = .slice (some ⟨g, 0, none⟩) l.length cap ∧ own1 B g cap l cs y := own1_of h.row hn
end Go.Proofs.YthglciccejholaaDoor
end
section
/- Package nfa, plain. -/
namespace Go.Proofs.YthglciccejholaaDoor
set_option linter.unusedSimpArgs false
set_option linter.unusedVariables false
set_option maxRecDepth 100000
/- One state more, from which a free way leads «to» the start. -/
theorem Rt.first {ss : List Nst} {a b : Nat} (h : Rt ss a b) : b = a ∨ ∃ x ∈ frOf ss a, Rt ss x.toNat b := by
  induction h with
  | refl => exact .inl rfl
  | step h' x hx hc ih =>
    rcases ih with rfl | ⟨y, hy, hr⟩
    · exact .inr ⟨x, hx, hc ▸ .refl _⟩
    · exact .inr ⟨y, hy, .step hr x hx hc⟩
theorem Acc.lt {has : (Nat → Int) → UInt8 → Bool} {ss : List Nst} (hf : Fine ss) : ∀ (x : List UInt8) {a b : Nat}, Acc has ss x a b → a < ss.length → b < ss.length
  | [], a, b, h, ha => Rt.lt hf (show Rt ss a b from h) ha
  | c :: r, a, b, ⟨s, t, _, h2, h3⟩, _ => Acc.lt hf r h3 (hf.to _ _ _ _ h2)
end Go.Proofs.YthglciccejholaaDoor
end
section
/- Package nfa, plain. -/
namespace Go.Proofs.YthglciccejholaaDoor
set_option linter.unusedSimpArgs false
set_option linter.unusedVariables false
set_option maxRecDepth 100000
/- NfaBig; the words of a set; the chapter's automaton. -/
/-- Is a byte in a set of four words? -/
def hasU (u : Nat → Int) (b : UInt8) : Bool := (u (b.toNat / 64)).toNat.testBit (b.toNat % 64)
def uA : Nat → Int := fun i => if i = 1 then 8589934592 else 0
def uZ : Nat → Int := fun _ => 0
/-- The automaton of the rules a and a*. -/
def ex6 : List Nst := [⟨uZ, -1, [], 0⟩, ⟨uA, 0, [], -1⟩, ⟨uZ, -1, [], 1⟩, ⟨uZ, -1, [2, 4], -1⟩, ⟨uA, 3, [], -1⟩, ⟨uZ, -1, [1, 3], -1⟩]
end Go.Proofs.YthglciccejholaaDoor
end
section
/- How many bits of a word are 1: the sum that goes by pairs, by fours, by eights. No program, no world. -/
namespace Go.Proofs.YthglciccejholaaDoor
set_option linter.unusedSimpArgs false
set_option linter.unusedVariables false
set_option maxRecDepth 100000

/-- How many of the first n numbers are in f. -/
def cntF (f : Nat → Bool) : Nat → Nat
  | 0 => 0
  | n + 1 => cntF f n + (f n).toNat
theorem cnt_le (f : Nat → Bool) : ∀ n, cntF f n ≤ n
  | 0 => Nat.le_refl _
  | n + 1 => by
    have := cnt_le f n
    have h : (f n).toNat ≤ 1 := by cases f n <;> decide
    simp only [cntF]; omega
def V : List Nat → Nat
  | [] => 0
  | p :: r => p + 256 * V r
def s1 (p : Nat) : Nat := (p / 2 &&& 85) + (p &&& 85)
def o1 (x : Nat) : Nat := (x / 2 &&& 6148914691236517205) + (x &&& 6148914691236517205)
def o2 (x : Nat) : Nat := (x / 4 &&& 3689348814741910323) + (x &&& 3689348814741910323)
end Go.Proofs.YthglciccejholaaDoor
end
section
/- Words of bits: a set of the numbers below 256 as four words; what '|', '&', '^', '<<', '>>' do «to» a bit; rows of 256 flags. No program, no world. -/
namespace Go.Proofs.YthglciccejholaaDoor
set_option linter.unusedSimpArgs false
set_option linter.unusedVariables false
set_option maxRecDepth 100000

def bitsN (g : Nat → Bool) : Nat → Nat
  | 0 => 0
  | n + 1 => (g n).toNat * 2 ^ n + bitsN g n
theorem bitsN_lt (g : Nat → Bool) : ∀ n, bitsN g n < 2 ^ n
  | 0 => by simp [bitsN]
  | n + 1 => by
    have := bitsN_lt g n
    simp only [bitsN, Nat.pow_succ]
    cases g n <;> simp <;> omega
theorem bitsN_test (g : Nat → Bool) : ∀ n k, (bitsN g n).testBit k = (decide (k < n) && g k)
  | 0, k => by simp [bitsN]
  | n + 1, k => by
    have h := bitsN_lt g n
    have ih := bitsN_test g n k
    simp only [bitsN]
    cases hg : g n
    · simp [ih]
      by_cases hk : k < n
      · simp [hk, show k < n + 1 by omega]
      · by_cases he : k = n
        · subst he; simp [hg]
        · simp [hk, show ¬ k < n + 1 by omega]
    · simp only [Bool.toNat_true, Nat.one_mul]
      by_cases he : k = n
      · subst he
        rw [Nat.testBit_two_pow_add_eq]
        simp [ih, hg]
      · by_cases hk : k < n
        · rw [Nat.testBit_two_pow_add_gt hk]; simp [ih, hk, show k < n + 1 by omega]
        · have h3 : 2 ^ n + bitsN g n < 2 ^ k := by
            have : 2 ^ (n + 1) ≤ 2 ^ k := Nat.pow_le_pow_right (by omega) (by omega)
            rw [Nat.pow_succ] at this; omega
          rw [Nat.testBit_lt_two_pow h3]; simp [show ¬ k < n + 1 by omega]

/-- Word i of the set of all numbers below 256 that are in f. -/
def W (f : Nat → Bool) (i : Nat) : Nat := bitsN (fun k => f (64 * i + k)) 64
theorem W_lt (f : Nat → Bool) (i : Nat) : W f i < 18446744073709551616 := bitsN_lt _ 64
theorem W_test (f : Nat → Bool) (i k : Nat) (hk : k < 64) : (W f i).testBit k = f (64 * i + k) := by unfold W; rw [bitsN_test]; simp [hk]
theorem W_eq (f : Nat → Bool) (i x : Nat) (hx : x < 18446744073709551616) (h : ∀ k, k < 64 → x.testBit k = f (64 * i + k)) : x = W f i := by
  apply Nat.eq_of_testBit_eq
  intro k
  by_cases hk : k < 64
  · rw [W_test f i k hk, h k hk]
  · have e : (2 : Nat) ^ 64 ≤ 2 ^ k := Nat.pow_le_pow_right (by omega) (by omega)
    have e64 : (2 : Nat) ^ 64 = 18446744073709551616 := by decide
    have := W_lt f i
    rw [Nat.testBit_lt_two_pow (by omega), Nat.testBit_lt_two_pow (by omega)]
theorem W_congr {f g : Nat → Bool} (i : Nat) (h : ∀ k, k < 64 → f (64 * i + k) = g (64 * i + k)) : W f i = W g i :=
  W_eq g i _ (W_lt f i) fun k hk => by rw [W_test f i k hk, h k hk]
theorem W_inj {f g : Nat → Bool} {i : Nat} (h : W f i = W g i) (k : Nat) (hk : k < 64) : f (64 * i + k) = g (64 * i + k) := by
  rw [← W_test f i k hk, h, W_test g i k hk]
theorem W_lt' (f : Nat → Bool) (i : Nat) : W f i < 2 ^ 64 := bitsN_lt _ 64
theorem p64 : (2 : Nat) ^ 64 = 18446744073709551616 := by decide
theorem W_or (f g : Nat → Bool) (i : Nat) : bits .or .u64 (W f i : Int) (W g i : Int) = ((W (fun b => f b || g b) i : Nat) : Int) := by
  rw [bits_or_u64_nat _ _ (W_lt f i) (W_lt g i)]
  refine congrArg (fun n : Nat => (n : Int)) ?_
  refine W_eq _ _ _ (p64 ▸ Nat.or_lt_two_pow (W_lt' f i) (W_lt' g i)) fun k hk => ?_
  rw [Nat.testBit_or, W_test f i k hk, W_test g i k hk]
theorem W_and (f g : Nat → Bool) (i : Nat) : bits .and .u64 (W f i : Int) (W g i : Int) = ((W (fun b => f b && g b) i : Nat) : Int) := by
  rw [bits_and_u64_nat _ _ (W_lt f i) (W_lt g i)]
  refine congrArg (fun n : Nat => (n : Int)) ?_
  refine W_eq _ _ _ (p64 ▸ Nat.and_lt_two_pow _ (W_lt' g i)) fun k hk => ?_
  rw [Nat.testBit_and, W_test f i k hk, W_test g i k hk]
/-- A bit that is asked for. -/
theorem W_has (f : Nat → Bool) (i k : Nat) (hk : k < 64) : (bits .and .u64 ((W f i : Int) / 2 ^ k) 1 == 1) = f (64 * i + k) := by
  have e : ((W f i : Int) / 2 ^ k) = ((W f i / 2 ^ k : Nat) : Int) := by simp
  have h := bits_and_u64_nat (W f i / 2 ^ k) 1 (Nat.lt_of_le_of_lt (Nat.div_le_self ..) (W_lt f i)) (by omega)
  rw [show ((1 : Nat) : Int) = 1 from rfl] at h
  rw [e, h, Nat.and_one_is_mod, ← W_test f i k hk, Nat.testBit_eq_decide_div_mod_eq]
  rw [Bool.eq_iff_iff]; simp; omega
/-- A bit that is put. -/
theorem W_with (f : Nat → Bool) (i k : Nat) (hk : k < 64) : bits .or .u64 (W f i : Int) (IntKind.u64.wrap (2 ^ k)) = ((W (fun b => f b || b == 64 * i + k) i : Nat) : Int) := by
  have hp : (2 : Nat) ^ k < 18446744073709551616 := Nat.pow_lt_pow_right (by omega) (show k < 64 from hk)
  have e : IntKind.u64.wrap (2 ^ k) = ((2 ^ k : Nat) : Int) := by
    have : ((2 ^ k : Nat) : Int) = 2 ^ k := by simp
    rw [← this, IntKind.wrap_u64]
    clear this
    generalize (2 : Nat) ^ k = z at hp ⊢
    omega
  rw [e, bits_or_u64_nat _ _ (W_lt f i) hp]
  refine congrArg (fun n : Nat => (n : Int)) ?_
  refine W_eq _ _ _ (p64 ▸ Nat.or_lt_two_pow (W_lt' f i) (p64.symm ▸ hp)) fun j hj => ?_
  rw [Nat.testBit_or, W_test f i j hj, Nat.testBit_two_pow]
  have e : decide (k = j) = (64 * i + j == 64 * i + k) := by rw [Bool.eq_iff_iff]; simp; omega
  rw [e]
theorem W_skip (f : Nat → Bool) (i n : Nat) (h : ∀ k, k < 64 → n ≠ 64 * i + k) : W (fun b => f b || b == n) i = W f i :=
  W_congr i fun k hk => by
    have := h k hk
    rw [show ((64 * i + k == n) = false) by rw [beq_eq_false_iff_ne]; omega, Bool.or_false]

/-- A set's value. -/
abbrev setV (f : Nat → Bool) : Value := .agg #[.int .u64 (W f 0), .int .u64 (W f 1), .int .u64 (W f 2), .int .u64 (W f 3)]
/-- The set that four words are. -/
def ofW (a b c d : Nat) (n : Nat) : Bool := if n < 64 then a.testBit n else if n < 128 then b.testBit (n - 64) else if n < 192 then c.testBit (n - 128) else d.testBit (n - 192)
theorem ofW0 (a b c d : Nat) (ha : a < 18446744073709551616) : W (ofW a b c d) 0 = a := (W_eq _ _ _ ha fun k hk => by unfold ofW; rw [if_pos (by omega)]; simp).symm
theorem ofW1 (a b c d : Nat) (ha : b < 18446744073709551616) : W (ofW a b c d) 1 = b := (W_eq _ _ _ ha fun k hk => by unfold ofW; rw [if_neg (by omega), if_pos (by omega), show 64 * 1 + k - 64 = k by omega]).symm
theorem ofW2 (a b c d : Nat) (ha : c < 18446744073709551616) : W (ofW a b c d) 2 = c := (W_eq _ _ _ ha fun k hk => by unfold ofW; rw [if_neg (by omega), if_neg (by omega), if_pos (by omega), show 64 * 2 + k - 128 = k by omega]).symm
theorem ofW3 (a b c d : Nat) (ha : d < 18446744073709551616) : W (ofW a b c d) 3 = d := (W_eq _ _ _ ha fun k hk => by unfold ofW; rw [if_neg (by omega), if_neg (by omega), if_neg (by omega), show 64 * 3 + k - 192 = k by omega]).symm

/-- A row of 256 flags. -/
def fl (f : Nat → Bool) : Array Value := ((List.range 256).map fun k => Value.bool (f k)).toArray
end Go.Proofs.YthglciccejholaaDoor
end
section
/- Package nfa. -/
namespace Go.Proofs.YthglciccejholaaDoor
set_option linter.unusedSimpArgs false
set_option linter.unusedVariables false
set_option maxRecDepth 100000
open Go.RowKit
/- sets.Has of four words; reach with room. -/
set_option maxHeartbeats 1000000 in
theorem has_any (f : Nat → Bool) (n : Nat) (hn : n < 256) (w : World) :
    Calls Tryd.prog 80 #[setV f, .int .u8 n] w fun e w' => e = .returned (.bool (f n)) ∧ Below w.heap.size w w' := by
  have hv : [Value.int IntKind.u64 (W f 0), Value.int IntKind.u64 (W f 1), Value.int IntKind.u64 (W f 2), Value.int IntKind.u64 (W f 3)][n / 64]? = some (.int .u64 (W f (n / 64))) := by
    rcases (by omega : n / 64 = 0 ∨ n / 64 = 1 ∨ n / 64 = 2 ∨ n / 64 = 3) with h | h | h | h <;> rw [h] <;> rfl
  have hr := W_has f (n / 64) (n % 64) (Nat.mod_lt _ (by omega))
  rw [Nat.div_add_mod] at hr
  generalize f n = v at hr ⊢
  go_enter Tryd.func80, Tryd.ntmps80
  go_wp2
  go_ret
  exact ⟨rfl, (Below.refl _ _).alloc (Nat.le_refl _) _⟩
def okW (u : Nat → Int) : Prop := ∀ i, 0 ≤ u i ∧ u i ≤ 18446744073709551615
def uV (u : Nat → Int) : Value := .agg #[.int .u64 (u 0), .int .u64 (u 1), .int .u64 (u 2), .int .u64 (u 3)]
theorem hasU_any {u : Nat → Int} (hu : okW u) (b : UInt8) (w : World) : Calls Tryd.prog 80 #[uV u, .int .u8 b.toNat] w fun e w' => e = .returned (.bool (hasU u b)) ∧ Below w.heap.size w w' := by
  have hk : ∀ i, ∃ k : Nat, k < 18446744073709551616 ∧ u i = k := fun i => ⟨(u i).toNat, by have := hu i; omega, by have := hu i; omega⟩
  obtain ⟨k0, l0, h0⟩ := hk 0
  obtain ⟨k1, l1, h1⟩ := hk 1
  obtain ⟨k2, l2, h2⟩ := hk 2
  obtain ⟨k3, l3, h3⟩ := hk 3
  have hb : b.toNat < 256 := b.toNat_lt
  have e0 := ofW0 k0 k1 k2 k3 l0
  have e1 := ofW1 k0 k1 k2 k3 l1
  have e2 := ofW2 k0 k1 k2 k3 l2
  have e3 := ofW3 k0 k1 k2 k3 l3
  have hv : uV u = setV (ofW k0 k1 k2 k3) := by
    unfold uV setV; rw [h0, h1, h2, h3, e0, e1, e2, e3]
  have hf : hasU u b = ofW k0 k1 k2 k3 b.toNat := by
    unfold hasU
    have ht := W_test (ofW k0 k1 k2 k3) (b.toNat / 64) (b.toNat % 64) (Nat.mod_lt _ (by omega))
    rw [Nat.div_add_mod] at ht
    rw [← ht]
    have : (u (b.toNat / 64)).toNat = W (ofW k0 k1 k2 k3) (b.toNat / 64) := by
      rcases (by omega : b.toNat / 64 = 0 ∨ b.toNat / 64 = 1 ∨ b.toNat / 64 = 2 ∨ b.toNat / 64 = 3) with h | h | h | h <;> rw [h]
      · rw [h0, e0, Int.toNat_natCast]
      · rw [h1, e1, Int.toNat_natCast]
      · rw [h2, e2, Int.toNat_natCast]
      · rw [h3, e3, Int.toNat_natCast]
    rw [this]
  rw [hv, hf]
  exact has_any _ _ hb w
/-- A front whose states lie in a row that is known whole. -/
structure FG (B : Nat) (w0 y : World) (F A : Nat) (stp : Value) (n : Nat) (la l : List Nat) (g cap : Nat) (cs : Array Value) : Prop where
  bel : Below B w0 y
  f : y.heap[F]? = some (.cells #[stp, .slice (some ⟨g, 0, none⟩) l.length cap, .slice (some ⟨A, 0, none⟩) n n] 84)
  a : y.heap[A]? = some (.cells (mkb n la) 4)
  r : y.heap[g]? = some (.cells cs 3)
  ln : cs.size = cap
  max : cap ≤ maxLen
  new : ∀ i (h : i < l.length), cs[i]? = some (.int .i64 (l[i] : Nat))
  hF : B ≤ F
  hA : B ≤ A
  hg : B ≤ g
  fa : F ≠ A
  fg : F ≠ g
  ag : A ≠ g
  sz : B ≤ y.heap.size
theorem FG.len {B : Nat} {w0 y : World} {F A n : Nat} {stp : Value} {la l : List Nat} {g cap : Nat} {cs : Array Value} (h : FG B w0 y F A stp n la l g cap cs) : l.length ≤ cap := by
  by_cases h0 : l.length = 0
  · omega
  · have h1 := h.new (l.length - 1) (by omega)
    have h2 := (Array.getElem?_eq_some_iff.1 h1).1
    rw [h.ln] at h2; omega
theorem FG.fr {B : Nat} {w0 y : World} {F A n : Nat} {stp : Value} {la l : List Nat} {g cap : Nat} {cs : Array Value} (h : FG B w0 y F A stp n la l g cap cs) : FR B w0 y F A stp n la l (.slice (some ⟨g, 0, none⟩) l.length cap) :=
  ⟨h.bel, h.f, h.a, own1_row ⟨h.hg, h.r, h.len, h.max, h.ln, h.new⟩, h.hF, h.hA, h.fa, fun e => h.fg (by simpa [Value.ownBlock] using e.symm), fun e => h.ag (by simpa [Value.ownBlock] using e.symm), h.sz⟩
end Go.Proofs.YthglciccejholaaDoor
end
section
/- Package dfa. -/
namespace Go.Proofs.YthglciccejholaaDoor
set_option linter.unusedSimpArgs false
set_option linter.unusedVariables false
set_option maxRecDepth 100000
open Go.RowKit
/- Sets of states, 64 words: has. -/
/-- A set's 64 words at a place. -/
def SW (w : World) (b o : Nat) (f : Nat → Bool) : Prop := ∀ i, i < 64 → w.cell? ⟨b, o + i, none⟩ = some (.int .u64 (W f i))
theorem SW.same {w w' : World} {b o : Nat} {f : Nat → Bool} (h : SW w b o f) (hb : w'.heap[b]? = w.heap[b]?) : SW w' b o f := fun i hi => (cell_same hb _).trans (h i hi)
theorem SW.lt {w : World} {b o : Nat} {f : Nat → Bool} (h : SW w b o f) : b < w.heap.size := blk_lt (h 0 (by omega))
theorem SW.up {w w' : World} {b o : Nat} {f : Nat → Bool} (h : SW w b o f) (hb : Below w.heap.size w w') : SW w' b o f := h.same (hb.block b h.lt)
set_option maxHeartbeats 1000000 in
theorem hasS_any {w : World} {b o : Nat} {f : Nat → Bool} (h : SW w b o f) {s : Nat} (hs : s < 4096) :
    Calls Tryd.prog 116 #[.pointer (some ⟨b, o, none⟩), .int .i64 (s : Nat)] w fun e w' => e = .returned (.bool (f s)) ∧ w' = w := by
  have hc := h (s / 64) (by omega)
  have hr := W_has f (s / 64) (s % 64) (Nat.mod_lt _ (by omega))
  rw [Nat.div_add_mod] at hr
  generalize f s = v at hr ⊢
  have H := Lib.hid h
  clear h
  have h1 : ¬ (s : Int) / 64 < 0 := by omega
  have h2 : (s : Int) / 64 < 64 := by omega
  have h3 : ((s : Int) / 64).toNat = s / 64 := by omega
  go_enter Tryd.func116, Tryd.ntmps116
  go_wp2
  go_ret
  exact ⟨rfl, rfl⟩
set_option maxHeartbeats 1000000 in
theorem addS_any {w : World} {b o : Nat} {f : Nat → Bool} (h : SW w b o f) (hz : ∀ i, i < 64 → w.frozen? ⟨b, o + i, none⟩ = false) {s : Nat} (hs : s < 4096) :
    Calls Tryd.prog 115 #[.pointer (some ⟨b, o, none⟩), .int .i64 (s : Nat)] w fun e w' => e = .returned (.tuple #[]) ∧ w' = w.drew.setCell ⟨b, o + s / 64, none⟩ (.int .u64 (W (fun x => f x || x == s) (s / 64))) := by
  have hc := h (s / 64) (by omega)
  have hf := hz (s / 64) (by omega)
  have hr := W_with f (s / 64) (s % 64) (Nat.mod_lt _ (by omega))
  rw [Nat.div_add_mod] at hr
  generalize hv : ((W (fun x => f x || x == s) (s / 64) : Nat) : Int) = v at hr ⊢
  have H := Lib.hid h
  clear h hz
  have h1 : ¬ (s : Int) / 64 < 0 := by omega
  have h1' : 0 ≤ (s : Int) / 64 := by omega
  have h2 : (s : Int) / 64 < 64 := by omega
  have h3 : ((s : Int) / 64).toNat = s / 64 := by omega
  have h4 : ((s : Int) % 64).toNat = s % 64 := by omega
  have hc' : w.drew.cell? ⟨b, o + s / 64, none⟩ = some (.int .u64 (W f (s / 64))) := hc
  have hf' : w.drew.frozen? ⟨b, o + s / 64, none⟩ = false := hf
  clear hv
  have i1 : IntKind.i64.wrap ((s : Int) / 64) = (s : Int) / 64 := IntWalk.i64_in _ (by omega)
  have i2 : IntKind.i64.wrap ((s : Int) % 64) = (s : Int) % 64 := IntWalk.i64_in _ (by omega)
  have h5 : (s : Int).tmod 64 = (s : Int) % 64 := Int.tmod_eq_emod_of_nonneg (by omega)
  have h6 : ¬ (s : Int) % 64 < 0 := by omega
  have h7 : 0 ≤ (s : Int) % 64 := by omega
  have h8 : (s : Int) % 64 < 64 := by omega
  go_enter Tryd.func115, Tryd.ntmps115
  go_upto_region 0 with fail
  go_still_tail 12, (by kernel_rfl)
  change wpList _ _ _ _ _ w.drew
  go_wp2
  go_end0
  exact ⟨rfl, rfl⟩
end Go.Proofs.YthglciccejholaaDoor
end
section
/- Package dfa. -/
namespace Go.Proofs.YthglciccejholaaDoor
set_option linter.unusedSimpArgs false
set_option linter.unusedVariables false
set_option maxRecDepth 100000
open Go.RowKit
/- The set that is being found: reach. -/
def mb (l : List Nat) (x : Nat) : Bool := l.contains x
theorem mb_app (l : List Nat) (s : Nat) : (fun x => mb l x || x == s) = mb (l ++ [s]) := by
  funext x; simp only [mb, List.contains_eq_mem, List.mem_append, List.mem_singleton, Bool.decide_or]; rfl
theorem mb_in {l : List Nat} {s : Nat} (h : s ∈ l) : mb l s = true := by simp [mb, h]
theorem mb_out {l : List Nat} {s : Nat} (h : ¬ s ∈ l) : mb l s = false := by simp [mb, h]
/-- A row of cells in which a front lies from o on. -/
structure FRow (R0 R : Array Value) (o : Nat) (la : List Nat) (sl : Value) : Prop where
  sz : R.size = R0.size
  out : ∀ j, j < o ∨ o + 65 ≤ j → R[j]? = R0[j]?
  ws : ∀ i, i < 64 → R[o + i]? = some (.int .u64 (W (mb la) i))
  ls : R[o + 64]? = some sl
theorem FRow.put {R0 R : Array Value} {o : Nat} {la : List Nat} {sl : Value} (h : FRow R0 R o la sl) {s : Nat} (hs : s < 4096) : FRow R0 (R.setIfInBounds (o + s / 64) (.int .u64 (W (fun x => mb la x || x == s) (s / 64)))) o (la ++ [s]) sl := by
  refine ⟨by simpa using h.sz, fun j hj => ?_, fun i hi => ?_, ?_⟩
  · rw [Array.getElem?_setIfInBounds_ne (by omega)]; exact h.out j hj
  · have hsz := (Array.getElem?_eq_some_iff.1 (h.ws i hi)).1
    rw [Array.getElem?_setIfInBounds]
    split
    · rename_i e
      have e : i = s / 64 := by omega
      subst e
      rw [if_pos (by omega), mb_app]
    · rename_i e
      rw [h.ws i hi, ← mb_app, W_skip (mb la) i s (fun k hk => by omega)]
  · rw [Array.getElem?_setIfInBounds_ne (by omega)]; exact h.ls
theorem FRow.sl {R0 R : Array Value} {o : Nat} {la : List Nat} {sl : Value} (h : FRow R0 R o la sl) (v : Value) : FRow R0 (R.setIfInBounds (o + 64) v) o la v := by
  have hsz := (Array.getElem?_eq_some_iff.1 h.ls).1
  refine ⟨by simpa using h.sz, fun j hj => ?_, fun i hi => ?_, ?_⟩
  · rw [Array.getElem?_setIfInBounds_ne (by omega)]; exact h.out j hj
  · rw [Array.getElem?_setIfInBounds_ne (by omega)]; exact h.ws i hi
  · rw [Array.getElem?_setIfInBounds]; simp [hsz]
/-- A front in a block F from o on; whatever else is there is as R0 says. -/
structure FS (D : Nat → Prop) (B : Nat) (w0 y : World) (F o T : Nat) (R0 : Array Value) (la l : List Nat) (sl : Value) : Prop where
  bel : Below B w0 y
  f : ∃ R, y.heap[F]? = some (.cells R T) ∧ FRow R0 R o la sl
  row : y.ownsRow B 3 1 sl l.length (ints l)
  hF : B ≤ F
  sF : sl.ownBlock ≠ some F
  sz : B ≤ y.heap.size
  kp : ∀ b, D b → y.heap[b]? = w0.heap[b]?
  dF : ¬ D F
  dS : ∀ g, sl.ownBlock = some g → ¬ D g
  dl : ∀ b, D b → b < y.heap.size
variable {D : Nat → Prop} {B : Nat} {w0 y : World} {F o T : Nat} {R0 : Array Value} {la l : List Nat} {sl : Value}
theorem FS.sw (h : FS D B w0 y F o T R0 la l sl) : SW y F o (mb la) := by
  obtain ⟨R, hR, hr⟩ := h.f
  intro i hi
  rw [cell_of_row y F (o + i) R T (0, 0) hR]; exact hr.ws i hi
theorem FS.fz (h : FS D B w0 y F o T R0 la l sl) (j : Nat) : y.frozen? ⟨F, j, none⟩ = false := by
  obtain ⟨R, hR, hr⟩ := h.f
  exact frozen_of_row y F j R T hR
theorem FS.cl (h : FS D B w0 y F o T R0 la l sl) : y.cell? ⟨F, o + 64, none⟩ = some sl := by
  obtain ⟨R, hR, hr⟩ := h.f
  rw [cell_of_row y F (o + 64) R T (0, 0) hR]; exact hr.ls
theorem FS.lt (h : FS D B w0 y F o T R0 la l sl) : F < y.heap.size := by
  obtain ⟨R, hR, hr⟩ := h.f
  exact (Array.getElem?_eq_some_iff.1 hR).1
theorem FS.drew (h : FS D B w0 y F o T R0 la l sl) : FS D B w0 y.drew F o T R0 la l sl := ⟨h.bel.drew, h.f, h.row, h.hF, h.sF, h.sz, h.kp, h.dF, h.dS, h.dl⟩
theorem FS.put (h : FS D B w0 y F o T R0 la l sl) {s : Nat} (hs : s < 4096) : FS D B w0 (y.drew.setCell ⟨F, o + s / 64, none⟩ (.int .u64 (W (fun x => mb la x || x == s) (s / 64)))) F o T R0 (la ++ [s]) l sl := by
  have hd := h.drew
  obtain ⟨R, hR, hr⟩ := hd.f
  refine ⟨hd.bel.setCell (p := ⟨F, o + s / 64, none⟩) h.hF _, ⟨_, heap_setCell_same y.drew F (o + s / 64) R T _ hR, hr.put hs⟩, ?_, h.hF, h.sF, by simpa using hd.sz, fun b hb => (heap_setCell_other y.drew ⟨F, o + s / 64, none⟩ b _ (fun e => h.dF (by cases (show b = F from e); exact hb))).trans (h.kp b hb), h.dF, h.dS, fun b hb => by simpa using hd.dl b hb⟩
  refine World.ownsRow.kept hd.row (row := some F) ⟨rfl, rfl, rfl, by simp, fun k hk hne => heap_setCell_other y.drew _ k _ (fun e => hne (by rw [e]))⟩ ?_
  by_cases hp : sl.ownBlock = none
  · exact .inl hp
  · exact .inr h.sF
set_option maxHeartbeats 4000000 in
theorem reachS_in (h : FS D B w0 y F o T R0 l l sl) {s : Nat} (hs : s < 4096) (hin : s ∈ l) :
    Calls Tryd.prog 95 #[.pointer (some ⟨F, o, none⟩), .int .i64 (s : Nat)] y fun e y' => e = .returned (.tuple #[]) ∧ FS D B w0 y' F o T R0 l l sl := by
  have H := Lib.hid h
  have hc := Lib.hid (hasS_any h.sw hs)
  have hv := mb_in hin
  clear h hin
  go_enter Tryd.func95, Tryd.ntmps95
  go_wp2_with fail
  refine hc.out.mono ?_
  rintro _ _ ⟨rfl, rfl⟩
  rw [hv]
  go_wp2_with fail
  go_end0
  exact ⟨rfl, H.out⟩
set_option maxHeartbeats 4000000 in
theorem reachS_new (h : FS D B w0 y F o T R0 l l sl) {s : Nat} (hs : s < 4096) (hl : l.length ≤ 4096) (hin : ¬ s ∈ l) :
    Calls Tryd.prog 95 #[.pointer (some ⟨F, o, none⟩), .int .i64 (s : Nat)] y fun e y' => e = .returned (.tuple #[]) ∧ ∃ sl', FS D B w0 y' F o T R0 (l ++ [s]) (l ++ [s]) sl' := by
  obtain ⟨i0, hi, hz0, hz1, hz2⟩ := info_parts info3
  obtain ⟨p, c, rfl⟩ := row_form h.row
  have hc := Lib.hid (hasS_any h.sw hs)
  have hadd := Lib.hid (addS_any h.sw (fun i _ => h.fz _) hs)
  have H1 := Lib.hid (h.put hs)
  have hv := mb_out hin
  clear h hin
  go_enter Tryd.func95, Tryd.ntmps95
  go_wp2_with fail
  refine hc.out.mono ?_
  rintro _ _ ⟨rfl, rfl⟩
  rw [hv]
  go_wp2_with fail
  refine hadd.out.mono ?_
  rintro _ z' ⟨rfl, rfl⟩
  go_upto_region 2 with fail
  refine at_world (fun z => FS D B w0 z F o T R0 (l ++ [s]) l (.slice p l.length c)) H1.out fun z hz => ?_
  clear hc hadd H1
  have H2 := Lib.hid hz
  have c1 : z.cell? ⟨F, o + 64, none⟩ = some (.slice p l.length c) := hz.cl
  have X4 := Lib.hid (World.ownsRow.alloc hz.row (.cells #[.int .i64 (s : Nat)] 3))
  have hzs := hz.sz
  have HYA := Lib.hid (show (z.alloc (.cells #[.int .i64 (s : Nat)] 3)).heap.size = z.heap.size + 1 by simp)
  clear hz
  go_wp2_with (at_builtin; refine wpList_append_own_at _ rfl (.tmp 19) (.tmp 21) 39 rfl B 3 i0 (.int .i64 0) 1 8 Tryd.underlying39 hi hz0 hz1 hz2 rfl (by decide) (.slice p l.length c) l.length (ints l) rfl ?c0 ⟨z.heap.size, 0, none⟩ 1 1 [.int .i64 (s : Nat)] rfl rfl ?c1 ?c2 ?c3 ?c4 ?c5 ?_)
  case c0 => exact X4.out
  case c1 =>
    intro i v hv
    cases i with
    | zero => rw [← hv]; exact cell_of_row _ _ _ _ 3 (0, 0) (heap_alloc_last z _)
    | succ i => cases hv
  case c2 => simp [Value.oneCell']
  case c3 => unfold maxLen; omega
  case c4 => omega
  case c5 => have := HYA.out; omega
  intro v' w7 hown7 hgrow7 _ hat7
  obtain ⟨p7, c7, rfl⟩ := row_form hown7
  obtain ⟨v', hv'⟩ : ∃ v', v' = Value.slice p7 (l.length + 1) c7 := ⟨_, rfl⟩
  rw [← hv'] at hown7 hat7
  have hya := HYA.out
  have hFne : (Value.slice p l.length c).ownBlock ≠ some F := H2.out.sF
  have hFlt : F < z.heap.size := H2.out.lt
  obtain ⟨R, hR, hr⟩ := H2.out.f
  have hF7 : w7.heap[F]? = some (.cells R T) := (hgrow7.block F (by omega) (fun e => hFne e.symm)).trans ((heap_alloc_old z _ hFlt).trans hR)
  have hF8 : w7.cell? ⟨F, o + 64, none⟩ = some (.slice p l.length c) := (cell_of_row w7 F (o + 64) R T (0, 0) hF7).trans hr.ls
  have hFf : w7.frozen? ⟨F, o + 64, none⟩ = false := frozen_of_row w7 F (o + 64) R T hF7
  have hvF : v'.ownBlock ≠ some F := by rcases hat7 with e | e <;> rw [e]; exact hFne; intro h; cases h; omega
  have hkp7 : ∀ b, D b → w7.heap[b]? = w0.heap[b]? := fun b hb => by
    have hlt := H2.out.dl b hb
    exact (hgrow7.block b (by omega) (fun e => H2.out.dS b e.symm hb)).trans ((heap_alloc_old z _ hlt).trans (H2.out.kp b hb))
  have hdS7 : ∀ g, v'.ownBlock = some g → ¬ D g := fun g hg hd => by
    have hlt := H2.out.dl g hd
    rcases hat7 with e | e <;> rw [e] at hg
    · exact H2.out.dS g hg hd
    · cases hg; omega
  have hbel7 : Below B w0 w7 := below_grown ((H2.out.bel.alloc H2.out.sz _)) hgrow7 (fun g hg => (World.ownsRow.lt X4.out g hg).1) (by omega)
  have hints : ints (l ++ [s]) = ints l ++ [.int .i64 (s : Nat)] := by simp [ints]
  have hrow7 : w7.ownsRow B 3 1 v' (l ++ [s]).length (ints (l ++ [s])) := by rw [hints, List.length_append]; exact hown7
  have hsz7 := hgrow7.size
  have hR3 : (w7.setCell ⟨F, o + 64, none⟩ v').ownsRow B 3 1 v' (l ++ [s]).length (ints (l ++ [s])) := by
    refine World.ownsRow.kept hrow7 (row := some F) ⟨rfl, rfl, rfl, by simp, fun k hk hne => heap_setCell_other w7 _ k _ (fun e => hne (by rw [e]))⟩ ?_
    by_cases hp : v'.ownBlock = none
    · exact .inl hp
    · exact .inr hvF
  have H3 : Hid (FS D B w0 (w7.setCell ⟨F, o + 64, none⟩ v') F o T R0 (l ++ [s]) (l ++ [s]) v') := Lib.hid ⟨hbel7.setCell (p := ⟨F, o + 64, none⟩) H2.out.hF _, ⟨_, heap_setCell_same w7 F (o + 64) R T v' hF7, hr.sl v'⟩, hR3, H2.out.hF, hvF, by simp; omega, fun b hb => (heap_setCell_other w7 ⟨F, o + 64, none⟩ b _ (fun e => H2.out.dF (by cases (show b = F from e); exact hb))).trans (hkp7 b hb), H2.out.dF, hdS7, fun b hb => by have := H2.out.dl b hb; simp; omega⟩
  clear hR3
  rw [hv'] at H3
  subst hv'
  clear hkp7 hdS7 hown7 hgrow7 hat7 hF7 hbel7 hrow7 hints hvF X4 H2 c1 hr hR
  go_wp2_with fail
  go_end0
  exact ⟨rfl, _, H3.out⟩
theorem reachS_any (h : FS D B w0 y F o T R0 l l sl) {s : Nat} (hs : s < 4096) (hl : l.length ≤ 4096) :
    Calls Tryd.prog 95 #[.pointer (some ⟨F, o, none⟩), .int .i64 (s : Nat)] y fun e y' => e = .returned (.tuple #[]) ∧ ∃ sl', FS D B w0 y' F o T R0 (rch l s) (rch l s) sl' := by
  unfold rch
  by_cases hin : s ∈ l
  · rw [if_pos hin]
    exact (reachS_in h hs hin).mono fun e y' k => ⟨k.1, sl, k.2⟩
  · rw [if_neg hin]
    exact reachS_new h hs hl hin
end Go.Proofs.YthglciccejholaaDoor
end
