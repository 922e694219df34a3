/- Package regs: the reader's small steps: what comes next. -/
import Derived.Test.YthglciccejholaaDoorProg
import Derived.Test.YthglciccejholaaDoorRG42
import Derived.WalkKit
import Derived.WalkLawsBesides
import Derived.WalkSpells
import Derived.Outline
import Derived.Lib.Walk
import Derived.Lib.Hide
import Derived.RegionTactic
import Derived.LoopTactic
import Derived.Below
import Derived.IntWalk
import Derived.Deep.QuietTactic
import Derived.BigQuiet
namespace Go.Proofs.YthglciccejholaaDoor.R5
set_option linter.unusedSimpArgs false
set_option linter.unusedVariables false
set_option maxRecDepth 100000
open Go.RowKit

def zero8 (u : Nat → Int) : Bool := u 0 == 0 && (u 1 == 0 && (u 2 == 0 && (u 3 == 0 && (u 4 == 0 && (u 5 == 0 && (u 6 == 0 && (u 7 == 0)))))))
set_option maxHeartbeats 8000000 in
theorem neq64g (u : Nat → Int) (w : World) : (binOp .neq 90 (.agg #[.int .u64 (u 0), .int .u64 (u 1), .int .u64 (u 2), .int .u64 (u 3), .int .u64 (u 4), .int .u64 (u 5), .int .u64 (u 6), .int .u64 (u 7)]) (.agg #[.int .u64 0, .int .u64 0, .int .u64 0, .int .u64 0, .int .u64 0, .int .u64 0, .int .u64 0, .int .u64 0])).run Tryd.prog w = .ok (.bool (!zero8 u)) w := by
  have h : ∀ (x : Int) w, (Op.equalIn 9999 22 (.int .u64 x) (.int .u64 0)).run Tryd.prog w = .ok (x == 0) w := fun x w => eq22g 9998 x 0 w
  have e : ∀ w, (Op.equalIn 10000 90 (.agg #[.int .u64 (u 0), .int .u64 (u 1), .int .u64 (u 2), .int .u64 (u 3), .int .u64 (u 4), .int .u64 (u 5), .int .u64 (u 6), .int .u64 (u 7)]) (.agg #[.int .u64 0, .int .u64 0, .int .u64 0, .int .u64 0, .int .u64 0, .int .u64 0, .int .u64 0, .int .u64 0])).run Tryd.prog w = .ok (zero8 u) w := fun w => by
    rw [show (10000 : Nat) = 9999 + 1 from rfl, Op.equalIn]
    unfold zero8
    by_cases a0 : u 0 = 0
    · by_cases a1 : u 1 = 0
      · by_cases a2 : u 2 = 0
        · by_cases a3 : u 3 = 0
          · by_cases a4 : u 4 = 0
            · by_cases a5 : u 5 = 0
              · by_cases a6 : u 6 = 0
                · by_cases a7 : u 7 = 0
                  · simp [run_underlying Tryd.underlying90, Tryd.sizeOf22, Std.Legacy.Range.forIn_eq_forIn_range', List.range', part, h, a0, a1, a2, a3, a4, a5, a6, a7]
                  · simp [run_underlying Tryd.underlying90, Tryd.sizeOf22, Std.Legacy.Range.forIn_eq_forIn_range', List.range', part, h, a0, a1, a2, a3, a4, a5, a6, a7]
                · simp [run_underlying Tryd.underlying90, Tryd.sizeOf22, Std.Legacy.Range.forIn_eq_forIn_range', List.range', part, h, a0, a1, a2, a3, a4, a5, a6]
              · simp [run_underlying Tryd.underlying90, Tryd.sizeOf22, Std.Legacy.Range.forIn_eq_forIn_range', List.range', part, h, a0, a1, a2, a3, a4, a5]
            · simp [run_underlying Tryd.underlying90, Tryd.sizeOf22, Std.Legacy.Range.forIn_eq_forIn_range', List.range', part, h, a0, a1, a2, a3, a4]
          · simp [run_underlying Tryd.underlying90, Tryd.sizeOf22, Std.Legacy.Range.forIn_eq_forIn_range', List.range', part, h, a0, a1, a2, a3]
        · simp [run_underlying Tryd.underlying90, Tryd.sizeOf22, Std.Legacy.Range.forIn_eq_forIn_range', List.range', part, h, a0, a1, a2]
      · simp [run_underlying Tryd.underlying90, Tryd.sizeOf22, Std.Legacy.Range.forIn_eq_forIn_range', List.range', part, h, a0, a1]
    · simp [run_underlying Tryd.underlying90, Tryd.sizeOf22, Std.Legacy.Range.forIn_eq_forIn_range', List.range', part, h, a0]
  simp only [binOp]
  simp [Op.equal, Op.maxDepth, e]
def nzS (S : Nat → Bool) : Bool := (List.range 512).any S
theorem W_zero (S : Nat → Bool) (i : Nat) : W S i = 0 ↔ ∀ k, k < 64 → S (64 * i + k) = false := by
  constructor
  · intro h k hk
    have := W_test S i k hk
    rw [h] at this; simpa using this.symm
  · intro h
    exact (W_eq S i 0 (by omega) fun k hk => by rw [h k hk]; simp).symm
theorem zero8_nz (S : Nat → Bool) : (!zero8 (wf S)) = nzS S := by
  have hz : zero8 (wf S) = true ↔ ∀ i, i < 8 → W S i = 0 := by
    have e : ∀ i, (wf S i == 0) = true ↔ W S i = 0 := fun i => by
      show (((W S i : Nat) : Int) == 0) = true ↔ _
      simp
    unfold zero8
    simp only [Bool.and_eq_true, e]
    constructor
    · rintro ⟨h0, h1, h2, h3, h4, h5, h6, h7⟩ i hi
      rcases lt8 hi with rfl | rfl | rfl | rfl | rfl | rfl | rfl | rfl
      · exact h0
      · exact h1
      · exact h2
      · exact h3
      · exact h4
      · exact h5
      · exact h6
      · exact h7
    · intro h
      exact ⟨h 0 (by omega), h 1 (by omega), h 2 (by omega), h 3 (by omega), h 4 (by omega), h 5 (by omega), h 6 (by omega), h 7 (by omega)⟩
  cases hn : nzS S with
  | false =>
    have : zero8 (wf S) = true := hz.2 fun i hi => (W_zero S i).2 fun k hk => by
      cases hs : S (64 * i + k) with
      | false => rfl
      | true =>
        exfalso
        have : nzS S = true := List.any_eq_true.2 ⟨64 * i + k, List.mem_range.2 (by omega), hs⟩
        rw [hn] at this; cases this
    rw [this]; rfl
  | true =>
    obtain ⟨i, hi, hs⟩ := List.any_eq_true.1 hn
    cases hz2 : zero8 (wf S) with
    | false => rfl
    | true =>
      exfalso
      have := (W_zero S (i / 64)).1 (hz.1 hz2 (i / 64) (by have := List.mem_range.1 hi; omega)) (i % 64) (Nat.mod_lt _ (by omega))
      rw [Nat.div_add_mod, hs] at this; cases this
theorem run_index_str (t : List UInt8) (i : Nat) (c : UInt8) (h : t[i]? = some c) (w : World) : (Instr.index 9 (.string (bs t)) (.int .i64 (i : Nat))).run Tryd.prog w = .ok (.int .u8 (c.toNat : Nat)) w := by
  obtain ⟨hi, he⟩ := List.getElem?_eq_some_iff.1 h
  have hs : (bs t).size = t.length := rfl
  simp [Instr.index, go_sem, bs, hi]
  rw [← he]
  rfl
/-- Where the bytes behind lead to. -/
def runS (N : Net) : (Nat → Bool) → List UInt8 → Nat → Bool
  | S, [] => S
  | S, c :: cs => runS N (andS (nxS N S) (N.has c.toNat)) cs
theorem runS_take (N : Net) : ∀ (cs : List UInt8) (S : Nat → Bool) (i : Nat) (h : i < cs.length), runS N S (cs.take (i + 1)) = andS (nxS N (runS N S (cs.take i))) (N.has cs[i].toNat)
  | c :: cs, S, 0, h => by simp [runS]
  | c :: cs, S, i + 1, h => by
    simp only [List.take_succ_cons, runS, List.getElem_cons_succ]
    exact runS_take N cs _ i (by simpa using h)
theorem nx_none {N : Net} {S : Nat → Bool} (h : nzS S = false) : nxS N S = noS := by
  funext j
  unfold nxS noS
  rw [Bool.eq_false_iff]
  intro e
  obtain ⟨i, hi, hp⟩ := List.any_eq_true.1 e
  simp only [Bool.and_eq_true] at hp
  have : nzS S = true := List.any_eq_true.2 ⟨i, hi, hp.1⟩
  rw [h] at this; cases this
theorem nz_and {S T : Nat → Bool} (h : nzS S = false) : nzS (andS S T) = false := by
  rw [Bool.eq_false_iff]
  intro e
  obtain ⟨i, hi, hp⟩ := List.any_eq_true.1 e
  simp only [andS, Bool.and_eq_true] at hp
  have : nzS S = true := List.any_eq_true.2 ⟨i, hi, hp.1⟩
  rw [h] at this; cases this
theorem runS_none (N : Net) : ∀ (cs : List UInt8) (S : Nat → Bool), nzS S = false → nzS (runS N S cs) = false
  | [], S, h => h
  | c :: cs, S, h => runS_none N cs _ (nz_and (by rw [nx_none h]; decide))
theorem runS_app (N : Net) : ∀ (a b : List UInt8) (S : Nat → Bool), runS N S (a ++ b) = runS N (runS N S a) b
  | [], b, S => rfl
  | c :: a, b, S => runS_app N a b _
def zV : Value := .agg #[.int .u64 0, .int .u64 0, .int .u64 0, .int .u64 0, .int .u64 0, .int .u64 0, .int .u64 0, .int .u64 0]
theorem hq64 (S : Nat → Bool) (w : World) : (binOp .neq 90 (spV (wf S)) zV).run Tryd.prog w = .ok (.bool (nzS S)) w := by rw [← zero8_nz]; exact neq64g (wf S) w
theorem hg64 (x y : Operand) (S : Nat → Bool) (w : World) : (eqGuard .neq 90 x y (spV (wf S)) zV).run Tryd.prog w = .ok () w := by
    unfold eqGuard spV zV
    simp [run_underlying Tryd.underlying90]
theorem wp_neq_gen {P : Program} {o : Oper} {a : Act} {w : World} {K : Act → World → Prop} {Q : Exit → Act → World → Prop} (T : TypeId) (x y : Operand) (t : TypeId) (ho : o.op = .binOp .neq T x y t) (v z r : Value)
    (hx : a.eval x = v) (hy : a.eval y = z) (hq : (binOp .neq T v z).run P w = .ok r w) (hg : (eqGuard .neq T x y v z).run P w = .ok () w) (h : K (a.put o.dst r) w) : o.wp P a w K Q := by
  unfold Oper.wp execOp
  simp only [ho, hx, hy]
  simp only [Sem.run_bind, hg, Result.andThen_ok, hq]
  exact h
theorem wp_neq64 {o : Oper} {a : Act} {w : World} {K : Act → World → Prop} {Q : Exit → Act → World → Prop} (x y : Operand) (t : TypeId) (ho : o.op = .binOp .neq 90 x y t) (S : Nat → Bool)
    (hx : a.eval x = spV (wf S)) (hy : a.eval y = zV) (h : K (a.put o.dst (.bool (nzS S))) w) : o.wp Tryd.prog a w K Q :=
  wp_neq_gen 90 x y t ho _ _ _ hx hy (hq64 S w) (hg64 x y S w) h
end Go.Proofs.YthglciccejholaaDoor.R5
