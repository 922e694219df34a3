/- Package raws. -/
import Derived.Test.YtbdbnjbafampaaaProg
import Derived.Test.YtbdbnjbafampaaaRf
import Derived.Test.YtbdbnjbafampaaaDh
import Derived.Test.YtbdbnjbafampaaaDj
import Derived.WalkKit
import Derived.BigFrame
import Derived.WalkMore
import Derived.ScopeJumps
import Derived.StillTailTactics
import Derived.Stop.BytesEq
import Derived.WalkLawsBesides
import Derived.WalkSpells
import Derived.Outline
import Derived.Lib.Walk
import Derived.Lib.Hide
import Derived.Lib.Slices
import Derived.Lib.Strings
import Derived.RegionTactic
import Derived.LoopTactic
import Derived.Below
import Derived.IntWalk
import Derived.Deep.QuietTactic
import Derived.BigQuiet
import Derived.Deep.MidRow
import Derived.Maps.AppendAt
import Derived.Laws.Rows
import Derived.Laws.Tables
import Derived.Deep.WholeRow
import Derived.Deep.Cut
import Derived.Deep.CutRange
import Derived.Lib.SliceRun
import Derived.Laws.MakeOwn
import Derived.Deep.RegionLaw
import Derived.Deep.RegionLawGrows
import Derived.Deep.RegionHeld3
import Derived.RegionCalls
import Derived.Deep.RegionWith
import Derived.Deep.Light
import Derived.Laws.CopyOwn
import Derived.Laws.ResultCell
namespace Go.Proofs.Ytbdbnjbafampaaa
set_option linter.unusedSimpArgs false
set_option linter.unusedVariables false
set_option maxRecDepth 100000
open Go.RowKit
/- SameRaws. -/
/-- Pieces in memory. -/
def XV (D : Nat → Prop) (w : World) (l : List (Int × Nat × Nat)) (sl : Value) : Prop := ∃ p c, sl = .slice p l.length c ∧ (l ≠ [] → ∃ b o, p = some ⟨b, o, none⟩ ∧ D b ∧ ∀ i (h : i < l.length), w.cell? ⟨b, o + i * 3, none⟩ = some (.int .i64 l[i].1) ∧ w.cell? ⟨b, o + i * 3 + 1, none⟩ = some (.int .i64 (l[i].2.1 : Nat)) ∧ w.cell? ⟨b, o + i * 3 + 2, none⟩ = some (.int .i64 (l[i].2.2 : Nat)))
theorem XV.mono {D E : Nat → Prop} {w w' : World} (hE : ∀ b, D b → E b) (hw : ∀ b, D b → b < w.heap.size → w'.heap[b]? = w.heap[b]?) {l : List (Int × Nat × Nat)} {sl : Value} (h : XV D w l sl) : XV E w' l sl := by
  obtain ⟨p, c, rfl, h⟩ := h
  refine ⟨p, c, rfl, fun hn => ?_⟩
  obtain ⟨b, o, hp, hD, hc⟩ := h hn
  refine ⟨b, o, hp, hE b hD, fun i hi => ?_⟩
  obtain ⟨h1, h2, h3⟩ := hc i hi
  have hk : ∀ o v, w.cell? ⟨b, o, none⟩ = some v → w'.cell? ⟨b, o, none⟩ = some v := fun o v h => by rw [← h]; exact cell_same (hw b hD (blk_lt h)) _
  exact ⟨hk _ _ h1, hk _ _ h2, hk _ _ h3⟩
theorem XV.up {w w' : World} {D : Nat → Prop} (hD : ∀ b, D b → b < w.heap.size) {l : List (Int × Nat × Nat)} {sl : Value} (h : XV D w l sl) (hb : Below w.heap.size w w') : XV D w' l sl := h.mono (fun b h => h) (fun b h _ => hb.block b (hD b h))
theorem rwL_len : ∀ l : List (Int × Nat × Nat), (rwL l).length = l.length * 3
  | [] => rfl
  | x :: l => by
    have := rwL_len l
    show ((rwA x).toList ++ rwL l).length = _
    rw [List.length_append, this, List.length_cons]
    simp [rwA]; omega
theorem rwL_get : ∀ (l : List (Int × Nat × Nat)) (i : Nat) (h : i < l.length), (rwL l)[i * 3]? = some (.int .i64 l[i].1) ∧ (rwL l)[i * 3 + 1]? = some (.int .i64 (l[i].2.1 : Nat)) ∧ (rwL l)[i * 3 + 2]? = some (.int .i64 (l[i].2.2 : Nat))
  | x :: l, 0, h => ⟨rfl, rfl, rfl⟩
  | x :: l, i + 1, h => by
    have := rwL_get l i (by simpa using h)
    have e : rwL (x :: l) = (rwA x).toList ++ rwL l := rfl
    have e3 : ((rwA x).toList).length = 3 := rfl
    rw [e]
    refine ⟨?_, ?_, ?_⟩
    · rw [List.getElem?_append_right (by omega), e3, show (i + 1) * 3 - 3 = i * 3 by omega]; simpa using this.1
    · rw [List.getElem?_append_right (by omega), e3, show (i + 1) * 3 + 1 - 3 = i * 3 + 1 by omega]; simpa using this.2.1
    · rw [List.getElem?_append_right (by omega), e3, show (i + 1) * 3 + 2 - 3 = i * 3 + 2 by omega]; simpa using this.2.2
theorem RwO.xv {B : Nat} {w : World} {l : List (Int × Nat × Nat)} {sl : Value} (h : RwO B w l sl) : XV (fun b => B ≤ b ∧ b < w.heap.size ∧ sl.ownBlock = some b) w l sl := by
  obtain ⟨p, c, rfl⟩ := row_form h
  refine ⟨p, c, rfl, fun hn => ?_⟩
  obtain ⟨g, cap, hv, hcap⟩ := row_own h (List.length_pos_iff.2 hn)
  cases hv
  have hl := World.ownsRow.lt h g rfl
  refine ⟨g, 0, rfl, ⟨hl.1, hl.2, rfl⟩, fun i hi => ?_⟩
  obtain ⟨h1, h2, h3⟩ := rwL_get l i hi
  have hc := fun (j : Nat) (v : Value) (hj : (rwL l)[j]? = some v) => World.ownsRow.cells h rfl j v hj
  refine ⟨?_, ?_, ?_⟩
  · have := hc _ _ h1; rw [Addr.add_mid] at this; exact this
  · have := hc _ _ h2; rw [Addr.add_mid] at this; exact this
  · have := hc _ _ h3; rw [Addr.add_mid] at this; exact this
theorem eq3g (n : Nat) (x y : Int) (w : World) : (Op.equalIn (n + 1) 3 (.int .i64 x) (.int .i64 y)).run Try.prog w = .ok (x == y) w := by
  rw [Op.equalIn]
  simp [run_underlying Try.underlying3]
theorem neq60 (a b c a' b' c' : Int) (w : World) : (binOp .neq 60 (.agg #[.int .i64 a, .int .i64 b, .int .i64 c]) (.agg #[.int .i64 a', .int .i64 b', .int .i64 c'])).run Try.prog w = .ok (.bool !((a == a') && ((b == b') && (c == c')))) w := by
  have h : ∀ (x y : Int) w, (Op.equalIn 9999 3 (.int .i64 x) (.int .i64 y)).run Try.prog w = .ok (x == y) w := fun x y w => eq3g 9998 x y w
  have e : ∀ w, (Op.equalIn 10000 60 (.agg #[.int .i64 a, .int .i64 b, .int .i64 c]) (.agg #[.int .i64 a', .int .i64 b', .int .i64 c'])).run Try.prog w = .ok ((a == a') && ((b == b') && (c == c'))) w := fun w => by
    rw [show (10000 : Nat) = 9999 + 1 from rfl, Op.equalIn]
    simp [run_underlying Try.underlying60, Try.sizeOf3, Std.Legacy.Range.forIn_eq_forIn_range', List.range', part, h]
    by_cases h1 : a = a' <;> by_cases h2 : b = b' <;> by_cases h3 : c = c' <;> simp [h1, h2, h3]
  simp only [binOp]
  simp [Op.equal, Op.maxDepth, e]
end Go.Proofs.Ytbdbnjbafampaaa
