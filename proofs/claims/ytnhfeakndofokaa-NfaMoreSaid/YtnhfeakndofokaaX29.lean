/- Texts of package regs, one behind the other. -/
import Derived.Test.YtnhfeakndofokaaProg
import Derived.Test.YtnhfeakndofokaaN40
import Derived.Test.YtnhfeakndofokaaN38a
import Derived.WalkKit
import Derived.WalkLawsBesides
import Derived.WalkSpells
import Derived.Outline
import Derived.Lib.Walk
import Derived.Lib.Hide
import Derived.Lib.Slices
import Derived.Lib.Strings
import Derived.RegionTactic
import Derived.LoopTactic
import Derived.Below
import Derived.IntWalk
import Derived.Deep.QuietTactic
import Derived.BigQuiet
import Derived.Deep.MidRow
import Derived.Maps.AppendAt
import Derived.Laws.Rows
import Derived.Laws.Tables
import Derived.Deep.WholeRow
import Derived.Deep.Cut
import Derived.Deep.CutRange
import Derived.Lib.SliceRun
import Derived.Laws.MakeOwn
import Derived.Deep.RegionLaw
import Derived.Deep.RegionLawGrows
import Derived.Deep.RegionHeld3
import Derived.RegionCalls
import Derived.Deep.RegionWith
import Derived.Deep.Light
section
/- Package nfa. -/
namespace Go.Proofs.Ytnhfeakndofokaa
set_option linter.unusedSimpArgs false
set_option linter.unusedVariables false
set_option maxRecDepth 100000
open Go.RowKit
/- The document's Has. -/
theorem half_step (K j : Nat) : ((K / 2 ^ j : Nat) : Int) / 2 = ((K / 2 ^ (j + 1) : Nat) : Int) := by
  rw [Nat.pow_succ, ← Nat.div_div_eq_div_mul]; omega
set_option maxHeartbeats 4000000 in
theorem refhas_any {u : Nat → Int} (hu : okW u) (b : UInt8) (w : World) : Calls Try.prog 61 #[uV u, .int .u8 b.toNat] w fun e w' => e = .returned (.bool (hasU u b)) ∧ Below w.heap.size w w' := by
  obtain ⟨n, hn⟩ : ∃ n, b.toNat = n := ⟨_, rfl⟩
  have hb : n < 256 := by have := b.toNat_lt; omega
  have hhas : hasU u b = ((u (n / 64)).toNat / 2 ^ (n % 64) % 2 == 1) := by
    unfold hasU
    rw [hn, Nat.testBit_eq_decide_div_mod_eq]
    rw [Bool.eq_iff_iff]; simp
  rw [hhas, hn]
  clear hhas hn b
  have hv : [Value.int IntKind.u64 (u 0), Value.int IntKind.u64 (u 1), Value.int IntKind.u64 (u 2), Value.int IntKind.u64 (u 3)][n / 64]? = some (.int .u64 (u (n / 64))) := by
    rcases (by omega : n / 64 = 0 ∨ n / 64 = 1 ∨ n / 64 = 2 ∨ n / 64 = 3) with h | h | h | h <;> rw [h] <;> rfl
  have hub := hu (n / 64)
  obtain ⟨K, hK⟩ : ∃ K : Nat, u (n / 64) = (K : Nat) := ⟨(u (n / 64)).toNat, by omega⟩
  rw [hK] at hv hub ⊢
  rw [Int.toNat_natCast]
  have S0 := Lib.hid ((Below.refl w.heap.size w).alloc (Nat.le_refl _) (.cells #[.int .u64 (u 0), .int .u64 (u 1), .int .u64 (u 2), .int .u64 (u 3)] 47))
  clear hK
  unfold uV
  go_enter Try.func61, Try.ntmps61
  go_wp2_with fail
  go_loopw [5, 6] (fun v i wr => ∃ j : Nat, i = .int .i64 (j : Nat) ∧ v = .int .u64 ((K / 2 ^ j : Nat) : Int) ∧ j ≤ n % 64 ∧ Hid (Below w.heap.size w wr)) (fun _ i _ => n % 64 - (intOf i).toNat)
  case atStart => exact ⟨0, rfl, by simp, by omega, S0⟩
  case round =>
  clear S0 hv
  obtain ⟨j, rfl, rfl, hj, HB⟩ := hrel
  have hs := half_step K j
  have hle : K / 2 ^ j ≤ K := Nat.div_le_self _ _
  have hle2 : K / 2 ^ (j + 1) ≤ K := Nat.div_le_self _ _
  by_cases hlt : j < n % 64
  · have hI : (j : Int) < (n : Int) % 64 := by omega
    obtain ⟨b, hb⟩ : ∃ b, K / 2 ^ (j + 1) = b := ⟨_, rfl⟩
    rw [hb] at hs hle2
    have HBB := Lib.hid hb
    clear hb
    generalize K / 2 ^ j = a at *
    go_wp2_with fail
    go_roundw
    case rel => exact ⟨j + 1, by go_num, by rw [HBB.out], by omega, HB⟩
    case measure => simp [intOf]; omega
  · obtain rfl : j = n % 64 := by omega
    have hI : ¬ ((n % 64 : Nat) : Int) < (n : Int) % 64 := by omega
    clear hs hle2
    obtain ⟨a, ha⟩ : ∃ a, K / 2 ^ (n % 64) = a := ⟨_, rfl⟩
    rw [ha] at hle ⊢
    have HAA := Lib.hid ha
    clear ha
    go_wp2_with fail
    go_ret
    exact ⟨vbool6 (by rw [HAA.out, Bool.eq_iff_iff]; simp; omega), HB.out⟩
end Go.Proofs.Ytnhfeakndofokaa
end
section
/- Package nfa. -/
namespace Go.Proofs.Ytnhfeakndofokaa
set_option linter.unusedSimpArgs false
set_option linter.unusedVariables false
set_option maxRecDepth 100000
open Go.RowKit
/- Rows of truths; where free ways lead: plain. -/
def BV (D : Nat → Prop) (w : World) (n : Nat) (f : Nat → Bool) (sl : Value) : Prop := ∃ b o c, sl = .slice (some ⟨b, o, none⟩) n c ∧ D b ∧ ∀ i, i < n → w.cell? ⟨b, o + i, none⟩ = some (.bool (f i))
theorem BV.mono {D E : Nat → Prop} {w w' : World} {n : Nat} {f : Nat → Bool} {sl : Value} (hn : 0 < n) (hE : ∀ b, D b → E b) (hw : ∀ b, D b → b < w.heap.size → w'.heap[b]? = w.heap[b]?) (h : BV D w n f sl) : BV E w' n f sl := by
  obtain ⟨b, o, c, rfl, hD, hc⟩ := h
  have hb := blk_lt (hc 0 hn)
  exact ⟨b, o, c, rfl, hE b hD, fun i hi => (cell_same (hw b hD hb) _).trans (hc i hi)⟩
def nofs (n : Nat) (f : Nat → Bool) : Nat := ((List.range n).filter fun i => !f i).length
theorem nofs_congr {n : Nat} {f g : Nat → Bool} (h : ∀ i, i < n → f i = g i) : nofs n f = nofs n g := by
  unfold nofs
  congr 1
  refine List.filter_congr fun i hi => ?_
  rw [h i (List.mem_range.1 hi)]
def upd (f : Nat → Bool) (i : Nat) : Nat → Bool := fun j => f j || j == i
theorem nofs_upd {n : Nat} {f : Nat → Bool} {i : Nat} (hi : i < n) (hf : f i = false) : nofs n (upd f i) < nofs n f := by
  have e : (List.range n).filter (fun j => !upd f i j) = ((List.range n).filter fun j => !f j).filter fun j => !(j == i) := by
    rw [List.filter_filter]
    refine List.filter_congr fun j _ => ?_
    unfold upd
    cases f j <;> cases (j == i) <;> rfl
  unfold nofs
  rw [e]
  refine List.length_filter_lt_length_iff_exists.2 ⟨i, ?_, by simp⟩
  rw [List.mem_filter]
  exact ⟨List.mem_range.2 hi, by rw [hf]; rfl⟩
/-- Reached from those of f0. -/
def Rin (ss : List Nst) (f0 f : Nat → Bool) : Prop := (∀ s, s < ss.length → f0 s = true → f s = true) ∧ ∀ s, s < ss.length → f s = true → ∃ a, a < ss.length ∧ f0 a = true ∧ Rt ss a s
def Clo (ss : List Nst) (f : Nat → Bool) (j : Nat) : Prop := ∀ s, s < j → f s = true → ∀ x ∈ frOf ss s, f x.toNat = true
theorem Rin.start (ss : List Nst) (f0 : Nat → Bool) : Rin ss f0 f0 := ⟨fun _ _ h => h, fun s hs h => ⟨s, hs, h, .refl s⟩⟩
theorem Rin.upd {ss : List Nst} {f0 f : Nat → Bool} {j : Nat} {x : Int} (h : Rin ss f0 f) (hj : j < ss.length) (hf : f j = true) (hx : x ∈ frOf ss j) : Rin ss f0 (upd f x.toNat) := by
  refine ⟨fun s hs h0 => by unfold Go.Proofs.Ytnhfeakndofokaa.upd; rw [h.1 s hs h0]; rfl, fun s hs hu => ?_⟩
  unfold Go.Proofs.Ytnhfeakndofokaa.upd at hu
  simp only [Bool.or_eq_true, beq_iff_eq] at hu
  rcases hu with hu | rfl
  · exact h.2 s hs hu
  · obtain ⟨a, ha, h0, hr⟩ := h.2 j hj hf
    exact ⟨a, ha, h0, .step hr x hx rfl⟩
theorem Rin.done {ss : List Nst} {f0 f : Nat → Bool} (hfi : Fine ss) (h : Rin ss f0 f) (hc : Clo ss f ss.length) : ∀ s, s < ss.length → (f s = true ↔ ∃ a, a < ss.length ∧ f0 a = true ∧ Rt ss a s) := by
  intro s hs
  refine ⟨h.2 s hs, ?_⟩
  rintro ⟨a, ha, h0, hr⟩
  have : ∀ b, Rt ss a b → f b = true ∧ b < ss.length := fun b hb => by
    induction hb with
    | refl => exact ⟨h.1 a ha h0, ha⟩
    | step _ x hx hce ih =>
      rw [hce]
      exact ⟨hc _ ih.2 ih.1 x hx, hfi.fr _ x hx⟩
  exact (this s hr).1
/-- What a row of truths in memory says. -/
def fW (w : World) (g : Nat) (i : Nat) : Bool := match w.cell? ⟨g, i, none⟩ with
  | some (.bool b) => b
  | _ => true
def flg : Value → Nat
  | .bool true => 1
  | _ => 0
/-- The document's row, and the box of the automaton. -/
def FT (w : World) (box : Obj) (g : Nat) (n : Nat) (f : Nat → Bool) (y : World) : Prop := Below w.heap.size w y ∧ y.heap[w.heap.size]? = some box ∧ w.heap.size < g ∧ ∃ cs : Array Value, y.heap[g]? = some (.cells cs 4 (0, 0)) ∧ n ≤ cs.size ∧ ∀ i, i < n → cs[i]? = some (.bool (f i))
theorem FT.cell {w : World} {box : Obj} {g n : Nat} {f : Nat → Bool} {y : World} (h : FT w box g n f y) {i : Nat} (hi : i < n) : y.cell? ⟨g, i, none⟩ = some (.bool (f i)) := by
  obtain ⟨_, _, _, cs, h1, _, h2⟩ := h
  rw [cell_of_row y g i _ 4 (0, 0) h1, h2 i hi]
theorem FT.msr {w : World} {box : Obj} {g n : Nat} {f : Nat → Bool} {y : World} (h : FT w box g n f y) : nofs n (fW y g) = nofs n f :=
  nofs_congr fun i hi => by unfold fW; rw [h.cell hi]
theorem FT.free {w : World} {box : Obj} {g n : Nat} {f : Nat → Bool} {y : World} (h : FT w box g n f y) (i : Nat) : y.frozen? ⟨g, i, none⟩ = false := by
  obtain ⟨_, _, _, cs, h1, _, h2⟩ := h
  exact frozen_of_row y g i _ 4 h1
theorem FT.set {w : World} {box : Obj} {g n : Nat} {f : Nat → Bool} {y : World} (h : FT w box g n f y) {i : Nat} (hi : i < n) : FT w box g n (upd f i) (y.setCell ⟨g, i, none⟩ (.bool true)) := by
  obtain ⟨h1, h2, h3, cs, h4, h5, h6⟩ := h
  refine ⟨h1.setCell (p := ⟨g, i, none⟩) (by simp; omega) _, (heap_setCell_other _ _ _ _ (by simp; omega)).trans h2, h3, cs.setIfInBounds i (.bool true), heap_setCell_same y g i cs 4 _ h4, by simpa using h5, fun j hj => ?_⟩
  rw [Array.getElem?_setIfInBounds]
  by_cases e : i = j
  · subst e
    rw [if_pos rfl, if_pos (by omega)]
    unfold upd; simp
  · rw [if_neg e, h6 j hj]
    unfold upd
    rw [show (j == i) = false by simpa using fun h => e h.symm]
    simp
theorem FT.up {w : World} {box : Obj} {g n : Nat} {f : Nat → Bool} {y z : World} (h : FT w box g n f y) (hb : Below y.heap.size y z) : FT w box g n f z := by
  obtain ⟨h1, h2, h3, cs, h4, h5, h6⟩ := h
  exact ⟨h1.trans (hb.mono h1.size), (hb.block _ (Array.getElem?_eq_some_iff.1 h2).1).trans h2, h3, cs, (hb.block _ (Array.getElem?_eq_some_iff.1 h4).1).trans h4, h5, h6⟩
theorem FT.bv {w : World} {box : Obj} {g n cap : Nat} {f : Nat → Bool} {y : World} (h : FT w box g n f y) : BV (fun b => w.heap.size ≤ b ∧ b < y.heap.size) y n f (.slice (some ⟨g, 0, none⟩) n cap) := by
  refine ⟨g, 0, cap, rfl, ⟨Nat.le_of_lt h.2.2.1, ?_⟩, fun i hi => by rw [Nat.zero_add]; exact h.cell hi⟩
  obtain ⟨_, _, _, cs, h1, _, h2⟩ := h
  exact (Array.getElem?_eq_some_iff.1 h1).1
def zb (n : Nat) (f : Nat → Bool) : List Value := (List.range n).map fun i => .bool (f i)
theorem zb_len (n : Nat) (f : Nat → Bool) : (zb n f).length = n := by simp [zb]
theorem zb_get {n : Nat} {f : Nat → Bool} {i : Nat} (h : i < n) : (zb n f)[i]? = some (.bool (f i)) := by simp [zb, h]
theorem zb_one (n : Nat) (f : Nat → Bool) : ∀ u ∈ zb n f, u.oneCell' = true := by
  intro u hu
  obtain ⟨i, _, rfl⟩ := List.mem_map.1 hu
  rfl
theorem ft_row {w y : World} {box : Obj} {n : Nat} {f : Nat → Bool} {v : Value} (hn : 0 < n) (hb : Below w.heap.size w y) (hx : y.heap[w.heap.size]? = some box) (h : y.ownsRow (w.heap.size + 1) 4 1 v n (zb n f)) : ∃ g cap, v = .slice (some ⟨g, 0, none⟩) n cap ∧ n ≤ cap ∧ FT w box g n f y := by
  rcases h.2 with ⟨_, h0⟩ | ⟨g, cap, cur, hv, h1, h2, h3, h4, h5, h6⟩
  · omega
  · refine ⟨g, cap, hv, h3, hb, hx, by omega, cur, h2, by omega, fun i hi => ?_⟩
    have e := congrArg (fun x : List Value => x[i]?) h6
    simp only [Nat.mul_one, List.getElem?_take, if_pos hi, Array.getElem?_toList] at e
    rw [e, zb_get hi]
end Go.Proofs.Ytnhfeakndofokaa
end
