/- Package nfa. -/
import Derived.Test.YtnhfeakndofokaaProg
import Derived.Test.YtnhfeakndofokaaP74
import Derived.WalkKit
import Derived.WalkLawsBesides
import Derived.WalkSpells
import Derived.Outline
import Derived.Lib.Walk
import Derived.Lib.Hide
import Derived.Lib.Slices
import Derived.Lib.Strings
import Derived.RegionTactic
import Derived.LoopTactic
import Derived.Below
import Derived.IntWalk
import Derived.Deep.QuietTactic
import Derived.BigQuiet
import Derived.Deep.MidRow
import Derived.Maps.AppendAt
import Derived.Laws.Rows
import Derived.Laws.Tables
import Derived.Deep.WholeRow
import Derived.Deep.Cut
import Derived.Deep.CutRange
import Derived.Lib.SliceRun
import Derived.Laws.MakeOwn
import Derived.Deep.RegionLaw
import Derived.Deep.RegionLawGrows
import Derived.Deep.RegionHeld3
import Derived.RegionCalls
import Derived.Deep.RegionWith
import Derived.Deep.Light
namespace Go.Proofs.Ytnhfeakndofokaa
set_option linter.unusedSimpArgs false
set_option linter.unusedVariables false
set_option maxRecDepth 100000
open Go.RowKit
theorem neq24s (u : Nat → Int) (w : World) : (binOp .neq 47 (.agg #[.int .u64 (u 0), .int .u64 (u 1), .int .u64 (u 2), .int .u64 (u 3)]) (.agg #[.int .u64 (u 0), .int .u64 (u 1), .int .u64 (u 2), .int .u64 (u 3)])).run Try.prog w = .ok (.bool false) w := by
  have h : ∀ (x y : Int) w, (Op.equalIn 9999 45 (.int .u64 x) (.int .u64 y)).run Try.prog w = .ok (x == y) w := fun x y w => eq22g 9998 x y w
  have e : ∀ w, (Op.equalIn 10000 47 (.agg #[.int .u64 (u 0), .int .u64 (u 1), .int .u64 (u 2), .int .u64 (u 3)]) (.agg #[.int .u64 (u 0), .int .u64 (u 1), .int .u64 (u 2), .int .u64 (u 3)])).run Try.prog w = .ok true w := fun w => by
    rw [show (10000 : Nat) = 9999 + 1 from rfl, Op.equalIn]
    simp [run_underlying Try.underlying47, Try.sizeOf45, Std.Legacy.Range.forIn_eq_forIn_range', List.range', part, h]
  simp only [binOp]
  simp [Op.equal, Op.maxDepth, e]

/- LeftReg: the walk. -/
theorem keepT {v0 v1 v2 v3 v4 v5 v6 v7 v8 v9 v10 v11 v12 v13 : Value} {o0 o1 o2 o3 o4 o5 o6 o7 o8 o9 o10 o11 o12 o13 : Nat} {b0 b1 b2 b3 : Nat} {y w' w'' : World} (h : w'.cell? ⟨b0, o0, none⟩ = some v0 ∧ w'.cell? ⟨b1, o1, none⟩ = some v1 ∧ w'.cell? ⟨b2, o2, none⟩ = some v2 ∧ w'.cell? ⟨b2, o3, none⟩ = some v3 ∧ w'.cell? ⟨b2, o4, none⟩ = some v4 ∧ w'.cell? ⟨b2, o5, none⟩ = some v5 ∧ w'.cell? ⟨b2, o6, none⟩ = some v6 ∧ w'.cell? ⟨b2, o7, none⟩ = some v7 ∧ w'.cell? ⟨b3, o8, none⟩ = some v8 ∧ w'.cell? ⟨b3, o9, none⟩ = some v9 ∧ w'.cell? ⟨b3, o10, none⟩ = some v10 ∧ w'.cell? ⟨b3, o11, none⟩ = some v11 ∧ w'.cell? ⟨b3, o12, none⟩ = some v12 ∧ w'.cell? ⟨b3, o13, none⟩ = some v13 ∧ b0 < w'.heap.size ∧ b1 < w'.heap.size ∧ b2 < w'.heap.size ∧ b3 < w'.heap.size ∧ Below y.heap.size y w') (hb : Below w'.heap.size w' w'') : w''.cell? ⟨b0, o0, none⟩ = some v0 ∧ w''.cell? ⟨b1, o1, none⟩ = some v1 ∧ w''.cell? ⟨b2, o2, none⟩ = some v2 ∧ w''.cell? ⟨b2, o3, none⟩ = some v3 ∧ w''.cell? ⟨b2, o4, none⟩ = some v4 ∧ w''.cell? ⟨b2, o5, none⟩ = some v5 ∧ w''.cell? ⟨b2, o6, none⟩ = some v6 ∧ w''.cell? ⟨b2, o7, none⟩ = some v7 ∧ w''.cell? ⟨b3, o8, none⟩ = some v8 ∧ w''.cell? ⟨b3, o9, none⟩ = some v9 ∧ w''.cell? ⟨b3, o10, none⟩ = some v10 ∧ w''.cell? ⟨b3, o11, none⟩ = some v11 ∧ w''.cell? ⟨b3, o12, none⟩ = some v12 ∧ w''.cell? ⟨b3, o13, none⟩ = some v13 ∧ b0 < w''.heap.size ∧ b1 < w''.heap.size ∧ b2 < w''.heap.size ∧ b3 < w''.heap.size ∧ Below y.heap.size y w'' := by
  obtain ⟨h0, h1, h2, h3, h4, h5, h6, h7, h8, h9, h10, h11, h12, h13, z0, z1, z2, z3, K⟩ := h
  exact ⟨(hb.cell (p := ⟨b0, o0, none⟩) z0).trans h0, (hb.cell (p := ⟨b1, o1, none⟩) z1).trans h1, (hb.cell (p := ⟨b2, o2, none⟩) z2).trans h2, (hb.cell (p := ⟨b2, o3, none⟩) z2).trans h3, (hb.cell (p := ⟨b2, o4, none⟩) z2).trans h4, (hb.cell (p := ⟨b2, o5, none⟩) z2).trans h5, (hb.cell (p := ⟨b2, o6, none⟩) z2).trans h6, (hb.cell (p := ⟨b2, o7, none⟩) z2).trans h7, (hb.cell (p := ⟨b3, o8, none⟩) z3).trans h8, (hb.cell (p := ⟨b3, o9, none⟩) z3).trans h9, (hb.cell (p := ⟨b3, o10, none⟩) z3).trans h10, (hb.cell (p := ⟨b3, o11, none⟩) z3).trans h11, (hb.cell (p := ⟨b3, o12, none⟩) z3).trans h12, (hb.cell (p := ⟨b3, o13, none⟩) z3).trans h13, Nat.lt_of_lt_of_le z0 hb.size, Nat.lt_of_lt_of_le z1 hb.size, Nat.lt_of_lt_of_le z2 hb.size, Nat.lt_of_lt_of_le z3 hb.size, K.trans (hb.mono K.size)⟩
theorem keepT_k {v0 v1 v2 v3 v4 v5 v6 v7 v8 v9 v10 v11 v12 v13 : Value} {o0 o1 o2 o3 o4 o5 o6 o7 o8 o9 o10 o11 o12 o13 : Nat} {b0 b1 b2 b3 : Nat} {y w' : World} (h : w'.cell? ⟨b0, o0, none⟩ = some v0 ∧ w'.cell? ⟨b1, o1, none⟩ = some v1 ∧ w'.cell? ⟨b2, o2, none⟩ = some v2 ∧ w'.cell? ⟨b2, o3, none⟩ = some v3 ∧ w'.cell? ⟨b2, o4, none⟩ = some v4 ∧ w'.cell? ⟨b2, o5, none⟩ = some v5 ∧ w'.cell? ⟨b2, o6, none⟩ = some v6 ∧ w'.cell? ⟨b2, o7, none⟩ = some v7 ∧ w'.cell? ⟨b3, o8, none⟩ = some v8 ∧ w'.cell? ⟨b3, o9, none⟩ = some v9 ∧ w'.cell? ⟨b3, o10, none⟩ = some v10 ∧ w'.cell? ⟨b3, o11, none⟩ = some v11 ∧ w'.cell? ⟨b3, o12, none⟩ = some v12 ∧ w'.cell? ⟨b3, o13, none⟩ = some v13 ∧ b0 < w'.heap.size ∧ b1 < w'.heap.size ∧ b2 < w'.heap.size ∧ b3 < w'.heap.size ∧ Below y.heap.size y w') : Below y.heap.size y w' := h.2.2.2.2.2.2.2.2.2.2.2.2.2.2.2.2.2.2
set_option maxHeartbeats 16000000 in
theorem left_walk {D E : Nat → Prop} {k : Int} {u : Nat → Int} {ps : List RT} {v v' : Value} {w : World} (hD : ∀ b, D b → b < w.heap.size) (hE : ∀ b, E b → b < w.heap.size) (hl : ps.length ≤ 1000000) (h : TW D w (.mk k u ps) v) (g : RV E w (.mk k u ps) v')
    (hI : Hid (∀ i (hi : i < ps.length) v v' w, TW D w ps[i] v → RV E w ps[i] v' → (∀ b, D b → b < w.heap.size) → (∀ b, E b → b < w.heap.size) → Calls Try.prog 38 #[v, v'] w fun e w' => e = .returned (.bool true) ∧ Below w.heap.size w w')) :
    Calls Try.prog 38 #[v, v'] w fun e w' => e = .returned (.bool true) ∧ Below w.heap.size w w' := by
  cases h with
  | mk k u ps b c X hDb hbl hx hc hm hcap =>
  obtain ⟨p', c', rfl, hp'⟩ := g.parts
  have HP' := Lib.hid hp'
  have HX := Lib.hid hx
  have HC := Lib.hid hc
  have HM := Lib.hid hm
  clear g hp' hx hc hm
  have S0 := Lib.hid (((Sb.start w).alloc (.cells #[.int .i64 k, .int .u64 (u 0), .int .u64 (u 1), .int .u64 (u 2), .int .u64 (u 3), .slice (some ⟨b, 0, none⟩) ps.length c] 56)).alloc (.cells #[.int .i64 k, .int .u64 (u 0), .int .u64 (u 1), .int .u64 (u 2), .int .u64 (u 3), .slice p' ps.length c'] 56))
  rw [show (w.alloc (.cells #[.int .i64 k, .int .u64 (u 0), .int .u64 (u 1), .int .u64 (u 2), .int .u64 (u 3), .slice (some ⟨b, 0, none⟩) ps.length c] 56)).heap.size = w.heap.size + 1 from by simp] at S0
  have hns := neq24s u
  have hz := zero27l
  have i1 : ¬ (c : Int) < ((ps.length : Nat) : Int) + 3 := by omega
  have i2 : ((ps.length : Nat) : Int) + 3 ≤ (c : Int) := by omega
  have i3 : (0 : Int) ≤ ((ps.length : Nat) : Int) + 3 := by omega
  unfold nodeC
  go_enter Try.func38, Try.ntmps38
  go_wp2_with fail
  go_loopw [6] (fun i wr => ∃ m : Nat, m ≤ 3 ∧ i = .int .i64 (m : Nat) ∧ Hid (Sb w wr [(w.heap.size + 1, .cells #[.int .i64 k, .int .u64 (u 0), .int .u64 (u 1), .int .u64 (u 2), .int .u64 (u 3), .slice p' ps.length c'] 56), (w.heap.size, .cells #[.int .i64 k, .int .u64 (u 0), .int .u64 (u 1), .int .u64 (u 2), .int .u64 (u 3), .slice (some ⟨b, 0, none⟩) ps.length c] 56)])) (fun i _ => 3 - (intOf i).toNat)
  case atStart => exact ⟨0, by omega, rfl, S0⟩
  case round =>
    obtain ⟨m, hm3, rfl, HS⟩ := hrel
    clear S0 hns
    have q5 : wr.cell? ⟨w.heap.size + 1, 5, none⟩ = some (.slice p' ps.length c') := HS.out.cell 5
    by_cases hlt : m < 3
    · have hmk : ∃ q : Int, markV m = nodeC q u0 (.slice none 0 0) ∧ q = -7000 - (m : Int) := ⟨_, rfl, rfl⟩
      obtain ⟨q, hq, hq2⟩ := hmk
      have hlt3 : (m : Int) < 3 := by omega
      have hqw : IntKind.i64.wrap (-7000 - (m : Int)) = q := by rw [IntWalk.i64_in _ (by omega)]; exact hq2.symm
      have hiw : IntKind.i64.wrap (((ps.length : Nat) : Int) + (m : Int)) = ((ps.length : Nat) : Int) + (m : Int) := IntWalk.i64_in _ (by omega)
      have hi0 : (0 : Int) ≤ ((ps.length : Nat) : Int) + (m : Int) := by omega
      have hi1 : ((ps.length : Nat) : Int) + (m : Int) < ((ps.length : Nat) : Int) + 3 := by omega
      have cc : ∀ j y, j < 6 → (nodeC q u0 (.slice none 0 0))[j]? = some y → wr.cell? ⟨b, (ps.length + m) * 6 + j, none⟩ = some y := fun j y hj hy => by
        obtain ⟨z, h1, h2⟩ := HM.out m hlt j hj
        rw [hq, hy] at h1
        cases h1
        rw [HS.out.1.cell (p := ⟨b, (ps.length + m) * 6 + j, none⟩) hbl, ← h2, show (ps.length + m) * 6 + j = 6 * (ps.length + m) + j by omega]
      have d0 : wr.cell? ⟨b, (ps.length + m) * 6, none⟩ = some (.int .i64 q) := cc 0 _ (by omega) rfl
      have d1 : wr.cell? ⟨b, (ps.length + m) * 6 + 1, none⟩ = some (.int .u64 0) := cc 1 _ (by omega) rfl
      have d2 : wr.cell? ⟨b, (ps.length + m) * 6 + 2, none⟩ = some (.int .u64 0) := cc 2 _ (by omega) rfl
      have d3 : wr.cell? ⟨b, (ps.length + m) * 6 + 3, none⟩ = some (.int .u64 0) := cc 3 _ (by omega) rfl
      have d4 : wr.cell? ⟨b, (ps.length + m) * 6 + 4, none⟩ = some (.int .u64 0) := cc 4 _ (by omega) rfl
      have d5 : wr.cell? ⟨b, (ps.length + m) * 6 + 5, none⟩ = some (.slice none 0 0) := cc 5 _ (by omega) rfl
      have HS2 := Lib.hid (HS.out.up ((Below.refl _ _).alloc (Nat.le_refl _) (.cells (nodeC q u0 (.slice none 0 0)) 56)))
      unfold nodeC u0 at HS2
      clear cc hq hq2 HS
      go_wp2_with fail
      go_roundw
      case rel => exact ⟨m + 1, by omega, by go_num, HS2⟩
      case measure => simp [intOf]; omega
    · obtain rfl : m = 3 := by omega
      rw [show (((3 : Nat)) : Int) = (3 : Int) from rfl]
      go_wp2_with fail
      go_loopw [8] (fun i wr => ∃ j : Nat, j ≤ ps.length ∧ i = .int .i64 (j : Nat) ∧ Hid (Sb w wr [(w.heap.size + 1, .cells #[.int .i64 k, .int .u64 (u 0), .int .u64 (u 1), .int .u64 (u 2), .int .u64 (u 3), .slice p' ps.length c'] 56), (w.heap.size, .cells #[.int .i64 k, .int .u64 (u 0), .int .u64 (u 1), .int .u64 (u 2), .int .u64 (u 3), .slice (some ⟨b, 0, none⟩) ps.length c] 56)])) (fun i _ => ps.length - (intOf i).toNat)
      case atStart => exact ⟨0, by omega, rfl, HS⟩
      clear HS q5 hlt
      case round =>
        obtain ⟨j, hj, rfl, HS⟩ := hrel
        have q6 : wr.cell? ⟨w.heap.size + 1, 5, none⟩ = some (.slice p' ps.length c') := HS.out.cell 5
        by_cases hlt : j < ps.length
        · have hlt3 : (j : Int) < ((ps.length : Nat) : Int) := by omega
          have hne : ps ≠ [] := by intro e; subst e; simp at hlt
          obtain ⟨b', o', rfl, hEb, hx'⟩ := HP'.out hne
          obtain ⟨k2, u2, p2, n2, c2, hv', hcell'⟩ := hx' j hlt
          have hv := HX.out j hlt
          obtain ⟨k1, u1, p1, n1, c1, hf⟩ := hv.form
          have hXj : X j = nodeC k1 u1 (.slice p1 n1 c1) := by injection hf
          rw [hXj] at hv
          have hbw' := hE b' hEb
          have cc : ∀ i y, i < 6 → (nodeC k1 u1 (.slice p1 n1 c1))[i]? = some y → wr.cell? ⟨b, j * 6 + i, none⟩ = some y := fun i y hi hy => by
            obtain ⟨z, h1, h2⟩ := HC.out j hlt i hi
            rw [hXj, hy] at h1
            cases h1
            rw [HS.out.1.cell (p := ⟨b, j * 6 + i, none⟩) hbl, ← h2, show j * 6 + i = 6 * j + i by omega]
          have cc' : ∀ i y, (nodeC k2 u2 (.slice p2 n2 c2))[i]? = some y → wr.cell? ⟨b', o' + j * 6 + i, none⟩ = some y := fun i y hy => by
            rw [HS.out.1.cell (p := ⟨b', o' + j * 6 + i, none⟩) hbw', ← hcell' i y hy, show o' + j * 6 + i = o' + (6 * j + i) by omega]
          have a5 : wr.cell? ⟨w.heap.size, 5, none⟩ = some (.slice (some ⟨b, 0, none⟩) ps.length c) := HS.out.tl.cell 5
          have d0 : wr.cell? ⟨b, j * 6, none⟩ = some (.int .i64 k1) := cc 0 _ (by omega) rfl
          have d1 : wr.cell? ⟨b, j * 6 + 1, none⟩ = some (.int .u64 (u1 0)) := cc 1 _ (by omega) rfl
          have d2 : wr.cell? ⟨b, j * 6 + 2, none⟩ = some (.int .u64 (u1 1)) := cc 2 _ (by omega) rfl
          have d3 : wr.cell? ⟨b, j * 6 + 3, none⟩ = some (.int .u64 (u1 2)) := cc 3 _ (by omega) rfl
          have d4 : wr.cell? ⟨b, j * 6 + 4, none⟩ = some (.int .u64 (u1 3)) := cc 4 _ (by omega) rfl
          have d5 : wr.cell? ⟨b, j * 6 + 5, none⟩ = some (.slice p1 n1 c1) := cc 5 _ (by omega) rfl
          have e0 : wr.cell? ⟨b', o' + j * 6, none⟩ = some (.int .i64 k2) := cc' 0 _ rfl
          have e1 : wr.cell? ⟨b', o' + j * 6 + 1, none⟩ = some (.int .u64 (u2 0)) := cc' 1 _ rfl
          have e2 : wr.cell? ⟨b', o' + j * 6 + 2, none⟩ = some (.int .u64 (u2 1)) := cc' 2 _ rfl
          have e3 : wr.cell? ⟨b', o' + j * 6 + 3, none⟩ = some (.int .u64 (u2 2)) := cc' 3 _ rfl
          have e4 : wr.cell? ⟨b', o' + j * 6 + 4, none⟩ = some (.int .u64 (u2 3)) := cc' 4 _ rfl
          have e5 : wr.cell? ⟨b', o' + j * 6 + 5, none⟩ = some (.slice p2 n2 c2) := cc' 5 _ rfl
          have z1 : w.heap.size < wr.heap.size := HS.out.tl.lt
          have z2 : w.heap.size + 1 < wr.heap.size := HS.out.lt
          have z3 : b < wr.heap.size := Nat.lt_of_lt_of_le hbl HS.out.1.size
          have z4 : b' < wr.heap.size := Nat.lt_of_lt_of_le hbw' HS.out.1.size
          have HK : Hid (∀ z, Below wr.heap.size wr z → Calls Try.prog 38 #[.agg (nodeC k1 u1 (.slice p1 n1 c1)), .agg (nodeC k2 u2 (.slice p2 n2 c2))] z fun e w' => e = .returned (.bool true) ∧ Below z.heap.size z w') := Lib.hid fun z hb => by
            have hk : ∀ x, x < w.heap.size → z.heap[x]? = w.heap[x]? := fun x hx => (hb.block x (Nat.lt_of_lt_of_le hx HS.out.1.size)).trans (HS.out.1.block x hx)
            have hsz := Nat.le_trans HS.out.1.size hb.size
            exact hI.out j hlt _ _ z (TW.mono (fun b h => h) (fun x hx _ => hk x (hD x hx)) hv) (RV.mono (fun b h => h) (fun x hx _ => hk x (hE x hx)) hv') (fun x hx => Nat.lt_of_lt_of_le (hD x hx) hsz) (fun x hx => Nat.lt_of_lt_of_le (hE x hx) hsz)
          unfold nodeC at HK
          clear cc cc' hv hv' hf hXj hcell' hx'
          go_upto_region 13 with fail
          go_region_held3 (fun w' => w'.cell? ⟨w.heap.size, 5, none⟩ = some (.slice (some ⟨b, 0, none⟩) ps.length c) ∧ w'.cell? ⟨w.heap.size + 1, 5, none⟩ = some (.slice (some ⟨b', o', none⟩) ps.length c') ∧ w'.cell? ⟨b, j * 6, none⟩ = some (.int .i64 k1) ∧ w'.cell? ⟨b, j * 6 + 1, none⟩ = some (.int .u64 (u1 0)) ∧ w'.cell? ⟨b, j * 6 + 2, none⟩ = some (.int .u64 (u1 1)) ∧ w'.cell? ⟨b, j * 6 + 3, none⟩ = some (.int .u64 (u1 2)) ∧ w'.cell? ⟨b, j * 6 + 4, none⟩ = some (.int .u64 (u1 3)) ∧ w'.cell? ⟨b, j * 6 + 5, none⟩ = some (.slice p1 n1 c1) ∧ w'.cell? ⟨b', o' + j * 6, none⟩ = some (.int .i64 k2) ∧ w'.cell? ⟨b', o' + j * 6 + 1, none⟩ = some (.int .u64 (u2 0)) ∧ w'.cell? ⟨b', o' + j * 6 + 2, none⟩ = some (.int .u64 (u2 1)) ∧ w'.cell? ⟨b', o' + j * 6 + 3, none⟩ = some (.int .u64 (u2 2)) ∧ w'.cell? ⟨b', o' + j * 6 + 4, none⟩ = some (.int .u64 (u2 3)) ∧ w'.cell? ⟨b', o' + j * 6 + 5, none⟩ = some (.slice p2 n2 c2) ∧ w.heap.size < w'.heap.size ∧ w.heap.size + 1 < w'.heap.size ∧ b < w'.heap.size ∧ b' < w'.heap.size ∧ Below wr.heap.size wr w')
            (first | assumption | exact ⟨a5, q6, d0, d1, d2, d3, d4, d5, e0, e1, e2, e3, e4, e5, z1, z2, z3, z4, below_drewN (Below.refl _ _) 1⟩ | exact keepT (by assumption) hb)
            (first | (go_at_call 38; refine (HK.out _ (keepT_k (by assumption))).mono ?_; rintro _ wq ⟨rfl, hb⟩))
          all_goals
            rename_i hHeld
            have HS2 := Lib.hid (HS.out.up (keepT_k hHeld))
            clear hHeld hb HK HS a5 q6 d0 d1 d2 d3 d4 d5 e0 e1 e2 e3 e4 e5 z1 z2 z3 z4
            go_wp2_with fail
            go_roundw
            case rel => exact ⟨j + 1, by omega, by go_num, HS2⟩
            case measure => simp [intOf]; omega
        · obtain rfl : j = ps.length := by omega
          have hlt3 : ¬ ((ps.length : Nat) : Int) < ((ps.length : Nat) : Int) := by omega
          go_wp2_with fail
          go_ret
          exact ⟨rfl, HS.out.1⟩
theorem twin_any {D : Nat → Prop} : ∀ (n : Nat) (t : RT) {v : Value} {w : World}, dep t ≤ n → wid t ≤ 1000000 → (∀ b, D b → b < w.heap.size) → RV D w t v → Calls Try.prog 37 #[v] w (TwP t w)
  | 0, .mk k u ps, v, w, hn, _, _, _ => by simp [dep] at hn
  | n + 1, .mk k u ps, v, w, hn, hw, hD, h => by
    have h1 : depL ps ≤ n := by simp only [dep] at hn; omega
    obtain ⟨hl, hw2⟩ := wid_mk hw
    exact twin_walk hD hl h (Lib.hid fun i hi v1 w1 h1' hD1 => twin_any n ps[i] (by have := depL_get ps i hi; omega) (hw2 i hi) hD1 h1')
theorem left_any {D E : Nat → Prop} : ∀ (n : Nat) (t : RT) {v v' : Value} {w : World}, dep t ≤ n → wid t ≤ 1000000 → (∀ b, D b → b < w.heap.size) → (∀ b, E b → b < w.heap.size) → TW D w t v → RV E w t v' → Calls Try.prog 38 #[v, v'] w fun e w' => e = .returned (.bool true) ∧ Below w.heap.size w w'
  | 0, .mk k u ps, v, v', w, hn, _, _, _, _, _ => by simp [dep] at hn
  | n + 1, .mk k u ps, v, v', w, hn, hw, hD, hE, h, g => by
    have h1 : depL ps ≤ n := by simp only [dep] at hn; omega
    obtain ⟨hl, hw2⟩ := wid_mk hw
    exact left_walk hD hE hl h g (Lib.hid fun i hi v1 v2 w1 h1' g1 hD1 hE1 => left_any n ps[i] (by have := depL_get ps i hi; omega) (hw2 i hi) hD1 hE1 h1' g1)
end Go.Proofs.Ytnhfeakndofokaa
