/- Rules, their twins: as in layer 6. -/
import Derived.Test.YtbdbnjbafampaaaProg
import Derived.Test.YtbdbnjbafampaaaBa
import Derived.Test.YtbdbnjbafampaaaRS1
import Derived.WalkKit
import Derived.BigFrame
import Derived.WalkMore
import Derived.ScopeJumps
import Derived.StillTailTactics
import Derived.Stop.BytesEq
import Derived.WalkLawsBesides
import Derived.WalkSpells
import Derived.Outline
import Derived.Lib.Walk
import Derived.Lib.Hide
import Derived.Lib.Slices
import Derived.Lib.Strings
import Derived.RegionTactic
import Derived.LoopTactic
import Derived.Below
import Derived.IntWalk
import Derived.Deep.QuietTactic
import Derived.BigQuiet
import Derived.Deep.MidRow
import Derived.Maps.AppendAt
import Derived.Laws.Rows
import Derived.Laws.Tables
import Derived.Deep.WholeRow
import Derived.Deep.Cut
import Derived.Deep.CutRange
import Derived.Lib.SliceRun
import Derived.Laws.MakeOwn
import Derived.Deep.RegionLaw
import Derived.Deep.RegionLawGrows
import Derived.Deep.RegionHeld3
import Derived.RegionCalls
import Derived.Deep.RegionWith
import Derived.Deep.Light
import Derived.Laws.CopyOwn
import Derived.Laws.ResultCell
import Derived.Deep.SlicePairs
import Derived.Deep.Slices
import Derived.Laws.Entries
import Derived.Laws.IdiomArrays
import Derived.OpenShut
import Derived.WideBlind
namespace Go.Proofs.Ytbdbnjbafampaaa.R6
set_option linter.unusedSimpArgs false
set_option linter.unusedVariables false
set_option maxRecDepth 100000
open Go.RowKit
theorem neq24s (u : Nat → Int) (w : World) : (binOp .neq 65 (.agg #[.int .u64 (u 0), .int .u64 (u 1), .int .u64 (u 2), .int .u64 (u 3)]) (.agg #[.int .u64 (u 0), .int .u64 (u 1), .int .u64 (u 2), .int .u64 (u 3)])).run Try.prog w = .ok (.bool false) w := by
  have h : ∀ (x y : Int) w, (Op.equalIn 9999 63 (.int .u64 x) (.int .u64 y)).run Try.prog w = .ok (x == y) w := fun x y w => eq22g 9998 x y w
  have e : ∀ w, (Op.equalIn 10000 65 (.agg #[.int .u64 (u 0), .int .u64 (u 1), .int .u64 (u 2), .int .u64 (u 3)]) (.agg #[.int .u64 (u 0), .int .u64 (u 1), .int .u64 (u 2), .int .u64 (u 3)])).run Try.prog w = .ok true w := fun w => by
    rw [show (10000 : Nat) = 9999 + 1 from rfl, Op.equalIn]
    simp [run_underlying Try.underlying65, Try.sizeOf63, Std.Legacy.Range.forIn_eq_forIn_range', List.range', part, h]
  simp only [binOp]
  simp [Op.equal, Op.maxDepth, e]

theorem keepT {v0 v1 v2 v3 v4 v5 v6 v7 v8 v9 v10 v11 v12 v13 : Value} {o0 o1 o2 o3 o4 o5 o6 o7 o8 o9 o10 o11 o12 o13 : Nat} {b0 b1 b2 b3 : Nat} {y w' w'' : World} (h : w'.cell? ⟨b0, o0, none⟩ = some v0 ∧ w'.cell? ⟨b1, o1, none⟩ = some v1 ∧ w'.cell? ⟨b2, o2, none⟩ = some v2 ∧ w'.cell? ⟨b2, o3, none⟩ = some v3 ∧ w'.cell? ⟨b2, o4, none⟩ = some v4 ∧ w'.cell? ⟨b2, o5, none⟩ = some v5 ∧ w'.cell? ⟨b2, o6, none⟩ = some v6 ∧ w'.cell? ⟨b2, o7, none⟩ = some v7 ∧ w'.cell? ⟨b3, o8, none⟩ = some v8 ∧ w'.cell? ⟨b3, o9, none⟩ = some v9 ∧ w'.cell? ⟨b3, o10, none⟩ = some v10 ∧ w'.cell? ⟨b3, o11, none⟩ = some v11 ∧ w'.cell? ⟨b3, o12, none⟩ = some v12 ∧ w'.cell? ⟨b3, o13, none⟩ = some v13 ∧ b0 < w'.heap.size ∧ b1 < w'.heap.size ∧ b2 < w'.heap.size ∧ b3 < w'.heap.size ∧ Below y.heap.size y w') (hb : Below w'.heap.size w' w'') : w''.cell? ⟨b0, o0, none⟩ = some v0 ∧ w''.cell? ⟨b1, o1, none⟩ = some v1 ∧ w''.cell? ⟨b2, o2, none⟩ = some v2 ∧ w''.cell? ⟨b2, o3, none⟩ = some v3 ∧ w''.cell? ⟨b2, o4, none⟩ = some v4 ∧ w''.cell? ⟨b2, o5, none⟩ = some v5 ∧ w''.cell? ⟨b2, o6, none⟩ = some v6 ∧ w''.cell? ⟨b2, o7, none⟩ = some v7 ∧ w''.cell? ⟨b3, o8, none⟩ = some v8 ∧ w''.cell? ⟨b3, o9, none⟩ = some v9 ∧ w''.cell? ⟨b3, o10, none⟩ = some v10 ∧ w''.cell? ⟨b3, o11, none⟩ = some v11 ∧ w''.cell? ⟨b3, o12, none⟩ = some v12 ∧ w''.cell? ⟨b3, o13, none⟩ = some v13 ∧ b0 < w''.heap.size ∧ b1 < w''.heap.size ∧ b2 < w''.heap.size ∧ b3 < w''.heap.size ∧ Below y.heap.size y w'' := by
  obtain ⟨h0, h1, h2, h3, h4, h5, h6, h7, h8, h9, h10, h11, h12, h13, z0, z1, z2, z3, K⟩ := h
  exact ⟨(hb.cell (p := ⟨b0, o0, none⟩) z0).trans h0, (hb.cell (p := ⟨b1, o1, none⟩) z1).trans h1, (hb.cell (p := ⟨b2, o2, none⟩) z2).trans h2, (hb.cell (p := ⟨b2, o3, none⟩) z2).trans h3, (hb.cell (p := ⟨b2, o4, none⟩) z2).trans h4, (hb.cell (p := ⟨b2, o5, none⟩) z2).trans h5, (hb.cell (p := ⟨b2, o6, none⟩) z2).trans h6, (hb.cell (p := ⟨b2, o7, none⟩) z2).trans h7, (hb.cell (p := ⟨b3, o8, none⟩) z3).trans h8, (hb.cell (p := ⟨b3, o9, none⟩) z3).trans h9, (hb.cell (p := ⟨b3, o10, none⟩) z3).trans h10, (hb.cell (p := ⟨b3, o11, none⟩) z3).trans h11, (hb.cell (p := ⟨b3, o12, none⟩) z3).trans h12, (hb.cell (p := ⟨b3, o13, none⟩) z3).trans h13, Nat.lt_of_lt_of_le z0 hb.size, Nat.lt_of_lt_of_le z1 hb.size, Nat.lt_of_lt_of_le z2 hb.size, Nat.lt_of_lt_of_le z3 hb.size, K.trans (hb.mono K.size)⟩
theorem keepT_k {v0 v1 v2 v3 v4 v5 v6 v7 v8 v9 v10 v11 v12 v13 : Value} {o0 o1 o2 o3 o4 o5 o6 o7 o8 o9 o10 o11 o12 o13 : Nat} {b0 b1 b2 b3 : Nat} {y w' : World} (h : w'.cell? ⟨b0, o0, none⟩ = some v0 ∧ w'.cell? ⟨b1, o1, none⟩ = some v1 ∧ w'.cell? ⟨b2, o2, none⟩ = some v2 ∧ w'.cell? ⟨b2, o3, none⟩ = some v3 ∧ w'.cell? ⟨b2, o4, none⟩ = some v4 ∧ w'.cell? ⟨b2, o5, none⟩ = some v5 ∧ w'.cell? ⟨b2, o6, none⟩ = some v6 ∧ w'.cell? ⟨b2, o7, none⟩ = some v7 ∧ w'.cell? ⟨b3, o8, none⟩ = some v8 ∧ w'.cell? ⟨b3, o9, none⟩ = some v9 ∧ w'.cell? ⟨b3, o10, none⟩ = some v10 ∧ w'.cell? ⟨b3, o11, none⟩ = some v11 ∧ w'.cell? ⟨b3, o12, none⟩ = some v12 ∧ w'.cell? ⟨b3, o13, none⟩ = some v13 ∧ b0 < w'.heap.size ∧ b1 < w'.heap.size ∧ b2 < w'.heap.size ∧ b3 < w'.heap.size ∧ Below y.heap.size y w') : Below y.heap.size y w' := h.2.2.2.2.2.2.2.2.2.2.2.2.2.2.2.2.2.2
set_option maxHeartbeats 16000000 in
theorem left_walk {D E : Nat → Prop} {k : Int} {u : Nat → Int} {ps : List RT} {v v' : Value} {w : World} (hD : ∀ b, D b → b < w.heap.size) (hE : ∀ b, E b → b < w.heap.size) (hl : ps.length ≤ 1000000) (h : TW D w (.mk k u ps) v) (g : RV E w (.mk k u ps) v')
    (hI : Hid (∀ i (hi : i < ps.length) v v' w, TW D w ps[i] v → RV E w ps[i] v' → (∀ b, D b → b < w.heap.size) → (∀ b, E b → b < w.heap.size) → Calls Try.prog 65 #[v, v'] w fun e w' => e = .returned (.bool true) ∧ Below w.heap.size w w')) :
    Calls Try.prog 65 #[v, v'] w fun e w' => e = .returned (.bool true) ∧ Below w.heap.size w w' := by
  cases h with
  | mk k u ps b c X hDb hbl hx hc hm hcap =>
  obtain ⟨p', c', rfl, hp'⟩ := g.parts
  have HP' := Lib.hid hp'
  have HX := Lib.hid hx
  have HC := Lib.hid hc
  have HM := Lib.hid hm
  clear g hp' hx hc hm
  have S0 := Lib.hid (((Sb.start w).alloc (.cells #[.int .i64 k, .int .u64 (u 0), .int .u64 (u 1), .int .u64 (u 2), .int .u64 (u 3), .slice (some ⟨b, 0, none⟩) ps.length c] 68)).alloc (.cells #[.int .i64 k, .int .u64 (u 0), .int .u64 (u 1), .int .u64 (u 2), .int .u64 (u 3), .slice p' ps.length c'] 68))
  rw [show (w.alloc (.cells #[.int .i64 k, .int .u64 (u 0), .int .u64 (u 1), .int .u64 (u 2), .int .u64 (u 3), .slice (some ⟨b, 0, none⟩) ps.length c] 68)).heap.size = w.heap.size + 1 from by simp] at S0
  have hns := neq24s u
  have hz := zero27l
  have i1 : ¬ (c : Int) < ((ps.length : Nat) : Int) + 3 := by omega
  have i2 : ((ps.length : Nat) : Int) + 3 ≤ (c : Int) := by omega
  have i3 : (0 : Int) ≤ ((ps.length : Nat) : Int) + 3 := by omega
  unfold nodeC
  go_enter Try.func65, Try.ntmps65
  go_wp2_with fail
  go_loopw [6] (fun i wr => ∃ m : Nat, m ≤ 3 ∧ i = .int .i64 (m : Nat) ∧ Hid (Sb w wr [(w.heap.size + 1, .cells #[.int .i64 k, .int .u64 (u 0), .int .u64 (u 1), .int .u64 (u 2), .int .u64 (u 3), .slice p' ps.length c'] 68), (w.heap.size, .cells #[.int .i64 k, .int .u64 (u 0), .int .u64 (u 1), .int .u64 (u 2), .int .u64 (u 3), .slice (some ⟨b, 0, none⟩) ps.length c] 68)])) (fun i _ => 3 - (intOf i).toNat)
  case atStart => exact ⟨0, by omega, rfl, S0⟩
  case round =>
    obtain ⟨m, hm3, rfl, HS⟩ := hrel
    clear S0 hns
    have q5 : wr.cell? ⟨w.heap.size + 1, 5, none⟩ = some (.slice p' ps.length c') := HS.out.cell 5
    by_cases hlt : m < 3
    · have hmk : ∃ q : Int, markV m = nodeC q u0 (.slice none 0 0) ∧ q = -7000 - (m : Int) := ⟨_, rfl, rfl⟩
      obtain ⟨q, hq, hq2⟩ := hmk
      have hlt3 : (m : Int) < 3 := by omega
      have hqw : IntKind.i64.wrap (-7000 - (m : Int)) = q := by rw [IntWalk.i64_in _ (by omega)]; exact hq2.symm
      have hiw : IntKind.i64.wrap (((ps.length : Nat) : Int) + (m : Int)) = ((ps.length : Nat) : Int) + (m : Int) := IntWalk.i64_in _ (by omega)
      have hi0 : (0 : Int) ≤ ((ps.length : Nat) : Int) + (m : Int) := by omega
      have hi1 : ((ps.length : Nat) : Int) + (m : Int) < ((ps.length : Nat) : Int) + 3 := by omega
      have cc : ∀ j y, j < 6 → (nodeC q u0 (.slice none 0 0))[j]? = some y → wr.cell? ⟨b, (ps.length + m) * 6 + j, none⟩ = some y := fun j y hj hy => by
        obtain ⟨z, h1, h2⟩ := HM.out m hlt j hj
        rw [hq, hy] at h1
        cases h1
        rw [HS.out.1.cell (p := ⟨b, (ps.length + m) * 6 + j, none⟩) hbl, ← h2, show (ps.length + m) * 6 + j = 6 * (ps.length + m) + j by omega]
      have d0 : wr.cell? ⟨b, (ps.length + m) * 6, none⟩ = some (.int .i64 q) := cc 0 _ (by omega) rfl
      have d1 : wr.cell? ⟨b, (ps.length + m) * 6 + 1, none⟩ = some (.int .u64 0) := cc 1 _ (by omega) rfl
      have d2 : wr.cell? ⟨b, (ps.length + m) * 6 + 2, none⟩ = some (.int .u64 0) := cc 2 _ (by omega) rfl
      have d3 : wr.cell? ⟨b, (ps.length + m) * 6 + 3, none⟩ = some (.int .u64 0) := cc 3 _ (by omega) rfl
      have d4 : wr.cell? ⟨b, (ps.length + m) * 6 + 4, none⟩ = some (.int .u64 0) := cc 4 _ (by omega) rfl
      have d5 : wr.cell? ⟨b, (ps.length + m) * 6 + 5, none⟩ = some (.slice none 0 0) := cc 5 _ (by omega) rfl
      have HS2 := Lib.hid (HS.out.up ((Below.refl _ _).alloc (Nat.le_refl _) (.cells (nodeC q u0 (.slice none 0 0)) 68)))
      unfold nodeC u0 at HS2
      clear cc hq hq2 HS
      go_wp2_with fail
      go_roundw
      case rel => exact ⟨m + 1, by omega, by go_num, HS2⟩
      case measure => simp [intOf]; omega
    · obtain rfl : m = 3 := by omega
      rw [show (((3 : Nat)) : Int) = (3 : Int) from rfl]
      go_wp2_with fail
      go_loopw [8] (fun i wr => ∃ j : Nat, j ≤ ps.length ∧ i = .int .i64 (j : Nat) ∧ Hid (Sb w wr [(w.heap.size + 1, .cells #[.int .i64 k, .int .u64 (u 0), .int .u64 (u 1), .int .u64 (u 2), .int .u64 (u 3), .slice p' ps.length c'] 68), (w.heap.size, .cells #[.int .i64 k, .int .u64 (u 0), .int .u64 (u 1), .int .u64 (u 2), .int .u64 (u 3), .slice (some ⟨b, 0, none⟩) ps.length c] 68)])) (fun i _ => ps.length - (intOf i).toNat)
      case atStart => exact ⟨0, by omega, rfl, HS⟩
      clear HS q5 hlt
      case round =>
        obtain ⟨j, hj, rfl, HS⟩ := hrel
        have q6 : wr.cell? ⟨w.heap.size + 1, 5, none⟩ = some (.slice p' ps.length c') := HS.out.cell 5
        by_cases hlt : j < ps.length
        · have hlt3 : (j : Int) < ((ps.length : Nat) : Int) := by omega
          have hne : ps ≠ [] := by intro e; subst e; simp at hlt
          obtain ⟨b', o', rfl, hEb, hx'⟩ := HP'.out hne
          obtain ⟨k2, u2, p2, n2, c2, hv', hcell'⟩ := hx' j hlt
          have hv := HX.out j hlt
          obtain ⟨k1, u1, p1, n1, c1, hf⟩ := hv.form
          have hXj : X j = nodeC k1 u1 (.slice p1 n1 c1) := by injection hf
          rw [hXj] at hv
          have hbw' := hE b' hEb
          have cc : ∀ i y, i < 6 → (nodeC k1 u1 (.slice p1 n1 c1))[i]? = some y → wr.cell? ⟨b, j * 6 + i, none⟩ = some y := fun i y hi hy => by
            obtain ⟨z, h1, h2⟩ := HC.out j hlt i hi
            rw [hXj, hy] at h1
            cases h1
            rw [HS.out.1.cell (p := ⟨b, j * 6 + i, none⟩) hbl, ← h2, show j * 6 + i = 6 * j + i by omega]
          have cc' : ∀ i y, (nodeC k2 u2 (.slice p2 n2 c2))[i]? = some y → wr.cell? ⟨b', o' + j * 6 + i, none⟩ = some y := fun i y hy => by
            rw [HS.out.1.cell (p := ⟨b', o' + j * 6 + i, none⟩) hbw', ← hcell' i y hy, show o' + j * 6 + i = o' + (6 * j + i) by omega]
          have a5 : wr.cell? ⟨w.heap.size, 5, none⟩ = some (.slice (some ⟨b, 0, none⟩) ps.length c) := HS.out.tl.cell 5
          have d0 : wr.cell? ⟨b, j * 6, none⟩ = some (.int .i64 k1) := cc 0 _ (by omega) rfl
          have d1 : wr.cell? ⟨b, j * 6 + 1, none⟩ = some (.int .u64 (u1 0)) := cc 1 _ (by omega) rfl
          have d2 : wr.cell? ⟨b, j * 6 + 2, none⟩ = some (.int .u64 (u1 1)) := cc 2 _ (by omega) rfl
          have d3 : wr.cell? ⟨b, j * 6 + 3, none⟩ = some (.int .u64 (u1 2)) := cc 3 _ (by omega) rfl
          have d4 : wr.cell? ⟨b, j * 6 + 4, none⟩ = some (.int .u64 (u1 3)) := cc 4 _ (by omega) rfl
          have d5 : wr.cell? ⟨b, j * 6 + 5, none⟩ = some (.slice p1 n1 c1) := cc 5 _ (by omega) rfl
          have e0 : wr.cell? ⟨b', o' + j * 6, none⟩ = some (.int .i64 k2) := cc' 0 _ rfl
          have e1 : wr.cell? ⟨b', o' + j * 6 + 1, none⟩ = some (.int .u64 (u2 0)) := cc' 1 _ rfl
          have e2 : wr.cell? ⟨b', o' + j * 6 + 2, none⟩ = some (.int .u64 (u2 1)) := cc' 2 _ rfl
          have e3 : wr.cell? ⟨b', o' + j * 6 + 3, none⟩ = some (.int .u64 (u2 2)) := cc' 3 _ rfl
          have e4 : wr.cell? ⟨b', o' + j * 6 + 4, none⟩ = some (.int .u64 (u2 3)) := cc' 4 _ rfl
          have e5 : wr.cell? ⟨b', o' + j * 6 + 5, none⟩ = some (.slice p2 n2 c2) := cc' 5 _ rfl
          have z1 : w.heap.size < wr.heap.size := HS.out.tl.lt
          have z2 : w.heap.size + 1 < wr.heap.size := HS.out.lt
          have z3 : b < wr.heap.size := Nat.lt_of_lt_of_le hbl HS.out.1.size
          have z4 : b' < wr.heap.size := Nat.lt_of_lt_of_le hbw' HS.out.1.size
          have HK : Hid (∀ z, Below wr.heap.size wr z → Calls Try.prog 65 #[.agg (nodeC k1 u1 (.slice p1 n1 c1)), .agg (nodeC k2 u2 (.slice p2 n2 c2))] z fun e w' => e = .returned (.bool true) ∧ Below z.heap.size z w') := Lib.hid fun z hb => by
            have hk : ∀ x, x < w.heap.size → z.heap[x]? = w.heap[x]? := fun x hx => (hb.block x (Nat.lt_of_lt_of_le hx HS.out.1.size)).trans (HS.out.1.block x hx)
            have hsz := Nat.le_trans HS.out.1.size hb.size
            exact hI.out j hlt _ _ z (TW.mono (fun b h => h) (fun x hx _ => hk x (hD x hx)) hv) (RV.mono (fun b h => h) (fun x hx _ => hk x (hE x hx)) hv') (fun x hx => Nat.lt_of_lt_of_le (hD x hx) hsz) (fun x hx => Nat.lt_of_lt_of_le (hE x hx) hsz)
          unfold nodeC at HK
          clear cc cc' hv hv' hf hXj hcell' hx'
          go_upto_region 13 with fail
          go_region_held3 (fun w' => w'.cell? ⟨w.heap.size, 5, none⟩ = some (.slice (some ⟨b, 0, none⟩) ps.length c) ∧ w'.cell? ⟨w.heap.size + 1, 5, none⟩ = some (.slice (some ⟨b', o', none⟩) ps.length c') ∧ w'.cell? ⟨b, j * 6, none⟩ = some (.int .i64 k1) ∧ w'.cell? ⟨b, j * 6 + 1, none⟩ = some (.int .u64 (u1 0)) ∧ w'.cell? ⟨b, j * 6 + 2, none⟩ = some (.int .u64 (u1 1)) ∧ w'.cell? ⟨b, j * 6 + 3, none⟩ = some (.int .u64 (u1 2)) ∧ w'.cell? ⟨b, j * 6 + 4, none⟩ = some (.int .u64 (u1 3)) ∧ w'.cell? ⟨b, j * 6 + 5, none⟩ = some (.slice p1 n1 c1) ∧ w'.cell? ⟨b', o' + j * 6, none⟩ = some (.int .i64 k2) ∧ w'.cell? ⟨b', o' + j * 6 + 1, none⟩ = some (.int .u64 (u2 0)) ∧ w'.cell? ⟨b', o' + j * 6 + 2, none⟩ = some (.int .u64 (u2 1)) ∧ w'.cell? ⟨b', o' + j * 6 + 3, none⟩ = some (.int .u64 (u2 2)) ∧ w'.cell? ⟨b', o' + j * 6 + 4, none⟩ = some (.int .u64 (u2 3)) ∧ w'.cell? ⟨b', o' + j * 6 + 5, none⟩ = some (.slice p2 n2 c2) ∧ w.heap.size < w'.heap.size ∧ w.heap.size + 1 < w'.heap.size ∧ b < w'.heap.size ∧ b' < w'.heap.size ∧ Below wr.heap.size wr w')
            (first | assumption | exact ⟨a5, q6, d0, d1, d2, d3, d4, d5, e0, e1, e2, e3, e4, e5, z1, z2, z3, z4, below_drewN (Below.refl _ _) 1⟩ | exact keepT (by assumption) hb)
            (first | (go_at_call 65; refine (HK.out _ (keepT_k (by assumption))).mono ?_; rintro _ wq ⟨rfl, hb⟩))
          all_goals
            rename_i hHeld
            have HS2 := Lib.hid (HS.out.up (keepT_k hHeld))
            clear hHeld hb HK HS a5 q6 d0 d1 d2 d3 d4 d5 e0 e1 e2 e3 e4 e5 z1 z2 z3 z4
            go_wp2_with fail
            go_roundw
            case rel => exact ⟨j + 1, by omega, by go_num, HS2⟩
            case measure => simp [intOf]; omega
        · obtain rfl : j = ps.length := by omega
          have hlt3 : ¬ ((ps.length : Nat) : Int) < ((ps.length : Nat) : Int) := by omega
          go_wp2_with fail
          go_ret
          exact ⟨rfl, HS.out.1⟩
theorem twin_any {D : Nat → Prop} : ∀ (n : Nat) (t : RT) {v : Value} {w : World}, dep t ≤ n → wid t ≤ 1000000 → (∀ b, D b → b < w.heap.size) → RV D w t v → Calls Try.prog 60 #[v] w (TwP t w)
  | 0, .mk k u ps, v, w, hn, _, _, _ => by simp [dep] at hn
  | n + 1, .mk k u ps, v, w, hn, hw, hD, h => by
    have h1 : depL ps ≤ n := by simp only [dep] at hn; omega
    obtain ⟨hl, hw2⟩ := wid_mk hw
    exact twin_walk hD hl h (Lib.hid fun i hi v1 w1 h1' hD1 => twin_any n ps[i] (by have := depL_get ps i hi; omega) (hw2 i hi) hD1 h1')
theorem left_any {D E : Nat → Prop} : ∀ (n : Nat) (t : RT) {v v' : Value} {w : World}, dep t ≤ n → wid t ≤ 1000000 → (∀ b, D b → b < w.heap.size) → (∀ b, E b → b < w.heap.size) → TW D w t v → RV E w t v' → Calls Try.prog 65 #[v, v'] w fun e w' => e = .returned (.bool true) ∧ Below w.heap.size w w'
  | 0, .mk k u ps, v, v', w, hn, _, _, _, _, _ => by simp [dep] at hn
  | n + 1, .mk k u ps, v, v', w, hn, hw, hD, hE, h, g => by
    have h1 : depL ps ≤ n := by simp only [dep] at hn; omega
    obtain ⟨hl, hw2⟩ := wid_mk hw
    exact left_walk hD hE hl h g (Lib.hid fun i hi v1 v2 w1 h1' g1 hD1 hE1 => left_any n ps[i] (by have := depL_get ps i hi; omega) (hw2 i hi) hD1 hE1 h1' g1)
def flat7 (xs : List (Array Value)) : List Value := xs.flatMap Array.toList
theorem flat7_get : ∀ (xs : List (Array Value)), (∀ x ∈ xs, x.size = 7) → ∀ i (h : i < xs.length) j, j < 7 → (flat7 xs)[7 * i + j]? = (xs[i])[j]?
  | [], _, i, h, j, hj => by simp at h
  | x :: xs, h, 0, hi, j, hj => by
    have h2 := h x (List.mem_cons_self ..)
    show (x.toList ++ flat7 xs)[7 * 0 + j]? = _
    rw [List.getElem?_append_left (by simp [h2]; omega)]
    simp
  | x :: xs, h, i + 1, hi, j, hj => by
    have h1 := flat7_get xs (fun y hy => h y (List.mem_cons_of_mem _ hy)) i (by simpa using hi) j hj
    have h2 := h x (List.mem_cons_self ..)
    show (x.toList ++ flat7 xs)[7 * (i + 1) + j]? = _
    rw [List.getElem?_append_right (by simp [h2]; omega), Array.length_toList, h2, show 7 * (i + 1) + j - 7 = 7 * i + j by omega, h1]
    simp
theorem flat7_app (xs : List (Array Value)) (x : Array Value) : flat7 (xs ++ [x]) = flat7 xs ++ x.toList := by simp [flat7]
/-- The elements ps lie in the row of the slice sl. -/
def ThH (base : Nat) (ps : List EP) (sl : Value) (w : World) : Prop :=
  (∀ p ∈ ps, EMono p) ∧ ∃ xs : List (Array Value), xs.length = ps.length ∧ (∀ x ∈ xs, x.size = 7) ∧ (∀ i (h : i < ps.length) (h' : i < xs.length), ps[i] (fun b => base ≤ b ∧ b < w.heap.size ∧ some b ≠ sl.ownBlock) w xs[i]) ∧ w.ownsRow base 70 7 sl ps.length (flat7 xs)
theorem ThH.nil (base : Nat) (w : World) : ThH base [] (.slice none 0 0) w := ⟨by simp, [], rfl, by simp, by simp, rfl, .inl ⟨rfl, rfl⟩⟩
theorem ThH.up {base : Nat} {ps : List EP} {sl : Value} {w w' : World} (h : ThH base ps sl w) (hb : Below w.heap.size w w') : ThH base ps sl w' := by
  obtain ⟨h0, xs, h1, h2, h3, h4⟩ := h
  refine ⟨h0, xs, h1, h2, fun i hi hi' => h0 _ (List.getElem_mem hi) (fun b hb' => ⟨hb'.1, Nat.lt_of_lt_of_le hb'.2.1 hb.size, hb'.2.2⟩) (fun b _ hlt => hb.block b hlt) (h3 i hi hi'), h4.1, ?_⟩
  rcases h4.2 with hn | ⟨g, cap, cur, hv, hg, hh, rest⟩
  · exact .inl hn
  · exact .inr ⟨g, cap, cur, hv, hg, (hb.block g (Array.getElem?_eq_some_iff.1 hh).1).trans hh, rest⟩
theorem ThH.app {base lo : Nat} {ps : List EP} {sl sl' : Value} {w w1 w2 : World} {p : EP} {x : Array Value} {xs : List (Array Value)} {o : Obj} (h0 : ∀ p ∈ ps, EMono p) (hp : EMono p) (hx7 : x.size = 7)
    (h1 : xs.length = ps.length) (h2 : ∀ x ∈ xs, x.size = 7) (h3 : ∀ i (h : i < ps.length) (h' : i < xs.length), ps[i] (fun b => base ≤ b ∧ b < w.heap.size ∧ some b ≠ sl.ownBlock) w xs[i])
    (hw1 : w1 = w.alloc o) (hbl : base ≤ lo) (hlo : ∀ g, sl.ownBlock = some g → g < lo) (ht : p (fun b => lo ≤ b ∧ b < w.heap.size) w x)
    (hown : w2.ownsRow base 70 7 sl' (ps.length + 1) (flat7 xs ++ x.toList)) (hg : w1.grownBy w2 sl.ownBlock) (hat : sl'.ownBlock = sl.ownBlock ∨ sl'.ownBlock = some w1.heap.size) : ThH base (ps ++ [p]) sl' w2 := by
  have hsz : w1.heap.size = w.heap.size + 1 := by subst hw1; simp
  have hkeep : ∀ b, b < w.heap.size → some b ≠ sl.ownBlock → w2.heap[b]? = w.heap[b]? := fun b hb hne => by
    rw [hg.block b (by omega) (fun e => hne e), hw1, heap_alloc_old w _ hb]
  have hD : ∀ b, b < w.heap.size → some b ≠ sl.ownBlock → some b ≠ sl'.ownBlock := fun b hb hne e => by
    rcases hat with h | h
    · rw [h] at e; exact hne e
    · rw [h] at e; cases e; omega
  refine ⟨fun q hq => ?_, xs ++ [x], by simp [h1], fun y hy => ?_, fun i hi hi' => ?_, by rw [flat7_app]; simpa using hown⟩
  · rcases List.mem_append.1 hq with hq | hq
    · exact h0 q hq
    · rw [List.mem_singleton.1 hq]; exact hp
  · rcases List.mem_append.1 hy with hy | hy
    · exact h2 y hy
    · simp at hy; subst hy; exact hx7
  · by_cases hlt : i < ps.length
    · rw [List.getElem_append_left hlt, List.getElem_append_left (by omega)]
      exact h0 _ (List.getElem_mem hlt) (fun b hb => ⟨hb.1, by have := hg.size; omega, hD b hb.2.1 hb.2.2⟩) (fun b hb hlt => hkeep b hlt hb.2.2) (h3 i hlt (by omega))
    · have hi2 : i = ps.length := by simp at hi; omega
      subst hi2
      have e1 : (ps ++ [p])[ps.length]'hi = p := by simp
      have e2 : (xs ++ [x])[ps.length]'hi' = x := by
        rw [List.getElem_append_right (by omega)]; simp [h1]
      rw [e1, e2]
      have hno : ∀ b, lo ≤ b → some b ≠ sl.ownBlock := fun b hb e => by have := hlo b e.symm; omega
      exact hp (fun b hb => ⟨by omega, by have := hg.size; omega, hD b hb.2 (hno b hb.1)⟩) (fun b hb hlt => hkeep b hlt (hno b hb.1)) ht
theorem ThH.slice {base : Nat} {ps : List EP} {sl : Value} {w : World} (h : ThH base ps sl w) : ∃ p c, sl = .slice p ps.length c := by
  obtain ⟨_, xs, h1, h2, h3, h4⟩ := h
  rcases h4.2 with ⟨hv, hn⟩ | ⟨g, cap, cur, hv, _⟩
  · exact ⟨none, 0, by rw [hv, hn]⟩
  · exact ⟨_, _, hv⟩
theorem ThH.own {base : Nat} {ps : List EP} {sl : Value} {w : World} (h : ThH base ps sl w) : ∀ g, sl.ownBlock = some g → base ≤ g ∧ g < w.heap.size := by
  obtain ⟨_, xs, h1, h2, h3, h4⟩ := h
  intro g hg
  rcases h4.2 with ⟨hv, hn⟩ | ⟨g', cap, cur, hv, hb, hh, _⟩
  · rw [hv] at hg; simp [Value.ownBlock] at hg
  · rw [hv] at hg
    have : g' = g := by simpa [Value.ownBlock] using hg
    subst this
    exact ⟨hb, (Array.getElem?_eq_some_iff.1 hh).1⟩
/-- The row's cells, and its elements. -/
theorem ThH.row {base : Nat} {ps : List EP} {sl : Value} {w : World} (h : ThH base ps sl w) (hn : ps ≠ []) : ∃ (g cap : Nat) (X : Nat → Array Value), sl = .slice (some ⟨g, 0, none⟩) ps.length cap ∧ base ≤ g ∧ g < w.heap.size ∧ ps.length ≤ cap ∧
    ∀ i (hi : i < ps.length), ps[i] (fun b => base ≤ b ∧ b < w.heap.size) w (X i) ∧ (X i).size = 7 ∧ ∀ j, j < 7 → ∃ y, (X i)[j]? = some y ∧ w.cell? ⟨g, 7 * i + j, none⟩ = some y := by
  obtain ⟨h0, xs, h1, h2, h3, h4⟩ := h
  have hown := h4
  rcases h4.2 with ⟨_, h00⟩ | ⟨g, cap, cur, rfl, hb, hg, hcap, _⟩
  · exact absurd (List.length_eq_zero_iff.1 h00) hn
  · have hgs := (Array.getElem?_eq_some_iff.1 hg).1
    refine ⟨g, cap, fun i => xs.getD i #[], rfl, hb, hgs, hcap, fun i hi => ?_⟩
    have hi' : i < xs.length := by omega
    have e : xs.getD i #[] = xs[i] := by simp [List.getD, hi']
    show ps[i] _ w (xs.getD i #[]) ∧ (xs.getD i #[]).size = 7 ∧ ∀ j, j < 7 → ∃ y, (xs.getD i #[])[j]? = some y ∧ w.cell? ⟨g, 7 * i + j, none⟩ = some y
    rw [e]
    have h6 := h2 xs[i] (List.getElem_mem hi')
    refine ⟨h0 _ (List.getElem_mem hi) (fun b hb => ⟨hb.1, hb.2.1⟩) (fun b hb hlt => rfl) (h3 i hi hi'), h6, fun j hj => ?_⟩
    have hf := flat7_get xs h2 i hi' j hj
    have hj' : j < (xs[i]).size := by omega
    rw [Array.getElem?_eq_getElem hj'] at hf
    refine ⟨(xs[i])[j], Array.getElem?_eq_getElem hj', ?_⟩
    have := World.ownsRow.cells hown rfl _ _ hf
    rw [Addr.add_mid, Nat.zero_add] at this; exact this
def rcel (kd k : Int) (u : Nat → Int) (sl : Value) : Array Value := #[.int .i64 kd, .int .i64 k, .int .u64 (u 0), .int .u64 (u 1), .int .u64 (u 2), .int .u64 (u 3), sl]
def rtwE (kd : Int) (t : RT) : EP := fun D w x => ∃ (k : Int) (u : Nat → Int) (p : Option Addr) (n c : Nat), x = rcel kd k u (.slice p n c) ∧ TW D w t (.agg (nodeC k u (.slice p n c)))
def rmkE (i : Nat) : EP := fun _ _ x => x = rcel (-7000 - i) 0 u0 (.slice none 0 0)
theorem rtwE_mono (kd : Int) (t : RT) : EMono (rtwE kd t) := fun hE hw h => by
  obtain ⟨k, u, p, n, c, h1, h2⟩ := h
  exact ⟨k, u, p, n, c, h1, TW.mono hE hw h2⟩
theorem rmkE_mono (i : Nat) : EMono (rmkE i) := fun _ _ h => h
def dfT : RT := .mk 0 u0 []
def epL (kds : Nat → Int) (ts : List RT) (j : Nat) : List EP := (List.range j).map fun i => rtwE (kds i) (ts.getD i dfT)
theorem epL_len (kds : Nat → Int) (ts : List RT) (j : Nat) : (epL kds ts j).length = j := by simp [epL]
theorem epL_succ (kds : Nat → Int) {ts : List RT} {j : Nat} (h : j < ts.length) : epL kds ts (j + 1) = epL kds ts j ++ [rtwE (kds j) ts[j]] := by
  unfold epL
  rw [List.range_succ, List.map_append]
  simp [List.getD, h]
/-- A twin of rules. -/
structure TRul (D : Nat → Prop) (w : World) (ts : List RT) (kds : Nat → Int) (g cap : Nat) : Prop where
  cap : ts.length + 3 ≤ cap
  hD : D g
  lt : g < w.heap.size
  el : ∀ i (h : i < ts.length), ∃ (k : Int) (u : Nat → Int) (p : Option Addr) (n c : Nat), TW D w ts[i] (.agg (nodeC k u (.slice p n c))) ∧ ∀ j y, (rcel (kds i) k u (.slice p n c))[j]? = some y → w.cell? ⟨g, i * 7 + j, none⟩ = some y
  mks : ∀ i, i < 3 → w.cell? ⟨g, (ts.length + i) * 7, none⟩ = some (.int .i64 (-7000 - i))
theorem TRul.mono {D E : Nat → Prop} {w w' : World} {ts : List RT} {kds : Nat → Int} {g cap : Nat} (hE : ∀ b, D b → E b) (hw : ∀ b, D b → b < w.heap.size → w'.heap[b]? = w.heap[b]?) (h : TRul D w ts kds g cap) : TRul E w' ts kds g cap := by
  have hk : ∀ o y, w.cell? ⟨g, o, none⟩ = some y → w'.cell? ⟨g, o, none⟩ = some y := fun o y h' => by
    rw [← h']; exact cell_same (hw g h.hD h.lt) _
  have hl : g < w'.heap.size := World.block_lt_of_cell? w' _ (hk _ _ (h.mks 0 (by omega)))
  exact ⟨h.cap, hE g h.hD, hl, fun i hi => by
    obtain ⟨k, u, p, n, c, h1, h2⟩ := h.el i hi
    exact ⟨k, u, p, n, c, h1.mono hE hw, fun j y hy => hk _ _ (h2 j y hy)⟩, fun i hi => hk _ _ (h.mks i hi)⟩
theorem TRul.ruv {D : Nat → Prop} {w : World} {ts : List RT} {kds : Nat → Int} {g cap : Nat} (h : TRul D w ts kds g cap) : RuV D w ts (.slice (some ⟨g, 0, none⟩) ts.length cap) :=
  ⟨_, _, rfl, fun _ => ⟨g, 0, rfl, h.hD, fun i hi => by
    obtain ⟨k, u, p, n, c, h1, h2⟩ := h.el i hi
    exact ⟨kds i, k, u, p, n, c, h1.rv, fun j y hy => by
      have := h2 j y hy
      rw [show 0 + i * 7 + j = i * 7 + j by omega]; exact this⟩⟩⟩
theorem ThH.twins {base : Nat} {ts : List RT} {kds : Nat → Int} {sl : Value} {w : World} (h : ThH base (epL kds ts ts.length ++ [rmkE 0, rmkE 1, rmkE 2]) sl w) : ∃ g cap, sl = .slice (some ⟨g, 0, none⟩) (ts.length + 3) cap ∧ TRul (fun b => base ≤ b ∧ b < w.heap.size) w ts kds g cap := by
  obtain ⟨g, cap, X, hs, hb, hg, hcap, hX⟩ := h.row (by simp)
  have hl : (epL kds ts ts.length ++ [rmkE 0, rmkE 1, rmkE 2]).length = ts.length + 3 := by simp [epL_len]
  rw [hl] at hs hcap
  refine ⟨g, cap, hs, hcap, ⟨hb, hg⟩, hg, fun i hi => ?_, fun i hi => ?_⟩
  · have h1 := hX i (by omega)
    have e : (epL kds ts ts.length ++ [rmkE 0, rmkE 1, rmkE 2])[i]'(by omega) = rtwE (kds i) ts[i] := by
      rw [List.getElem_append_left (by rw [epL_len]; exact hi)]
      simp [epL, List.getD, hi]
    rw [e] at h1
    obtain ⟨⟨k, u, p, n, c, hx, ht⟩, h7, hc⟩ := h1
    refine ⟨k, u, p, n, c, ht, fun j y hy => ?_⟩
    have hj : j < 7 := (Array.getElem?_eq_some_iff.1 hy).1
    obtain ⟨z, h2, h3⟩ := hc j hj
    rw [hx, hy] at h2
    cases h2
    rw [← h3, show i * 7 + j = 7 * i + j by omega]
  · have h1 := hX (ts.length + i) (by omega)
    have e : (epL kds ts ts.length ++ [rmkE 0, rmkE 1, rmkE 2])[ts.length + i]'(by omega) = rmkE i := by
      rw [List.getElem_append_right (by rw [epL_len]; omega)]
      simp only [epL_len]
      rcases (by omega : i = 0 ∨ i = 1 ∨ i = 2) with rfl | rfl | rfl <;> simp
    rw [e] at h1
    obtain ⟨hx, h7, hc⟩ := h1
    obtain ⟨z, h2, h3⟩ := hc 0 (by omega)
    rw [show X (ts.length + i) = rcel (-7000 - i) 0 u0 (.slice none 0 0) from hx] at h2
    have e3 : z = .int .i64 (-7000 - i) := by simpa [rcel] using h2.symm
    rw [← e3, ← h3, show (ts.length + i) * 7 = 7 * (ts.length + i) + 0 by omega]
/-- A rule's kind, as it lies. -/
def kdO (q : Option Addr) (w : World) (j : Nat) : Int := match q with
  | some a => match w.cell? ⟨a.block, a.off + j * 7, none⟩ with
    | some (.int _ k) => k
    | _ => 0
  | none => 0
theorem rule_cellsK {D : Nat → Prop} {w z : World} {ts : List RT} {q : Option Addr} {f j : Nat} (hD : ∀ b, D b → b < w.heap.size) (h : RuV D w ts (.slice q ts.length f)) (hb : Below w.heap.size w z) (hj : j < ts.length) : ∃ b o, q = some ⟨b, o, none⟩ ∧ D b ∧ ∃ (k : Int) (u : Nat → Int) (p : Option Addr) (n c : Nat), RV D z ts[j] (.agg #[.int .i64 k, .int .u64 (u 0), .int .u64 (u 1), .int .u64 (u 2), .int .u64 (u 3), .slice p n c]) ∧
    z.cell? ⟨b, o + j * 7, none⟩ = some (.int .i64 (kdO q w j)) ∧ z.cell? ⟨b, o + j * 7 + 1, none⟩ = some (.int .i64 k) ∧ z.cell? ⟨b, o + j * 7 + 2, none⟩ = some (.int .u64 (u 0)) ∧ z.cell? ⟨b, o + j * 7 + 3, none⟩ = some (.int .u64 (u 1)) ∧ z.cell? ⟨b, o + j * 7 + 4, none⟩ = some (.int .u64 (u 2)) ∧ z.cell? ⟨b, o + j * 7 + 5, none⟩ = some (.int .u64 (u 3)) ∧ z.cell? ⟨b, o + j * 7 + 6, none⟩ = some (.slice p n c) := by
  obtain ⟨b, o, rfl, hDb, kd, k, u, p, n, c, hv, d0, d1, d2, d3, d4, d5, d6⟩ := rule_cells h hj
  have hk : kdO (some ⟨b, o, none⟩) w j = kd := by unfold kdO; simp only [d0]
  have hc : ∀ i, z.cell? ⟨b, i, none⟩ = w.cell? ⟨b, i, none⟩ := fun i => cell_same (hb.block b (hD b hDb)) _
  exact ⟨b, o, rfl, hDb, k, u, p, n, c, hv.mono (fun b h => h) (fun b h _ => hb.block b (hD b h)), by rw [hc, hk]; exact d0, by rw [hc]; exact d1, by rw [hc]; exact d2, by rw [hc]; exact d3, by rw [hc]; exact d4, by rw [hc]; exact d5, by rw [hc]; exact d6⟩
theorem info58b : (Try.prog.info? 70).map (fun i => (i.zero, i.size, i.bytes)) = some (some (.agg #[.int .i64 0, .int .i64 0, .int .u64 0, .int .u64 0, .int .u64 0, .int .u64 0, .slice none 0 0]), 7, 72) := by kernel_rfl
theorem rcel_one (kd k : Int) (u : Nat → Int) (p : Option Addr) (n c : Nat) : ∀ y ∈ (rcel kd k u (.slice p n c)).toList, y.oneCell' = true := fun y hy => by
  simp [rcel] at hy
  rcases hy with rfl | rfl | rfl | rfl | rfl | rfl | rfl <;> rfl
set_option maxHeartbeats 16000000 in
theorem twinrules_any {D : Nat → Prop} {w : World} {ts : List RT} {q : Option Addr} {f : Nat} (hD : ∀ b, D b → b < w.heap.size) (hR : RuV D w ts (.slice q ts.length f)) (hln : ts.length ≤ 1000000) (hwid : ∀ t ∈ ts, wid t ≤ 1000000) :
    Calls Try.prog 33 #[.slice q ts.length f] w fun e w' => (∃ g cap, e = .returned (.slice (some ⟨g, 0, none⟩) ts.length cap) ∧ TRul (fun b => w.heap.size ≤ b ∧ b < w'.heap.size) w' ts (kdO q w) g cap) ∧ Below w.heap.size w w' := by
  obtain ⟨i0, hi, hz0, hz1, hz2⟩ := info_parts info58b
  have HR := Lib.hid fun z (hb : Below w.heap.size w z) j (hj : j < ts.length) => rule_cellsK hD hR hb hj
  have HD := Lib.hid fun z (hb : Below w.heap.size w z) b (h : D b) => Nat.lt_of_lt_of_le (hD b h) hb.size
  have HWID := Lib.hid hwid
  have hz := zero27l
  have hz58 := zero58
  have S0 := Lib.hid (Below.refl w.heap.size w)
  obtain ⟨kds, hkds⟩ : ∃ kds, kdO q w = kds := ⟨_, rfl⟩
  rw [hkds] at HR ⊢
  have HT0 : Hid (ThH w.heap.size (epL kds ts 0) (.slice none 0 0) w) := Lib.hid (ThH.nil _ _)
  clear hR hD hwid hkds
  go_enter Try.func33, Try.ntmps33
  go_wp2_with fail
  go_loopw [3, 4] (fun sl i wr => ∃ j : Nat, i = .int .i64 (j : Nat) ∧ j ≤ ts.length ∧ Hid (ThH w.heap.size (epL kds ts j) sl wr) ∧ Hid (Below w.heap.size w wr)) (fun _ i _ => ts.length - (intOf i).toNat)
  case atStart => exact ⟨0, rfl, by omega, HT0, S0⟩
  case round =>
    clear S0 HT0
    obtain ⟨j, rfl, hj, HT, HS⟩ := hrel
    obtain ⟨wo, rfl⟩ : ∃ wo : World, wo = wr := ⟨_, rfl⟩
    obtain ⟨a, cc, hsl⟩ := HT.out.slice
    rw [epL_len] at hsl
    subst hsl
    by_cases hlt : j < ts.length
    · obtain ⟨b, o, rfl, hDb, k, u, p, n, c, hv, d0, d1, d2, d3, d4, d5, d6⟩ := HR.out wo HS.out j hlt
      have hmem := List.getElem_mem hlt
      have hblt := HD.out wo HS.out b hDb
      have hltI : (j : Int) < (ts.length : Int) := by omega
      have hjI : ¬ (j : Int) < 0 := by omega
      have HES := Lib.hid (epL_succ kds hlt)
      have HC := Lib.hid (twin_any (w := wo.drewN 1) (D := D) (dep ts[j]) ts[j] (Nat.le_refl _) (HWID.out _ hmem) (HD.out wo HS.out) (RV.mono (w := wo) (w' := wo.drewN 1) (fun b h => h) (fun b h _ => rfl) hv))
      have hbx := HS.out.size
      generalize hts : ts[j] = t at *
      have HTS := Lib.hid hts
      clear hv hmem hts
      go_upto_region 5 with fail
      go_region_law (first | (go_simp; go_at_call 60; refine HC.out.mono ?_; rintro _ y5 ⟨⟨v', rfl, ht⟩, hb5⟩; obtain ⟨k6, u6, p6, n6, c6, rfl⟩ := ht.form2; have hb6 : Below wo.heap.size wo y5 := (below_drewN (Below.refl wo.heap.size wo) 1).trans hb5; have e0 : y5.cell? ⟨b, o + j * 7, none⟩ = some (.int .i64 (kds j)) := (hb6.cell (p := ⟨b, o + j * 7, none⟩) hblt).trans d0; have hTT := HT.out.up hb6; have hown := hTT.own; obtain ⟨hm0, xs, x1, x2, x3, x4⟩ := hTT; rw [epL_len] at x4; have X4 := World.ownsRow.alloc x4 (.cells #[.int .i64 (kds j), .int .i64 k6, .int .u64 (u6 0), .int .u64 (u6 1), .int .u64 (u6 2), .int .u64 (u6 3), .slice p6 n6 c6] 70); have HC0 : ∀ jj y, (rcel (kds j) k6 u6 (.slice p6 n6 c6)).toList[jj]? = some y → (y5.alloc (.cells #[.int .i64 (kds j), .int .i64 k6, .int .u64 (u6 0), .int .u64 (u6 1), .int .u64 (u6 2), .int .u64 (u6 3), .slice p6 n6 c6] 70)).cell? ((⟨y5.heap.size, 0, none⟩ : Addr).add jj) = some y := (fun jj y hy => (by rw [Addr.add_mid, cell_of_row _ y5.heap.size (0 + jj) _ 70 (0, 0) (heap_alloc_last y5 _), Nat.zero_add]; rw [Array.getElem?_toList] at hy; exact hy)); have hsz5 : (y5.alloc (.cells #[.int .i64 (kds j), .int .i64 k6, .int .u64 (u6 0), .int .u64 (u6 1), .int .u64 (u6 2), .int .u64 (u6 3), .slice p6 n6 c6] 70)).heap.size = y5.heap.size + 1 := by simp) | (refine step_append_own rfl (.tmp 12) (.tmp 25) 52 rfl w.heap.size 70 i0 _ 7 72 Try.underlying52 hi hz0 hz1 hz2 rfl (by decide) (.slice a j cc) j (flat7 xs) (by simp [Act.eval, Act.put]) X4 ⟨y5.heap.size, 0, none⟩ 1 1 (rcel (kds j) k6 u6 (.slice p6 n6 c6)).toList (by simp [Act.eval, Act.put]) rfl HC0 (rcel_one _ _ _ _ _ _) (by unfold maxLen; omega) (by omega) (by have := hb6.size; omega) ?_; intro v' w7 hown7 hgrow7 _ hat7))
      all_goals
        simp only [Act.put, List.getElem_toArray, List.getElem_cons_zero, List.getElem_cons_succ, List.setIfInBounds_toArray, List.set_cons_zero, List.set_cons_succ]
        have HTA : Hid (ThH w.heap.size (epL kds ts (j + 1)) v' w7) := Lib.hid (by
          rw [HES.out]
          exact ThH.app (lo := wo.heap.size) (w := y5) (x := rcel (kds j) k6 u6 (.slice p6 n6 c6)) hm0 (rtwE_mono _ _) rfl x1 x2 x3 rfl hbx (fun g hg => by have := (HT.out.own g hg).2; omega) ⟨k6, u6, p6, n6, c6, rfl, ht⟩ (by rw [epL_len]; exact hown7) hgrow7 hat7)
        have HBA : Hid (Below w.heap.size w w7) := Lib.hid (below_grown6 ((HS.out.trans (hb6.mono HS.out.size)).alloc (by have := hb6.size; omega) _) hgrow7 (fun g hg => (World.ownsRow.lt X4 g hg).1) (by have := hb6.size; rw [hsz5]; omega))
        clear hown7 hgrow7 hat7 X4 HC0 x1 x2 x3 x4 hm0 hown ht hb5 hb6 e0 hsz5 HT HS HC HES d0 d1 d2 d3 d4 d5 d6
        go_wp2_with fail
        go_roundw
        case rel => exact ⟨j + 1, by go_num, by omega, HTA, HBA⟩
        case measure => simp [intOf]; omega
    · obtain rfl : j = ts.length := by omega
      have hltI : ¬ ((ts.length : Nat) : Int) < ((ts.length : Nat) : Int) := by omega
      go_wp2_with fail
      go_loopw [3, 5] (fun sl i wq => ∃ m : Nat, m ≤ 3 ∧ i = .int .i64 (m : Nat) ∧ Hid (ThH w.heap.size (epL kds ts ts.length ++ ([rmkE 0, rmkE 1, rmkE 2].take m)) sl wq) ∧ Hid (Below w.heap.size w wq)) (fun _ i _ => 3 - (intOf i).toNat)
      case atStart => exact ⟨0, by omega, rfl, by simpa using HT, HS⟩
      clear HT HS hltI hlt
      case round =>
        obtain ⟨m, hm, rfl, HT, HS⟩ := hrel
        obtain ⟨wo2, rfl⟩ : ∃ wo : World, wo = wr := ⟨_, rfl⟩
        obtain ⟨a, cc, hsl⟩ := HT.out.slice
        have hlm : (epL kds ts ts.length ++ ([rmkE 0, rmkE 1, rmkE 2].take m)).length = ts.length + m := by simp [epL_len]; omega
        rw [hlm] at hsl
        subst hsl
        by_cases hlt : m < 3
        · obtain ⟨q9, hq, hq2⟩ : ∃ q : Int, rcel (-7000 - (m : Int)) 0 u0 (.slice none 0 0) = rcel q 0 u0 (.slice none 0 0) ∧ q = -7000 - (m : Int) := ⟨_, rfl, rfl⟩
          have hlt3 : (m : Int) < 3 := by omega
          have hqw : IntKind.i64.wrap (-7000 - (m : Int)) = q9 := by rw [IntWalk.i64_in _ (by omega)]; exact hq2.symm
          have hown := HT.out.own
          obtain ⟨hm0, xs, x1, x2, x3, x4⟩ := HT.out
          rw [hlm] at x4
          have X1 := Lib.hid x1
          have X2 := Lib.hid x2
          have X3 := Lib.hid x3
          have X4 := Lib.hid (World.ownsRow.alloc x4 (.cells #[.int .i64 q9, .int .i64 0, .int .u64 0, .int .u64 0, .int .u64 0, .int .u64 0, .slice none 0 0] 70))
          have HC0 : Hid (∀ j u, (rcel q9 0 u0 (.slice none 0 0)).toList[j]? = some u → (wo2.alloc (.cells #[.int .i64 q9, .int .i64 0, .int .u64 0, .int .u64 0, .int .u64 0, .int .u64 0, .slice none 0 0] 70)).cell? ((⟨wo2.heap.size, 0, none⟩ : Addr).add j) = some u) := Lib.hid fun j u hj => by
            rw [Addr.add_mid, cell_of_row _ wo2.heap.size (0 + j) _ 70 (0, 0) (heap_alloc_last wo2 _), Nat.zero_add]
            rw [Array.getElem?_toList] at hj; exact hj
          have HM0 := Lib.hid hm0
          have HO := Lib.hid hown
          have HQ := Lib.hid hq
          have hwl := HS.out.size
          have HA : Hid (Below wo2.heap.size wo2 (wo2.alloc (.cells #[.int .i64 q9, .int .i64 0, .int .u64 0, .int .u64 0, .int .u64 0, .int .u64 0, .slice none 0 0] 70))) := Lib.hid ((Below.refl _ _).alloc (Nat.le_refl _) _)
          clear x1 x2 x3 x4 hm0 hown HT hq hq2
          go_wp2_with (at_builtin; refine wpList_append_own_at _ rfl (.tmp 31) (.tmp 35) 52 rfl w.heap.size 70 i0 _ 7 72 Try.underlying52 hi hz0 hz1 hz2 rfl (by decide) (.slice a (ts.length + m) cc) (ts.length + m) (flat7 xs) rfl ?c0 ⟨wo2.heap.size, 0, none⟩ 1 1 (rcel q9 0 u0 (.slice none 0 0)).toList rfl rfl ?c1 ?c2 ?c3 ?c4 ?c5 ?_)
          case c0 => exact X4.out
          case c1 => first | exact HC0.out | exact fun j u hu => by rw [← Array.getElem?_toList] at hu; exact hu
          case c2 => exact rcel_one _ _ _ _ _ _
          case c3 => unfold maxLen; omega
          case c4 => omega
          case c5 => first | exact Nat.le_trans hwl HA.out.size | exact Nat.le_trans hwl (Nat.le_succ _)
          intro v' w8 hown8 hgrow8 _ hat8
          have htk : epL kds ts ts.length ++ ([rmkE 0, rmkE 1, rmkE 2].take (m + 1)) = (epL kds ts ts.length ++ ([rmkE 0, rmkE 1, rmkE 2].take m)) ++ [rmkE m] := by
            rcases (by omega : m = 0 ∨ m = 1 ∨ m = 2) with rfl | rfl | rfl <;> simp
          have HTA : Hid (ThH w.heap.size (epL kds ts ts.length ++ ([rmkE 0, rmkE 1, rmkE 2].take (m + 1))) v' w8) := Lib.hid (by
            rw [htk]
            exact ThH.app (lo := wo2.heap.size) (w := wo2) (x := rcel q9 0 u0 (.slice none 0 0)) HM0.out (rmkE_mono m) rfl X1.out X2.out X3.out rfl hwl (fun g hg => (HO.out g hg).2) (show _ = rcel _ _ _ _ from HQ.out.symm) (by rw [hlm]; exact hown8) hgrow8 (by simpa using hat8))
          have HBA : Hid (Below w.heap.size w w8) := Lib.hid (below_grown6 (HS.out.trans (HA.out.mono hwl)) hgrow8 (fun g hg => (World.ownsRow.lt X4.out g hg).1) (Nat.le_trans hwl HA.out.size))
          clear hown8 hgrow8 hat8 htk X1 X2 X3 X4 HC0 HA HM0 HO HQ HS
          go_wp2_with fail
          go_roundw
          case rel => exact ⟨m + 1, by omega, by go_num, HTA, HBA⟩
          case measure => simp [intOf]; omega
        · obtain rfl : m = 3 := by omega
          obtain ⟨g, cap, hsl, htr⟩ := HT.out.twins
          have ha : a = some ⟨g, 0, none⟩ ∧ cc = cap := by simpa using hsl
          obtain ⟨rfl, rfl⟩ := ha
          have HW := Lib.hid htr
          have hcap := htr.cap
          have i1 : ((ts.length : Nat) : Int) ≤ (cc : Int) := by omega
          have i0' : (0 : Int) ≤ ((ts.length : Nat) : Int) := by omega
          clear htr hsl HT
          go_wp2_with fail
          go_ret
          exact ⟨⟨g, cc, rfl, HW.out⟩, HS.out⟩
end Go.Proofs.Ytbdbnjbafampaaa.R6
