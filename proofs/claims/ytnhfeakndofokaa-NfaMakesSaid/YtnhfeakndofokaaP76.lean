/- Package nfa. -/
import Derived.Test.YtnhfeakndofokaaProg
import Derived.Test.YtnhfeakndofokaaBg
import Derived.WalkKit
import Derived.WalkLawsBesides
import Derived.WalkSpells
import Derived.Outline
import Derived.Lib.Walk
import Derived.Lib.Hide
import Derived.Lib.Slices
import Derived.Lib.Strings
import Derived.RegionTactic
import Derived.LoopTactic
import Derived.Below
import Derived.IntWalk
import Derived.Deep.QuietTactic
import Derived.BigQuiet
import Derived.Deep.MidRow
import Derived.Maps.AppendAt
import Derived.Laws.Rows
import Derived.Laws.Tables
import Derived.Deep.WholeRow
import Derived.Deep.Cut
import Derived.Deep.CutRange
import Derived.Lib.SliceRun
import Derived.Laws.MakeOwn
import Derived.Deep.RegionLaw
import Derived.Deep.RegionLawGrows
import Derived.Deep.RegionHeld3
import Derived.RegionCalls
import Derived.Deep.RegionWith
import Derived.Deep.Light
namespace Go.Proofs.Ytnhfeakndofokaa
set_option linter.unusedSimpArgs false
set_option linter.unusedVariables false
set_option maxRecDepth 100000
open Go.RowKit

/- The document's deep and may. -/
set_option maxHeartbeats 8000000 in
theorem deep_walk {D : Nat → Prop} {k : Int} {u : Nat → Int} {ps : List RT} {v : Value} {w : World} (hD : ∀ b, D b → b < w.heap.size) (hl : ps.length ≤ 1000) (hdd : depL ps ≤ 1000) (h : RV D w (.mk k u ps) v)
    (hI : Hid (∀ i (hi : i < ps.length) v w, RV D w ps[i] v → (∀ b, D b → b < w.heap.size) → Calls Try.prog 49 #[v] w fun e w' => e = .returned (.int .i64 (dep ps[i] : Nat)) ∧ Below w.heap.size w w')) :
    Calls Try.prog 49 #[v] w fun e w' => e = .returned (.int .i64 ((depL ps + 1 : Nat) : Nat)) ∧ Below w.heap.size w w' := by
  obtain ⟨p, c, rfl, hp⟩ := h.parts
  have HP := Lib.hid hp
  clear h hp
  have S0 := Lib.hid ((Sb.start w).alloc (.cells #[.int .i64 k, .int .u64 (u 0), .int .u64 (u 1), .int .u64 (u 2), .int .u64 (u 3), .slice p ps.length c] 56))
  go_enter Try.func49, Try.ntmps49
  go_wp2
  go_loopw [3, 4] (fun m i wr => ∃ j : Nat, j ≤ ps.length ∧ i = .int .i64 j ∧ m = .int .i64 (depL (ps.take j) : Nat) ∧ Hid (Sb w wr [(w.heap.size, .cells #[.int .i64 k, .int .u64 (u 0), .int .u64 (u 1), .int .u64 (u 2), .int .u64 (u 3), .slice p ps.length c] 56)])) (fun _ i _ => ps.length - (intOf i).toNat)
  case atStart => exact ⟨0, by omega, rfl, rfl, S0⟩
  case round =>
    obtain ⟨j, hj, rfl, rfl, HS⟩ := hrel
    clear S0
    by_cases hlt : j < ps.length
    · skip
      have hne : ps ≠ [] := by intro e; subst e; simp at hlt
      obtain ⟨b, o, rfl, hDb, hx⟩ := HP.out hne
      obtain ⟨k', u', p', n', c', hv, hcell⟩ := hx j hlt
      have hbw := hD b hDb
      have hB := HS.out.1
      have HV := Lib.hid (RV.mono (w' := wr) (fun b h => h) (fun x hx hlt => hB.block x hlt) hv)
      have HD := Lib.hid fun x (hx : D x) => (Nat.lt_of_lt_of_le (hD x hx) hB.size : x < wr.heap.size)
      have cc : ∀ i y, (nodeC k' u' (.slice p' n' c'))[i]? = some y → wr.cell? ⟨b, o + j * 6 + i, none⟩ = some y := fun i y hy => by
        rw [hB.cell (p := ⟨b, o + j * 6 + i, none⟩) hbw, ← hcell i y hy, show o + j * 6 + i = o + (6 * j + i) by omega]
      have d0 : wr.cell? ⟨b, o + j * 6, none⟩ = some (.int .i64 k') := cc 0 _ rfl
      have d1 : wr.cell? ⟨b, o + j * 6 + 1, none⟩ = some (.int .u64 (u' 0)) := cc 1 _ rfl
      have d2 : wr.cell? ⟨b, o + j * 6 + 2, none⟩ = some (.int .u64 (u' 1)) := cc 2 _ rfl
      have d3 : wr.cell? ⟨b, o + j * 6 + 3, none⟩ = some (.int .u64 (u' 2)) := cc 3 _ rfl
      have d4 : wr.cell? ⟨b, o + j * 6 + 4, none⟩ = some (.int .u64 (u' 3)) := cc 4 _ rfl
      have d5 : wr.cell? ⟨b, o + j * 6 + 5, none⟩ = some (.slice p' n' c') := cc 5 _ rfl
      have q5 : wr.cell? ⟨w.heap.size, 5, none⟩ = some (.slice (some ⟨b, o, none⟩) ps.length c) := HS.out.cell 5
      have hlt' : (j : Int) < (ps.length : Int) := by omega
      have hIj := Lib.hid (hI.out j hlt)
      have HT := Lib.hid (depL_take ps j hlt)
      have hdj : dep ps[j] ≤ 1000 := by have := depL_get ps j hlt; omega
      generalize hd1 : dep ps[j] = d at *
      generalize hd2 : depL (ps.take j) = m at *
      clear hcell hv cc hx hd1 hd2 hB
      go_wp2_with fail
      refine (hIj.out _ _ HV.out HD.out).mono ?_
      rintro _ w5 ⟨rfl, hb⟩
      have H5 := Lib.hid (HS.out.up hb)
      clear hb
      by_cases hmd : m < d
      · have hmd2 : (m : Int) < (d : Int) := by omega
        go_wp2_with fail
        go_roundw
        case rel => exact ⟨j + 1, by omega, by go_num, by rw [HT.out]; exact vint5 (by omega), H5⟩
        case measure => simp [intOf]; omega
      · have hmd2 : ¬ (m : Int) < (d : Int) := by omega
        go_wp2_with fail
        go_roundw
        case rel => exact ⟨j + 1, by omega, by go_num, by rw [HT.out]; exact vint5 (by omega), H5⟩
        case measure => simp [intOf]; omega
    · obtain rfl : j = ps.length := by omega
      have hlt' : ¬ ((ps.length : Int) < (ps.length : Int)) := by omega
      have q5 : wr.cell? ⟨w.heap.size, 5, none⟩ = some (.slice p ps.length c) := HS.out.cell 5
      rw [List.take_length]
      go_wp2
      go_ret
      exact ⟨ret_int (by omega), HS.out.1⟩
theorem deep_any {D : Nat → Prop} : ∀ (n : Nat) (t : RT) {v : Value} {w : World}, dep t ≤ n → n ≤ 1000 → (∀ b, D b → b < w.heap.size) → wid t ≤ 1000 → RV D w t v → Calls Try.prog 49 #[v] w fun e w' => e = .returned (.int .i64 (dep t : Nat)) ∧ Below w.heap.size w w'
  | 0, .mk k u ps, v, w, hn, _, _, _, h => by simp [dep] at hn
  | n + 1, .mk k u ps, v, w, hn, hn2, hD, hw, h => by
    have h1 : depL ps ≤ n := by simp only [dep] at hn; omega
    obtain ⟨hl, hw2⟩ := wid_mk hw
    refine deep_walk hD hl (by omega) h (Lib.hid fun i hi v' w' hv hD' => ?_)
    exact deep_any n ps[i] (by have := depL_get ps i hi; omega) (by omega) hD' (hw2 i hi) hv
set_option maxHeartbeats 8000000 in
theorem mayr_A {D : Nat → Prop} {k : Int} {u : Nat → Int} {ps : List RT} {v : Value} {w : World} (hk : k ≠ 2) (hzu : zeroU u = false) (hD : ∀ b, D b → b < w.heap.size) (hl : ps.length ≤ 9223372036854775806) (h : RV D w (.mk k u ps) v)
    (hI : Hid (∀ i (hi : i < ps.length) v w, RV D w ps[i] v → (∀ b, D b → b < w.heap.size) → Calls Try.prog 50 #[v] w fun e w' => e = .returned (.bool (mayB ps[i])) ∧ Below w.heap.size w w')) :
    Calls Try.prog 50 #[v] w fun e w' => e = .returned (.bool false) ∧ Below w.heap.size w w' := by
  obtain ⟨p, c, rfl, hp⟩ := h.parts
  have HP := Lib.hid hp
  clear h hp
  have S0 := Lib.hid ((Sb.start w).alloc (.cells #[.int .i64 k, .int .u64 (u 0), .int .u64 (u 1), .int .u64 (u 2), .int .u64 (u 3), .slice p ps.length c] 56))
  have hnq := neq24g u
  have hk2 : (k != 2) = true := by rw [bne_iff_ne]; exact hk
  rw [hzu] at hnq
  clear hzu
  go_enter Try.func50, Try.ntmps50
  go_wp2_with fail
  go_ret
  exact ⟨rfl, S0.out.1⟩
set_option maxHeartbeats 8000000 in
theorem mayr_B {D : Nat → Prop} {k : Int} {u : Nat → Int} {ps : List RT} {v : Value} {w : World} (hk : (k = 0 ∧ zeroU u = true) ∨ (k = 1 ∧ zeroU u = true) ∨ k = 2) (hD : ∀ b, D b → b < w.heap.size) (hl : ps.length ≤ 9223372036854775806) (h : RV D w (.mk k u ps) v)
    (hI : Hid (∀ i (hi : i < ps.length) v w, RV D w ps[i] v → (∀ b, D b → b < w.heap.size) → Calls Try.prog 50 #[v] w fun e w' => e = .returned (.bool (mayB ps[i])) ∧ Below w.heap.size w w')) :
    Calls Try.prog 50 #[v] w fun e w' => e = .returned (.bool (decide (ps.length = 0))) ∧ Below w.heap.size w w' := by
  obtain ⟨p, c, rfl, hp⟩ := h.parts
  have HP := Lib.hid hp
  clear h hp
  have S0 := Lib.hid ((Sb.start w).alloc (.cells #[.int .i64 k, .int .u64 (u 0), .int .u64 (u 1), .int .u64 (u 2), .int .u64 (u 3), .slice p ps.length c] 56))
  have hnq := neq24g u
  have hE : (((ps.length : Nat) : Int) == 0) = decide (ps.length = 0) := by
    rw [Bool.eq_iff_iff]; simp
  rcases hk with ⟨rfl, hzu⟩ | ⟨rfl, hzu⟩ | rfl
  · rw [hzu] at hnq
    clear hzu
    go_enter Try.func50, Try.ntmps50
    go_wp2_with fail
    go_ret
    exact ⟨rb (by first | exact hE | simp), S0.out.1⟩
  · rw [hzu] at hnq
    clear hzu
    go_enter Try.func50, Try.ntmps50
    go_wp2_with fail
    go_ret
    exact ⟨rb (by first | exact hE | simp), S0.out.1⟩
  · go_enter Try.func50, Try.ntmps50
    go_wp2_with fail
    go_ret
    exact ⟨rb (by first | exact hE | simp), S0.out.1⟩
set_option maxHeartbeats 8000000 in
theorem mayr_C {D : Nat → Prop} {k : Int} {u : Nat → Int} {ps : List RT} {v : Value} {w : World} (hk : (k = 3 ∨ k = 4) ∧ ps.length = 0 ∨ (k = 5 ∨ k = 6 ∨ k = 7) ∧ ps.length ≠ 1) (hzu : zeroU u = true) (hD : ∀ b, D b → b < w.heap.size) (hl : ps.length ≤ 9223372036854775806) (h : RV D w (.mk k u ps) v)
    (hI : Hid (∀ i (hi : i < ps.length) v w, RV D w ps[i] v → (∀ b, D b → b < w.heap.size) → Calls Try.prog 50 #[v] w fun e w' => e = .returned (.bool (mayB ps[i])) ∧ Below w.heap.size w w')) :
    Calls Try.prog 50 #[v] w fun e w' => e = .returned (.bool false) ∧ Below w.heap.size w w' := by
  obtain ⟨p, c, rfl, hp⟩ := h.parts
  have HP := Lib.hid hp
  clear h hp
  have S0 := Lib.hid ((Sb.start w).alloc (.cells #[.int .i64 k, .int .u64 (u 0), .int .u64 (u 1), .int .u64 (u 2), .int .u64 (u 3), .slice p ps.length c] 56))
  have hnq := neq24g u
  rw [hzu] at hnq
  clear hzu
  rcases hk with ⟨hk, hn⟩ | ⟨hk, hn⟩
  · have hn2 : ((ps.length : Nat) : Int) < 1 := by omega
    clear hn
    rcases hk with rfl | rfl
    all_goals
      go_enter Try.func50, Try.ntmps50
      go_wp2_with fail
      go_ret
      exact ⟨rfl, S0.out.1⟩
  · have hn2 : (((ps.length : Nat) : Int) != 1) = true := by rw [bne_iff_ne]; omega
    clear hn
    rcases hk with rfl | rfl | rfl
    all_goals
      go_enter Try.func50, Try.ntmps50
      go_wp2_with fail
      go_ret
      exact ⟨rfl, S0.out.1⟩
set_option maxHeartbeats 8000000 in
theorem mayr_D {D : Nat → Prop} {k : Int} {u : Nat → Int} {ps : List RT} {v : Value} {w : World} (hk : k ≠ 0 ∧ k ≠ 1 ∧ k ≠ 2 ∧ k ≠ 3 ∧ k ≠ 4 ∧ k ≠ 5 ∧ k ≠ 6 ∧ k ≠ 7) (hzu : zeroU u = true) (hD : ∀ b, D b → b < w.heap.size) (hl : ps.length ≤ 9223372036854775806) (h : RV D w (.mk k u ps) v)
    (hI : Hid (∀ i (hi : i < ps.length) v w, RV D w ps[i] v → (∀ b, D b → b < w.heap.size) → Calls Try.prog 50 #[v] w fun e w' => e = .returned (.bool (mayB ps[i])) ∧ Below w.heap.size w w')) :
    Calls Try.prog 50 #[v] w fun e w' => e = .returned (.bool false) ∧ Below w.heap.size w w' := by
  obtain ⟨p, c, rfl, hp⟩ := h.parts
  have HP := Lib.hid hp
  clear h hp
  have S0 := Lib.hid ((Sb.start w).alloc (.cells #[.int .i64 k, .int .u64 (u 0), .int .u64 (u 1), .int .u64 (u 2), .int .u64 (u 3), .slice p ps.length c] 56))
  have hnq := neq24g u
  rw [hzu] at hnq
  clear hzu
  obtain ⟨k0, k1, k2, k3, k4, k5, k6, k7⟩ := hk
  have n2 : (k != 2) = true := by rw [bne_iff_ne]; exact k2
  have e0 : (k == 0) = false := by simpa using k0
  have e1 : (k == 1) = false := by simpa using k1
  have e2 : (k == 2) = false := by simpa using k2
  have e3 : (k == 3) = false := by simpa using k3
  have e4 : (k == 4) = false := by simpa using k4
  have e5 : (k == 5) = false := by simpa using k5
  have e6 : (k == 6) = false := by simpa using k6
  have e7 : (k == 7) = false := by simpa using k7
  go_enter Try.func50, Try.ntmps50
  go_wp2_with fail
  go_ret
  exact ⟨rfl, S0.out.1⟩
set_option maxHeartbeats 8000000 in
theorem mayr_3 {D : Nat → Prop} {u : Nat → Int} {ps : List RT} {v : Value} {w : World} (hn : ps.length ≠ 0) (hzu : zeroU u = true) (hD : ∀ b, D b → b < w.heap.size) (hl : ps.length ≤ 9223372036854775806) (h : RV D w (.mk 3 u ps) v)
    (hI : Hid (∀ i (hi : i < ps.length) v w, RV D w ps[i] v → (∀ b, D b → b < w.heap.size) → Calls Try.prog 50 #[v] w fun e w' => e = .returned (.bool (mayB ps[i])) ∧ Below w.heap.size w w')) :
    Calls Try.prog 50 #[v] w fun e w' => e = .returned (.bool (mayL ps)) ∧ Below w.heap.size w w' := by
  obtain ⟨p, c, rfl, hp⟩ := h.parts
  have HP := Lib.hid hp
  clear h hp
  have S0 := Lib.hid ((Sb.start w).alloc (.cells #[.int .i64 3, .int .u64 (u 0), .int .u64 (u 1), .int .u64 (u 2), .int .u64 (u 3), .slice p ps.length c] 56))
  have hnq := neq24g u
  rw [hzu] at hnq
  clear hzu
  have hn2 : ¬ ((ps.length : Nat) : Int) < 1 := by omega
  clear hn
  obtain ⟨R, hR⟩ : ∃ R, mayL ps = R := ⟨_, rfl⟩
  rw [hR]
  have HR := Lib.hid hR
  clear hR
  go_enter Try.func50, Try.ntmps50
  go_wp2_with fail
  go_loopw [4] (fun i wr => ∃ j : Nat, j ≤ ps.length ∧ i = .int .i64 j ∧ Hid (mayL (ps.drop j) = R) ∧ Hid (Sb w wr [(w.heap.size, .cells #[.int .i64 3, .int .u64 (u 0), .int .u64 (u 1), .int .u64 (u 2), .int .u64 (u 3), .slice p ps.length c] 56)])) (fun i _ => ps.length - (intOf i).toNat)
  case atStart => exact ⟨0, by omega, rfl, HR, S0⟩
  case round =>
    obtain ⟨j, hj, rfl, HC, HS⟩ := hrel
    clear S0 HR
    by_cases hlt : j < ps.length
    · skip
      have hne : ps ≠ [] := by intro e; subst e; simp at hlt
      obtain ⟨b, o, rfl, hDb, hx⟩ := HP.out hne
      obtain ⟨k', u', p', n', c', hv, hcell⟩ := hx j hlt
      have hbw := hD b hDb
      have hB := HS.out.1
      have HV := Lib.hid (RV.mono (w' := wr) (fun b h => h) (fun x hx hlt => hB.block x hlt) hv)
      have HD := Lib.hid fun x (hx : D x) => (Nat.lt_of_lt_of_le (hD x hx) hB.size : x < wr.heap.size)
      have cc : ∀ i y, (nodeC k' u' (.slice p' n' c'))[i]? = some y → wr.cell? ⟨b, o + j * 6 + i, none⟩ = some y := fun i y hy => by
        rw [hB.cell (p := ⟨b, o + j * 6 + i, none⟩) hbw, ← hcell i y hy, show o + j * 6 + i = o + (6 * j + i) by omega]
      have d0 : wr.cell? ⟨b, o + j * 6, none⟩ = some (.int .i64 k') := cc 0 _ rfl
      have d1 : wr.cell? ⟨b, o + j * 6 + 1, none⟩ = some (.int .u64 (u' 0)) := cc 1 _ rfl
      have d2 : wr.cell? ⟨b, o + j * 6 + 2, none⟩ = some (.int .u64 (u' 1)) := cc 2 _ rfl
      have d3 : wr.cell? ⟨b, o + j * 6 + 3, none⟩ = some (.int .u64 (u' 2)) := cc 3 _ rfl
      have d4 : wr.cell? ⟨b, o + j * 6 + 4, none⟩ = some (.int .u64 (u' 3)) := cc 4 _ rfl
      have d5 : wr.cell? ⟨b, o + j * 6 + 5, none⟩ = some (.slice p' n' c') := cc 5 _ rfl
      have q5 : wr.cell? ⟨w.heap.size, 5, none⟩ = some (.slice (some ⟨b, o, none⟩) ps.length c) := HS.out.cell 5
      have hlt' : (j : Int) < (ps.length : Int) := by omega
      have hIj := Lib.hid (hI.out j hlt)
      have HC2 := Lib.hid ((mayL_drop hlt).symm.trans HC.out)
      clear hcell hv cc hx hB HC
      cases hm : mayB ps[j] with
      | false =>
        rw [hm] at hIj HC2
        have hr : false = R := by rw [← HC2.out]; rfl
        subst hr
        clear hm HC2
        go_wp2_with fail
        refine (hIj.out _ _ HV.out HD.out).mono ?_
        rintro _ w5 ⟨rfl, hb⟩
        have H5 := Lib.hid (HS.out.up hb)
        clear hb
        go_wp2
        go_ret
        exact ⟨rfl, H5.out.1⟩
      | true =>
        rw [hm] at hIj HC2
        clear hm
        go_wp2_with fail
        refine (hIj.out _ _ HV.out HD.out).mono ?_
        rintro _ w5 ⟨rfl, hb⟩
        have H5 := Lib.hid (HS.out.up hb)
        clear hb
        go_wp2_with fail
        go_roundw
        case rel => exact ⟨j + 1, by omega, by go_num, Lib.hid (by have := HC2.out; rwa [Bool.true_and] at this), H5⟩
        case measure => simp [intOf]; omega
    · obtain rfl : j = ps.length := by omega
      have hlt' : ¬ ((ps.length : Int) < (ps.length : Int)) := by omega
      have hr : true = R := by rw [← HC.out, List.drop_length]; rfl
      subst hr
      go_wp2
      go_ret
      exact ⟨rfl, HS.out.1⟩
set_option maxHeartbeats 8000000 in
theorem mayr_4 {D : Nat → Prop} {u : Nat → Int} {ps : List RT} {v : Value} {w : World} (hn : ps.length ≠ 0) (hzu : zeroU u = true) (hD : ∀ b, D b → b < w.heap.size) (hl : ps.length ≤ 9223372036854775806) (h : RV D w (.mk 4 u ps) v)
    (hI : Hid (∀ i (hi : i < ps.length) v w, RV D w ps[i] v → (∀ b, D b → b < w.heap.size) → Calls Try.prog 50 #[v] w fun e w' => e = .returned (.bool (mayB ps[i])) ∧ Below w.heap.size w w')) :
    Calls Try.prog 50 #[v] w fun e w' => e = .returned (.bool (mayL ps)) ∧ Below w.heap.size w w' := by
  obtain ⟨p, c, rfl, hp⟩ := h.parts
  have HP := Lib.hid hp
  clear h hp
  have S0 := Lib.hid ((Sb.start w).alloc (.cells #[.int .i64 4, .int .u64 (u 0), .int .u64 (u 1), .int .u64 (u 2), .int .u64 (u 3), .slice p ps.length c] 56))
  have hnq := neq24g u
  rw [hzu] at hnq
  clear hzu
  have hn2 : ¬ ((ps.length : Nat) : Int) < 1 := by omega
  clear hn
  obtain ⟨R, hR⟩ : ∃ R, mayL ps = R := ⟨_, rfl⟩
  rw [hR]
  have HR := Lib.hid hR
  clear hR
  go_enter Try.func50, Try.ntmps50
  go_wp2_with fail
  go_loopw [4] (fun i wr => ∃ j : Nat, j ≤ ps.length ∧ i = .int .i64 j ∧ Hid (mayL (ps.drop j) = R) ∧ Hid (Sb w wr [(w.heap.size, .cells #[.int .i64 4, .int .u64 (u 0), .int .u64 (u 1), .int .u64 (u 2), .int .u64 (u 3), .slice p ps.length c] 56)])) (fun i _ => ps.length - (intOf i).toNat)
  case atStart => exact ⟨0, by omega, rfl, HR, S0⟩
  case round =>
    obtain ⟨j, hj, rfl, HC, HS⟩ := hrel
    clear S0 HR
    by_cases hlt : j < ps.length
    · skip
      have hne : ps ≠ [] := by intro e; subst e; simp at hlt
      obtain ⟨b, o, rfl, hDb, hx⟩ := HP.out hne
      obtain ⟨k', u', p', n', c', hv, hcell⟩ := hx j hlt
      have hbw := hD b hDb
      have hB := HS.out.1
      have HV := Lib.hid (RV.mono (w' := wr) (fun b h => h) (fun x hx hlt => hB.block x hlt) hv)
      have HD := Lib.hid fun x (hx : D x) => (Nat.lt_of_lt_of_le (hD x hx) hB.size : x < wr.heap.size)
      have cc : ∀ i y, (nodeC k' u' (.slice p' n' c'))[i]? = some y → wr.cell? ⟨b, o + j * 6 + i, none⟩ = some y := fun i y hy => by
        rw [hB.cell (p := ⟨b, o + j * 6 + i, none⟩) hbw, ← hcell i y hy, show o + j * 6 + i = o + (6 * j + i) by omega]
      have d0 : wr.cell? ⟨b, o + j * 6, none⟩ = some (.int .i64 k') := cc 0 _ rfl
      have d1 : wr.cell? ⟨b, o + j * 6 + 1, none⟩ = some (.int .u64 (u' 0)) := cc 1 _ rfl
      have d2 : wr.cell? ⟨b, o + j * 6 + 2, none⟩ = some (.int .u64 (u' 1)) := cc 2 _ rfl
      have d3 : wr.cell? ⟨b, o + j * 6 + 3, none⟩ = some (.int .u64 (u' 2)) := cc 3 _ rfl
      have d4 : wr.cell? ⟨b, o + j * 6 + 4, none⟩ = some (.int .u64 (u' 3)) := cc 4 _ rfl
      have d5 : wr.cell? ⟨b, o + j * 6 + 5, none⟩ = some (.slice p' n' c') := cc 5 _ rfl
      have q5 : wr.cell? ⟨w.heap.size, 5, none⟩ = some (.slice (some ⟨b, o, none⟩) ps.length c) := HS.out.cell 5
      have hlt' : (j : Int) < (ps.length : Int) := by omega
      have hIj := Lib.hid (hI.out j hlt)
      have HC2 := Lib.hid ((mayL_drop hlt).symm.trans HC.out)
      clear hcell hv cc hx hB HC
      cases hm : mayB ps[j] with
      | false =>
        rw [hm] at hIj HC2
        have hr : false = R := by rw [← HC2.out]; rfl
        subst hr
        clear hm HC2
        go_wp2_with fail
        refine (hIj.out _ _ HV.out HD.out).mono ?_
        rintro _ w5 ⟨rfl, hb⟩
        have H5 := Lib.hid (HS.out.up hb)
        clear hb
        go_wp2
        go_ret
        exact ⟨rfl, H5.out.1⟩
      | true =>
        rw [hm] at hIj HC2
        clear hm
        go_wp2_with fail
        refine (hIj.out _ _ HV.out HD.out).mono ?_
        rintro _ w5 ⟨rfl, hb⟩
        have H5 := Lib.hid (HS.out.up hb)
        clear hb
        go_wp2_with fail
        go_roundw
        case rel => exact ⟨j + 1, by omega, by go_num, Lib.hid (by have := HC2.out; rwa [Bool.true_and] at this), H5⟩
        case measure => simp [intOf]; omega
    · obtain rfl : j = ps.length := by omega
      have hlt' : ¬ ((ps.length : Int) < (ps.length : Int)) := by omega
      have hr : true = R := by rw [← HC.out, List.drop_length]; rfl
      subst hr
      go_wp2
      go_ret
      exact ⟨rfl, HS.out.1⟩
set_option maxHeartbeats 8000000 in
theorem mayr_5 {D : Nat → Prop} {u : Nat → Int} {ps : List RT} {v : Value} {w : World} (hn : ps.length = 1) (hzu : zeroU u = true) (hD : ∀ b, D b → b < w.heap.size) (hl : ps.length ≤ 9223372036854775806) (h : RV D w (.mk 5 u ps) v)
    (hI : Hid (∀ i (hi : i < ps.length) v w, RV D w ps[i] v → (∀ b, D b → b < w.heap.size) → Calls Try.prog 50 #[v] w fun e w' => e = .returned (.bool (mayB ps[i])) ∧ Below w.heap.size w w')) :
    Calls Try.prog 50 #[v] w fun e w' => e = .returned (.bool (mayL ps)) ∧ Below w.heap.size w w' := by
  obtain ⟨p, c, rfl, hp⟩ := h.parts
  have HP := Lib.hid hp
  clear h hp
  have S0 := Lib.hid ((Sb.start w).alloc (.cells #[.int .i64 5, .int .u64 (u 0), .int .u64 (u 1), .int .u64 (u 2), .int .u64 (u 3), .slice p ps.length c] 56))
  have hnq := neq24g u
  rw [hzu] at hnq
  clear hzu
  have hn2 : (((ps.length : Nat) : Int) != 1) = false := by rw [hn]; rfl
  clear hn
  obtain ⟨R, hR⟩ : ∃ R, mayL ps = R := ⟨_, rfl⟩
  rw [hR]
  have HR := Lib.hid hR
  clear hR
  go_enter Try.func50, Try.ntmps50
  go_wp2_with fail
  go_loopw [4] (fun i wr => ∃ j : Nat, j ≤ ps.length ∧ i = .int .i64 j ∧ Hid (mayL (ps.drop j) = R) ∧ Hid (Sb w wr [(w.heap.size, .cells #[.int .i64 5, .int .u64 (u 0), .int .u64 (u 1), .int .u64 (u 2), .int .u64 (u 3), .slice p ps.length c] 56)])) (fun i _ => ps.length - (intOf i).toNat)
  case atStart => exact ⟨0, by omega, rfl, HR, S0⟩
  case round =>
    obtain ⟨j, hj, rfl, HC, HS⟩ := hrel
    clear S0 HR
    by_cases hlt : j < ps.length
    · skip
      have hne : ps ≠ [] := by intro e; subst e; simp at hlt
      obtain ⟨b, o, rfl, hDb, hx⟩ := HP.out hne
      obtain ⟨k', u', p', n', c', hv, hcell⟩ := hx j hlt
      have hbw := hD b hDb
      have hB := HS.out.1
      have HV := Lib.hid (RV.mono (w' := wr) (fun b h => h) (fun x hx hlt => hB.block x hlt) hv)
      have HD := Lib.hid fun x (hx : D x) => (Nat.lt_of_lt_of_le (hD x hx) hB.size : x < wr.heap.size)
      have cc : ∀ i y, (nodeC k' u' (.slice p' n' c'))[i]? = some y → wr.cell? ⟨b, o + j * 6 + i, none⟩ = some y := fun i y hy => by
        rw [hB.cell (p := ⟨b, o + j * 6 + i, none⟩) hbw, ← hcell i y hy, show o + j * 6 + i = o + (6 * j + i) by omega]
      have d0 : wr.cell? ⟨b, o + j * 6, none⟩ = some (.int .i64 k') := cc 0 _ rfl
      have d1 : wr.cell? ⟨b, o + j * 6 + 1, none⟩ = some (.int .u64 (u' 0)) := cc 1 _ rfl
      have d2 : wr.cell? ⟨b, o + j * 6 + 2, none⟩ = some (.int .u64 (u' 1)) := cc 2 _ rfl
      have d3 : wr.cell? ⟨b, o + j * 6 + 3, none⟩ = some (.int .u64 (u' 2)) := cc 3 _ rfl
      have d4 : wr.cell? ⟨b, o + j * 6 + 4, none⟩ = some (.int .u64 (u' 3)) := cc 4 _ rfl
      have d5 : wr.cell? ⟨b, o + j * 6 + 5, none⟩ = some (.slice p' n' c') := cc 5 _ rfl
      have q5 : wr.cell? ⟨w.heap.size, 5, none⟩ = some (.slice (some ⟨b, o, none⟩) ps.length c) := HS.out.cell 5
      have hlt' : (j : Int) < (ps.length : Int) := by omega
      have hIj := Lib.hid (hI.out j hlt)
      have HC2 := Lib.hid ((mayL_drop hlt).symm.trans HC.out)
      clear hcell hv cc hx hB HC
      cases hm : mayB ps[j] with
      | false =>
        rw [hm] at hIj HC2
        have hr : false = R := by rw [← HC2.out]; rfl
        subst hr
        clear hm HC2
        go_wp2_with fail
        refine (hIj.out _ _ HV.out HD.out).mono ?_
        rintro _ w5 ⟨rfl, hb⟩
        have H5 := Lib.hid (HS.out.up hb)
        clear hb
        go_wp2
        go_ret
        exact ⟨rfl, H5.out.1⟩
      | true =>
        rw [hm] at hIj HC2
        clear hm
        go_wp2_with fail
        refine (hIj.out _ _ HV.out HD.out).mono ?_
        rintro _ w5 ⟨rfl, hb⟩
        have H5 := Lib.hid (HS.out.up hb)
        clear hb
        go_wp2_with fail
        go_roundw
        case rel => exact ⟨j + 1, by omega, by go_num, Lib.hid (by have := HC2.out; rwa [Bool.true_and] at this), H5⟩
        case measure => simp [intOf]; omega
    · obtain rfl : j = ps.length := by omega
      have hlt' : ¬ ((ps.length : Int) < (ps.length : Int)) := by omega
      have hr : true = R := by rw [← HC.out, List.drop_length]; rfl
      subst hr
      go_wp2
      go_ret
      exact ⟨rfl, HS.out.1⟩
set_option maxHeartbeats 8000000 in
theorem mayr_6 {D : Nat → Prop} {u : Nat → Int} {ps : List RT} {v : Value} {w : World} (hn : ps.length = 1) (hzu : zeroU u = true) (hD : ∀ b, D b → b < w.heap.size) (hl : ps.length ≤ 9223372036854775806) (h : RV D w (.mk 6 u ps) v)
    (hI : Hid (∀ i (hi : i < ps.length) v w, RV D w ps[i] v → (∀ b, D b → b < w.heap.size) → Calls Try.prog 50 #[v] w fun e w' => e = .returned (.bool (mayB ps[i])) ∧ Below w.heap.size w w')) :
    Calls Try.prog 50 #[v] w fun e w' => e = .returned (.bool (mayL ps)) ∧ Below w.heap.size w w' := by
  obtain ⟨p, c, rfl, hp⟩ := h.parts
  have HP := Lib.hid hp
  clear h hp
  have S0 := Lib.hid ((Sb.start w).alloc (.cells #[.int .i64 6, .int .u64 (u 0), .int .u64 (u 1), .int .u64 (u 2), .int .u64 (u 3), .slice p ps.length c] 56))
  have hnq := neq24g u
  rw [hzu] at hnq
  clear hzu
  have hn2 : (((ps.length : Nat) : Int) != 1) = false := by rw [hn]; rfl
  clear hn
  obtain ⟨R, hR⟩ : ∃ R, mayL ps = R := ⟨_, rfl⟩
  rw [hR]
  have HR := Lib.hid hR
  clear hR
  go_enter Try.func50, Try.ntmps50
  go_wp2_with fail
  go_loopw [4] (fun i wr => ∃ j : Nat, j ≤ ps.length ∧ i = .int .i64 j ∧ Hid (mayL (ps.drop j) = R) ∧ Hid (Sb w wr [(w.heap.size, .cells #[.int .i64 6, .int .u64 (u 0), .int .u64 (u 1), .int .u64 (u 2), .int .u64 (u 3), .slice p ps.length c] 56)])) (fun i _ => ps.length - (intOf i).toNat)
  case atStart => exact ⟨0, by omega, rfl, HR, S0⟩
  case round =>
    obtain ⟨j, hj, rfl, HC, HS⟩ := hrel
    clear S0 HR
    by_cases hlt : j < ps.length
    · skip
      have hne : ps ≠ [] := by intro e; subst e; simp at hlt
      obtain ⟨b, o, rfl, hDb, hx⟩ := HP.out hne
      obtain ⟨k', u', p', n', c', hv, hcell⟩ := hx j hlt
      have hbw := hD b hDb
      have hB := HS.out.1
      have HV := Lib.hid (RV.mono (w' := wr) (fun b h => h) (fun x hx hlt => hB.block x hlt) hv)
      have HD := Lib.hid fun x (hx : D x) => (Nat.lt_of_lt_of_le (hD x hx) hB.size : x < wr.heap.size)
      have cc : ∀ i y, (nodeC k' u' (.slice p' n' c'))[i]? = some y → wr.cell? ⟨b, o + j * 6 + i, none⟩ = some y := fun i y hy => by
        rw [hB.cell (p := ⟨b, o + j * 6 + i, none⟩) hbw, ← hcell i y hy, show o + j * 6 + i = o + (6 * j + i) by omega]
      have d0 : wr.cell? ⟨b, o + j * 6, none⟩ = some (.int .i64 k') := cc 0 _ rfl
      have d1 : wr.cell? ⟨b, o + j * 6 + 1, none⟩ = some (.int .u64 (u' 0)) := cc 1 _ rfl
      have d2 : wr.cell? ⟨b, o + j * 6 + 2, none⟩ = some (.int .u64 (u' 1)) := cc 2 _ rfl
      have d3 : wr.cell? ⟨b, o + j * 6 + 3, none⟩ = some (.int .u64 (u' 2)) := cc 3 _ rfl
      have d4 : wr.cell? ⟨b, o + j * 6 + 4, none⟩ = some (.int .u64 (u' 3)) := cc 4 _ rfl
      have d5 : wr.cell? ⟨b, o + j * 6 + 5, none⟩ = some (.slice p' n' c') := cc 5 _ rfl
      have q5 : wr.cell? ⟨w.heap.size, 5, none⟩ = some (.slice (some ⟨b, o, none⟩) ps.length c) := HS.out.cell 5
      have hlt' : (j : Int) < (ps.length : Int) := by omega
      have hIj := Lib.hid (hI.out j hlt)
      have HC2 := Lib.hid ((mayL_drop hlt).symm.trans HC.out)
      clear hcell hv cc hx hB HC
      cases hm : mayB ps[j] with
      | false =>
        rw [hm] at hIj HC2
        have hr : false = R := by rw [← HC2.out]; rfl
        subst hr
        clear hm HC2
        go_wp2_with fail
        refine (hIj.out _ _ HV.out HD.out).mono ?_
        rintro _ w5 ⟨rfl, hb⟩
        have H5 := Lib.hid (HS.out.up hb)
        clear hb
        go_wp2
        go_ret
        exact ⟨rfl, H5.out.1⟩
      | true =>
        rw [hm] at hIj HC2
        clear hm
        go_wp2_with fail
        refine (hIj.out _ _ HV.out HD.out).mono ?_
        rintro _ w5 ⟨rfl, hb⟩
        have H5 := Lib.hid (HS.out.up hb)
        clear hb
        go_wp2_with fail
        go_roundw
        case rel => exact ⟨j + 1, by omega, by go_num, Lib.hid (by have := HC2.out; rwa [Bool.true_and] at this), H5⟩
        case measure => simp [intOf]; omega
    · obtain rfl : j = ps.length := by omega
      have hlt' : ¬ ((ps.length : Int) < (ps.length : Int)) := by omega
      have hr : true = R := by rw [← HC.out, List.drop_length]; rfl
      subst hr
      go_wp2
      go_ret
      exact ⟨rfl, HS.out.1⟩
set_option maxHeartbeats 8000000 in
theorem mayr_7 {D : Nat → Prop} {u : Nat → Int} {ps : List RT} {v : Value} {w : World} (hn : ps.length = 1) (hzu : zeroU u = true) (hD : ∀ b, D b → b < w.heap.size) (hl : ps.length ≤ 9223372036854775806) (h : RV D w (.mk 7 u ps) v)
    (hI : Hid (∀ i (hi : i < ps.length) v w, RV D w ps[i] v → (∀ b, D b → b < w.heap.size) → Calls Try.prog 50 #[v] w fun e w' => e = .returned (.bool (mayB ps[i])) ∧ Below w.heap.size w w')) :
    Calls Try.prog 50 #[v] w fun e w' => e = .returned (.bool (mayL ps)) ∧ Below w.heap.size w w' := by
  obtain ⟨p, c, rfl, hp⟩ := h.parts
  have HP := Lib.hid hp
  clear h hp
  have S0 := Lib.hid ((Sb.start w).alloc (.cells #[.int .i64 7, .int .u64 (u 0), .int .u64 (u 1), .int .u64 (u 2), .int .u64 (u 3), .slice p ps.length c] 56))
  have hnq := neq24g u
  rw [hzu] at hnq
  clear hzu
  have hn2 : (((ps.length : Nat) : Int) != 1) = false := by rw [hn]; rfl
  clear hn
  obtain ⟨R, hR⟩ : ∃ R, mayL ps = R := ⟨_, rfl⟩
  rw [hR]
  have HR := Lib.hid hR
  clear hR
  go_enter Try.func50, Try.ntmps50
  go_wp2_with fail
  go_loopw [4] (fun i wr => ∃ j : Nat, j ≤ ps.length ∧ i = .int .i64 j ∧ Hid (mayL (ps.drop j) = R) ∧ Hid (Sb w wr [(w.heap.size, .cells #[.int .i64 7, .int .u64 (u 0), .int .u64 (u 1), .int .u64 (u 2), .int .u64 (u 3), .slice p ps.length c] 56)])) (fun i _ => ps.length - (intOf i).toNat)
  case atStart => exact ⟨0, by omega, rfl, HR, S0⟩
  case round =>
    obtain ⟨j, hj, rfl, HC, HS⟩ := hrel
    clear S0 HR
    by_cases hlt : j < ps.length
    · skip
      have hne : ps ≠ [] := by intro e; subst e; simp at hlt
      obtain ⟨b, o, rfl, hDb, hx⟩ := HP.out hne
      obtain ⟨k', u', p', n', c', hv, hcell⟩ := hx j hlt
      have hbw := hD b hDb
      have hB := HS.out.1
      have HV := Lib.hid (RV.mono (w' := wr) (fun b h => h) (fun x hx hlt => hB.block x hlt) hv)
      have HD := Lib.hid fun x (hx : D x) => (Nat.lt_of_lt_of_le (hD x hx) hB.size : x < wr.heap.size)
      have cc : ∀ i y, (nodeC k' u' (.slice p' n' c'))[i]? = some y → wr.cell? ⟨b, o + j * 6 + i, none⟩ = some y := fun i y hy => by
        rw [hB.cell (p := ⟨b, o + j * 6 + i, none⟩) hbw, ← hcell i y hy, show o + j * 6 + i = o + (6 * j + i) by omega]
      have d0 : wr.cell? ⟨b, o + j * 6, none⟩ = some (.int .i64 k') := cc 0 _ rfl
      have d1 : wr.cell? ⟨b, o + j * 6 + 1, none⟩ = some (.int .u64 (u' 0)) := cc 1 _ rfl
      have d2 : wr.cell? ⟨b, o + j * 6 + 2, none⟩ = some (.int .u64 (u' 1)) := cc 2 _ rfl
      have d3 : wr.cell? ⟨b, o + j * 6 + 3, none⟩ = some (.int .u64 (u' 2)) := cc 3 _ rfl
      have d4 : wr.cell? ⟨b, o + j * 6 + 4, none⟩ = some (.int .u64 (u' 3)) := cc 4 _ rfl
      have d5 : wr.cell? ⟨b, o + j * 6 + 5, none⟩ = some (.slice p' n' c') := cc 5 _ rfl
      have q5 : wr.cell? ⟨w.heap.size, 5, none⟩ = some (.slice (some ⟨b, o, none⟩) ps.length c) := HS.out.cell 5
      have hlt' : (j : Int) < (ps.length : Int) := by omega
      have hIj := Lib.hid (hI.out j hlt)
      have HC2 := Lib.hid ((mayL_drop hlt).symm.trans HC.out)
      clear hcell hv cc hx hB HC
      cases hm : mayB ps[j] with
      | false =>
        rw [hm] at hIj HC2
        have hr : false = R := by rw [← HC2.out]; rfl
        subst hr
        clear hm HC2
        go_wp2_with fail
        refine (hIj.out _ _ HV.out HD.out).mono ?_
        rintro _ w5 ⟨rfl, hb⟩
        have H5 := Lib.hid (HS.out.up hb)
        clear hb
        go_wp2
        go_ret
        exact ⟨rfl, H5.out.1⟩
      | true =>
        rw [hm] at hIj HC2
        clear hm
        go_wp2_with fail
        refine (hIj.out _ _ HV.out HD.out).mono ?_
        rintro _ w5 ⟨rfl, hb⟩
        have H5 := Lib.hid (HS.out.up hb)
        clear hb
        go_wp2_with fail
        go_roundw
        case rel => exact ⟨j + 1, by omega, by go_num, Lib.hid (by have := HC2.out; rwa [Bool.true_and] at this), H5⟩
        case measure => simp [intOf]; omega
    · obtain rfl : j = ps.length := by omega
      have hlt' : ¬ ((ps.length : Int) < (ps.length : Int)) := by omega
      have hr : true = R := by rw [← HC.out, List.drop_length]; rfl
      subst hr
      go_wp2
      go_ret
      exact ⟨rfl, HS.out.1⟩
theorem mayr_any {D : Nat → Prop} : ∀ (d : Nat) (t : RT) {v : Value} {w : World}, dep t ≤ d → (∀ b, D b → b < w.heap.size) → wid t ≤ 9223372036854775806 → RV D w t v → Calls Try.prog 50 #[v] w fun e w' => e = .returned (.bool (mayB t)) ∧ Below w.heap.size w w'
  | 0, .mk k u ps, v, w, hn, _, _, h => by simp [dep] at hn
  | d + 1, .mk k u ps, v, w, hn, hD, hw, h => by
    obtain ⟨hl, hw2⟩ := wid_mk hw
    have hI : Hid (∀ i (hi : i < ps.length) v w, RV D w ps[i] v → (∀ b, D b → b < w.heap.size) → Calls Try.prog 50 #[v] w fun e w' => e = .returned (.bool (mayB ps[i])) ∧ Below w.heap.size w w') := Lib.hid fun i hi v' w' hv hD' =>
      mayr_any d ps[i] (by have := depL_get ps i hi; simp only [dep] at hn; omega) hD' (hw2 i hi) hv
    by_cases hz : k ≠ 2 ∧ zeroU u = false
    · have e : mayB (.mk k u ps) = false := by
        rw [mayB, show (k == 2) = false from by simpa using hz.1, hz.2]
        simp
      rw [e]; exact mayr_A hz.1 hz.2 hD hl h hI
    · have hz2 : k ≠ 2 → zeroU u = true := fun hk => by
        cases hu : zeroU u with
        | true => rfl
        | false => exact absurd ⟨hk, hu⟩ hz
      have eb : mayB (.mk k u ps) = (fitsB k ps.length && mayL ps) := by
        rw [mayB]
        by_cases hk : k = 2
        · simp [hk]
        · rw [hz2 hk]; simp
      rw [eb]
      by_cases h012 : k = 0 ∨ k = 1 ∨ k = 2
      · have e2 : (fitsB k ps.length && mayL ps) = decide (ps.length = 0) := by
          unfold fitsB
          rw [if_pos h012]
          cases ps with
          | nil => simp [mayL]
          | cons a l => simp
        rw [e2]
        refine mayr_B ?_ hD hl h hI
        rcases h012 with rfl | rfl | rfl
        · exact .inl ⟨rfl, hz2 (by decide)⟩
        · exact .inr (.inl ⟨rfl, hz2 (by decide)⟩)
        · exact .inr (.inr rfl)
      · have hk2 : k ≠ 2 := fun e => h012 (.inr (.inr e))
        have hzt := hz2 hk2
        unfold fitsB
        rw [if_neg h012]
        by_cases h34 : k = 3 ∨ k = 4
        · rw [if_pos h34]
          by_cases hn0 : ps.length = 0
          · rw [decide_eq_false (by omega : ¬ 0 < ps.length), Bool.false_and]
            exact mayr_C (.inl ⟨h34, hn0⟩) hzt hD hl h hI
          · rw [decide_eq_true (by omega : 0 < ps.length), Bool.true_and]
            rcases h34 with rfl | rfl
            · exact mayr_3 hn0 hzt hD hl h hI
            · exact mayr_4 hn0 hzt hD hl h hI
        · rw [if_neg h34]
          by_cases h567 : k = 5 ∨ k = 6 ∨ k = 7
          · rw [if_pos h567]
            by_cases hn1 : ps.length = 1
            · rw [show (ps.length == 1) = true by simpa using hn1, Bool.true_and]
              rcases h567 with rfl | rfl | rfl
              · exact mayr_5 hn1 hzt hD hl h hI
              · exact mayr_6 hn1 hzt hD hl h hI
              · exact mayr_7 hn1 hzt hD hl h hI
            · rw [show (ps.length == 1) = false by simpa using hn1, Bool.false_and]
              exact mayr_C (.inr ⟨h567, hn1⟩) hzt hD hl h hI
          · rw [if_neg h567, Bool.false_and]
            exact mayr_D ⟨fun e => h012 (.inl e), fun e => h012 (.inr (.inl e)), hk2, fun e => h34 (.inl e), fun e => h34 (.inr e), fun e => h567 (.inl e), fun e => h567 (.inr (.inl e)), fun e => h567 (.inr (.inr e))⟩ hzt hD hl h hI
end Go.Proofs.Ytnhfeakndofokaa
