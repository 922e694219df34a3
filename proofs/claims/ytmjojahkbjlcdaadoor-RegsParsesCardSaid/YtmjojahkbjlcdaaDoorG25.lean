/- Package regs: the reader's small steps: what comes next. -/
import Derived.Test.YtmjojahkbjlcdaaDoorProg
import Derived.Test.YtmjojahkbjlcdaaDoorY3
import Derived.Test.YtmjojahkbjlcdaaDoorY4
import Derived.WalkKit
import Derived.WalkLawsBesides
import Derived.WalkSpells
import Derived.Outline
import Derived.Lib.Walk
import Derived.Lib.Hide
import Derived.RegionTactic
import Derived.LoopTactic
import Derived.Below
import Derived.IntWalk
import Derived.Deep.QuietTactic
import Derived.BigQuiet
import Derived.Test.YtmjojahkbjlcdaaDoorY20
namespace Go.Proofs.YtmjojahkbjlcdaaDoor
set_option linter.unusedSimpArgs false
set_option linter.unusedVariables false
set_option maxRecDepth 100000
open Go.RowKit

mutual
def mayB : RT → Bool
  | .mk k u ps => fitsB k ps.length && (k == 2 || zeroU u) && mayL ps
def mayL : List RT → Bool
  | [] => true
  | t :: ts => mayB t && mayL ts
end
theorem mayL_drop {ts : List RT} {j : Nat} (h : j < ts.length) : mayL (ts.drop j) = (mayB ts[j] && mayL (ts.drop (j + 1))) := by
  rw [List.drop_eq_getElem_cons h, mayL]
set_option maxHeartbeats 4000000 in
theorem may_A {D : Nat → Prop} {k : Int} {u : Nat → Int} {ps : List RT} {v : Value} {w : World} (hf : fitsB k ps.length = false) (hD : ∀ b, D b → b < w.heap.size) (hl : ps.length ≤ 9223372036854775806) (h : RV D w (.mk k u ps) v)
    (hI : Hid (∀ i (hi : i < ps.length) v w, RV D w ps[i] v → (∀ b, D b → b < w.heap.size) → Calls Tryd.prog 32 #[v] w fun e w' => e = .returned (.bool (mayB ps[i])) ∧ Below w.heap.size w w')) :
    Calls Tryd.prog 32 #[v] w fun e w' => e = .returned (.bool false) ∧ Below w.heap.size w w' := by
  obtain ⟨p, c, rfl, hp⟩ := h.parts
  have HP := Lib.hid hp
  have hz := zero27l
  clear h hp
  have S0 := Lib.hid ((Sb.start w).alloc (.cells #[.int .i64 k, .int .u64 (u 0), .int .u64 (u 1), .int .u64 (u 2), .int .u64 (u 3), .slice p ps.length c] 27))
  have hft := Lib.hid fun w => fits_any k ps.length w
  have hnq := neq24g u
  rw [hf] at hft
  clear hf
  go_enter Tryd.func32, Tryd.ntmps32
  go_wp2_with fail
  refine (hft.out _).mono ?_
  rintro _ w9 ⟨rfl, rfl⟩
  go_wp2
  go_ret
  exact ⟨rfl, S0.out.1⟩
set_option maxHeartbeats 4000000 in
theorem may_B {D : Nat → Prop} {k : Int} {u : Nat → Int} {ps : List RT} {v : Value} {w : World} (hf : fitsB k ps.length = true) (hk : k = 2) (hD : ∀ b, D b → b < w.heap.size) (hl : ps.length ≤ 9223372036854775806) (h : RV D w (.mk k u ps) v)
    (hI : Hid (∀ i (hi : i < ps.length) v w, RV D w ps[i] v → (∀ b, D b → b < w.heap.size) → Calls Tryd.prog 32 #[v] w fun e w' => e = .returned (.bool (mayB ps[i])) ∧ Below w.heap.size w w')) :
    Calls Tryd.prog 32 #[v] w fun e w' => e = .returned (.bool (mayL ps)) ∧ Below w.heap.size w w' := by
  obtain ⟨p, c, rfl, hp⟩ := h.parts
  have HP := Lib.hid hp
  have hz := zero27l
  clear h hp
  have S0 := Lib.hid ((Sb.start w).alloc (.cells #[.int .i64 k, .int .u64 (u 0), .int .u64 (u 1), .int .u64 (u 2), .int .u64 (u 3), .slice p ps.length c] 27))
  have hft := Lib.hid fun w => fits_any k ps.length w
  have hnq := neq24g u
  rw [hf] at hft
  clear hf
  subst hk
  obtain ⟨R, hR⟩ : ∃ R, mayL ps = R := ⟨_, rfl⟩
  rw [hR]
  have HR := Lib.hid hR
  clear hR
  go_enter Tryd.func32, Tryd.ntmps32
  go_wp2_with fail
  refine (hft.out _).mono ?_
  rintro _ w9 ⟨rfl, rfl⟩
  go_wp2
  go_loopw [26] (fun i wr => ∃ j : Nat, j ≤ ps.length ∧ i = .int .i64 j ∧ Hid (mayL (ps.drop j) = R) ∧ Sb w wr [(w.heap.size, .cells #[.int .i64 2, .int .u64 (u 0), .int .u64 (u 1), .int .u64 (u 2), .int .u64 (u 3), .slice p ps.length c] 27)]) (fun i _ => ps.length - (intOf i).toNat)
  case atStart => exact ⟨0, by omega, rfl, HR, S0.out⟩
  case round =>
    obtain ⟨j, hj, rfl, HC, hS⟩ := hrel
    have HS := Lib.hid hS
    clear hS S0 HR
    by_cases hlt : j < ps.length
    · have hne : ps ≠ [] := by intro e; subst e; simp at hlt
      obtain ⟨b, o, rfl, hDb, hx⟩ := HP.out hne
      obtain ⟨k', u', p', n', c', hv, hcell⟩ := hx j hlt
      have hbw := hD b hDb
      have hB := HS.out.1
      have HV := Lib.hid ((RV.mono (fun b h => h) (fun x hx hlt => hB.block x hlt) hv).mono (fun b h => h) (fun x hx hlt => heap_alloc_old wr (.cells #[.int .i64 k', .int .u64 (u' 0), .int .u64 (u' 1), .int .u64 (u' 2), .int .u64 (u' 3), .slice p' n' c'] 27) hlt))
      have HD := Lib.hid fun x (hx : D x) => (by have h1 := hD x hx; have h2 := hB.size; simp; omega : x < (wr.alloc (.cells #[.int .i64 k', .int .u64 (u' 0), .int .u64 (u' 1), .int .u64 (u' 2), .int .u64 (u' 3), .slice p' n' c'] 27)).heap.size)
      have cc : ∀ i y, (nodeC k' u' (.slice p' n' c'))[i]? = some y → wr.cell? ⟨b, o + j * 6 + i, none⟩ = some y := fun i y hy => by
        rw [hB.cell (p := ⟨b, o + j * 6 + i, none⟩) hbw, ← hcell i y hy, show o + j * 6 + i = o + (6 * j + i) by omega]
      have d0 : wr.cell? ⟨b, o + j * 6, none⟩ = some (.int .i64 k') := cc 0 _ rfl
      have d1 : wr.cell? ⟨b, o + j * 6 + 1, none⟩ = some (.int .u64 (u' 0)) := cc 1 _ rfl
      have d2 : wr.cell? ⟨b, o + j * 6 + 2, none⟩ = some (.int .u64 (u' 1)) := cc 2 _ rfl
      have d3 : wr.cell? ⟨b, o + j * 6 + 3, none⟩ = some (.int .u64 (u' 2)) := cc 3 _ rfl
      have d4 : wr.cell? ⟨b, o + j * 6 + 4, none⟩ = some (.int .u64 (u' 3)) := cc 4 _ rfl
      have d5 : wr.cell? ⟨b, o + j * 6 + 5, none⟩ = some (.slice p' n' c') := cc 5 _ rfl
      have HW := Lib.hid (HS.out.up ((Below.refl _ _).alloc (Nat.le_refl _) (.cells #[.int .i64 k', .int .u64 (u' 0), .int .u64 (u' 1), .int .u64 (u' 2), .int .u64 (u' 3), .slice p' n' c'] 27)))
      have hlt' : (j : Int) < (ps.length : Int) := by omega
      have HC2 := Lib.hid ((mayL_drop hlt).symm.trans HC.out)
      have hIj := Lib.hid (hI.out j hlt)
      clear hcell hv cc hx hB HC
      cases hm : mayB ps[j] with
      | false =>
        rw [hm] at hIj HC2
        have hr : false = R := by rw [← HC2.out]; rfl
        subst hr
        clear hm HC2
        go_wp2_with fail
        refine (hIj.out _ _ HV.out HD.out).mono ?_
        rintro _ w5 ⟨rfl, hb⟩
        have H5 := Lib.hid (HW.out.up hb)
        clear hb
        go_wp2
        go_ret
        exact ⟨rfl, H5.out.1⟩
      | true =>
        rw [hm] at hIj HC2
        clear hm
        go_wp2_with fail
        refine (hIj.out _ _ HV.out HD.out).mono ?_
        rintro _ w5 ⟨rfl, hb⟩
        have H5 := Lib.hid (HW.out.up hb)
        clear hb
        go_wp2_with fail
        go_roundw
        case rel => exact ⟨j + 1, by omega, by go_num, Lib.hid (by have := HC2.out; rwa [Bool.true_and] at this), H5.out⟩
        case measure => simp [intOf]; omega
    · obtain rfl : j = ps.length := by omega
      have hlt' : ¬ ((ps.length : Int) < (ps.length : Int)) := by omega
      have HB := Lib.hid HS.out.1
      have hr : true = R := by rw [← HC.out, List.drop_length]; rfl
      subst hr
      go_wp2
      go_ret
      exact ⟨rfl, HB.out⟩
set_option maxHeartbeats 4000000 in
theorem may_C {D : Nat → Prop} {k : Int} {u : Nat → Int} {ps : List RT} {v : Value} {w : World} (hf : fitsB k ps.length = true) (hk : k ≠ 2) (hzu : zeroU u = true) (hD : ∀ b, D b → b < w.heap.size) (hl : ps.length ≤ 9223372036854775806) (h : RV D w (.mk k u ps) v)
    (hI : Hid (∀ i (hi : i < ps.length) v w, RV D w ps[i] v → (∀ b, D b → b < w.heap.size) → Calls Tryd.prog 32 #[v] w fun e w' => e = .returned (.bool (mayB ps[i])) ∧ Below w.heap.size w w')) :
    Calls Tryd.prog 32 #[v] w fun e w' => e = .returned (.bool (mayL ps)) ∧ Below w.heap.size w w' := by
  obtain ⟨p, c, rfl, hp⟩ := h.parts
  have HP := Lib.hid hp
  have hz := zero27l
  clear h hp
  have S0 := Lib.hid ((Sb.start w).alloc (.cells #[.int .i64 k, .int .u64 (u 0), .int .u64 (u 1), .int .u64 (u 2), .int .u64 (u 3), .slice p ps.length c] 27))
  have hft := Lib.hid fun w => fits_any k ps.length w
  have hnq := neq24g u
  rw [hf] at hft
  rw [hzu] at hnq
  clear hf hzu
  have hk2 : (k != 2) = true := by rw [bne_iff_ne]; exact hk
  obtain ⟨R, hR⟩ : ∃ R, mayL ps = R := ⟨_, rfl⟩
  rw [hR]
  have HR := Lib.hid hR
  clear hR
  go_enter Tryd.func32, Tryd.ntmps32
  go_wp2_with fail
  refine (hft.out _).mono ?_
  rintro _ w9 ⟨rfl, rfl⟩
  go_wp2
  go_loopw [26] (fun i wr => ∃ j : Nat, j ≤ ps.length ∧ i = .int .i64 j ∧ Hid (mayL (ps.drop j) = R) ∧ Sb w wr [(w.heap.size, .cells #[.int .i64 k, .int .u64 (u 0), .int .u64 (u 1), .int .u64 (u 2), .int .u64 (u 3), .slice p ps.length c] 27)]) (fun i _ => ps.length - (intOf i).toNat)
  case atStart => exact ⟨0, by omega, rfl, HR, S0.out⟩
  case round =>
    obtain ⟨j, hj, rfl, HC, hS⟩ := hrel
    have HS := Lib.hid hS
    clear hS S0 HR
    by_cases hlt : j < ps.length
    · have hne : ps ≠ [] := by intro e; subst e; simp at hlt
      obtain ⟨b, o, rfl, hDb, hx⟩ := HP.out hne
      obtain ⟨k', u', p', n', c', hv, hcell⟩ := hx j hlt
      have hbw := hD b hDb
      have hB := HS.out.1
      have HV := Lib.hid ((RV.mono (fun b h => h) (fun x hx hlt => hB.block x hlt) hv).mono (fun b h => h) (fun x hx hlt => heap_alloc_old wr (.cells #[.int .i64 k', .int .u64 (u' 0), .int .u64 (u' 1), .int .u64 (u' 2), .int .u64 (u' 3), .slice p' n' c'] 27) hlt))
      have HD := Lib.hid fun x (hx : D x) => (by have h1 := hD x hx; have h2 := hB.size; simp; omega : x < (wr.alloc (.cells #[.int .i64 k', .int .u64 (u' 0), .int .u64 (u' 1), .int .u64 (u' 2), .int .u64 (u' 3), .slice p' n' c'] 27)).heap.size)
      have cc : ∀ i y, (nodeC k' u' (.slice p' n' c'))[i]? = some y → wr.cell? ⟨b, o + j * 6 + i, none⟩ = some y := fun i y hy => by
        rw [hB.cell (p := ⟨b, o + j * 6 + i, none⟩) hbw, ← hcell i y hy, show o + j * 6 + i = o + (6 * j + i) by omega]
      have d0 : wr.cell? ⟨b, o + j * 6, none⟩ = some (.int .i64 k') := cc 0 _ rfl
      have d1 : wr.cell? ⟨b, o + j * 6 + 1, none⟩ = some (.int .u64 (u' 0)) := cc 1 _ rfl
      have d2 : wr.cell? ⟨b, o + j * 6 + 2, none⟩ = some (.int .u64 (u' 1)) := cc 2 _ rfl
      have d3 : wr.cell? ⟨b, o + j * 6 + 3, none⟩ = some (.int .u64 (u' 2)) := cc 3 _ rfl
      have d4 : wr.cell? ⟨b, o + j * 6 + 4, none⟩ = some (.int .u64 (u' 3)) := cc 4 _ rfl
      have d5 : wr.cell? ⟨b, o + j * 6 + 5, none⟩ = some (.slice p' n' c') := cc 5 _ rfl
      have HW := Lib.hid (HS.out.up ((Below.refl _ _).alloc (Nat.le_refl _) (.cells #[.int .i64 k', .int .u64 (u' 0), .int .u64 (u' 1), .int .u64 (u' 2), .int .u64 (u' 3), .slice p' n' c'] 27)))
      have hlt' : (j : Int) < (ps.length : Int) := by omega
      have HC2 := Lib.hid ((mayL_drop hlt).symm.trans HC.out)
      have hIj := Lib.hid (hI.out j hlt)
      clear hcell hv cc hx hB HC
      cases hm : mayB ps[j] with
      | false =>
        rw [hm] at hIj HC2
        have hr : false = R := by rw [← HC2.out]; rfl
        subst hr
        clear hm HC2
        go_wp2_with fail
        refine (hIj.out _ _ HV.out HD.out).mono ?_
        rintro _ w5 ⟨rfl, hb⟩
        have H5 := Lib.hid (HW.out.up hb)
        clear hb
        go_wp2
        go_ret
        exact ⟨rfl, H5.out.1⟩
      | true =>
        rw [hm] at hIj HC2
        clear hm
        go_wp2_with fail
        refine (hIj.out _ _ HV.out HD.out).mono ?_
        rintro _ w5 ⟨rfl, hb⟩
        have H5 := Lib.hid (HW.out.up hb)
        clear hb
        go_wp2_with fail
        go_roundw
        case rel => exact ⟨j + 1, by omega, by go_num, Lib.hid (by have := HC2.out; rwa [Bool.true_and] at this), H5.out⟩
        case measure => simp [intOf]; omega
    · obtain rfl : j = ps.length := by omega
      have hlt' : ¬ ((ps.length : Int) < (ps.length : Int)) := by omega
      have HB := Lib.hid HS.out.1
      have hr : true = R := by rw [← HC.out, List.drop_length]; rfl
      subst hr
      go_wp2
      go_ret
      exact ⟨rfl, HB.out⟩
set_option maxHeartbeats 4000000 in
theorem may_D {D : Nat → Prop} {k : Int} {u : Nat → Int} {ps : List RT} {v : Value} {w : World} (hf : fitsB k ps.length = true) (hk : k ≠ 2) (hzu : zeroU u = false) (hD : ∀ b, D b → b < w.heap.size) (hl : ps.length ≤ 9223372036854775806) (h : RV D w (.mk k u ps) v)
    (hI : Hid (∀ i (hi : i < ps.length) v w, RV D w ps[i] v → (∀ b, D b → b < w.heap.size) → Calls Tryd.prog 32 #[v] w fun e w' => e = .returned (.bool (mayB ps[i])) ∧ Below w.heap.size w w')) :
    Calls Tryd.prog 32 #[v] w fun e w' => e = .returned (.bool false) ∧ Below w.heap.size w w' := by
  obtain ⟨p, c, rfl, hp⟩ := h.parts
  have HP := Lib.hid hp
  have hz := zero27l
  clear h hp
  have S0 := Lib.hid ((Sb.start w).alloc (.cells #[.int .i64 k, .int .u64 (u 0), .int .u64 (u 1), .int .u64 (u 2), .int .u64 (u 3), .slice p ps.length c] 27))
  have hft := Lib.hid fun w => fits_any k ps.length w
  have hnq := neq24g u
  rw [hf] at hft
  rw [hzu] at hnq
  clear hf hzu
  have hk2 : (k != 2) = true := by rw [bne_iff_ne]; exact hk
  go_enter Tryd.func32, Tryd.ntmps32
  go_wp2_with fail
  refine (hft.out _).mono ?_
  rintro _ w9 ⟨rfl, rfl⟩
  go_wp2
  go_ret
  exact ⟨rfl, S0.out.1⟩
theorem may_any {D : Nat → Prop} : ∀ (d : Nat) (t : RT) {v : Value} {w : World}, dep t ≤ d → (∀ b, D b → b < w.heap.size) → wid t ≤ 9223372036854775806 → RV D w t v → Calls Tryd.prog 32 #[v] w fun e w' => e = .returned (.bool (mayB t)) ∧ Below w.heap.size w w'
  | 0, .mk k u ps, v, w, hn, _, _, h => by simp [dep] at hn
  | d + 1, .mk k u ps, v, w, hn, hD, hw, h => by
    obtain ⟨hl, hw2⟩ := wid_mk hw
    have hI : Hid (∀ i (hi : i < ps.length) v w, RV D w ps[i] v → (∀ b, D b → b < w.heap.size) → Calls Tryd.prog 32 #[v] w fun e w' => e = .returned (.bool (mayB ps[i])) ∧ Below w.heap.size w w') := Lib.hid fun i hi v' w' hv hD' =>
      may_any d ps[i] (by have := depL_get ps i hi; simp only [dep] at hn; omega) hD' (hw2 i hi) hv
    rw [mayB]
    cases hf : fitsB k ps.length with
    | false => exact may_A hf hD hl h hI
    | true =>
      by_cases hk : k = 2
      · have := may_B hf hk hD hl h hI
        rw [show (k == 2) = true from by simp [hk]]; simpa using this
      · rw [show (k == 2) = false from by simp [hk]]
        cases hz : zeroU u with
        | false => have := may_D hf hk hz hD hl h hI; simpa using this
        | true => have := may_C hf hk hz hD hl h hI; simpa using this
end Go.Proofs.YtmjojahkbjlcdaaDoor
