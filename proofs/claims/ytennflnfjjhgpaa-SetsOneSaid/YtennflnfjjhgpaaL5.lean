/- SetsOne: the walk. -/
import Derived.Test.YtennflnfjjhgpaaProg
import Derived.Test.YtennflnfjjhgpaaVv
import Derived.Test.YtennflnfjjhgpaaIt
import Derived.WalkKit
import Derived.WalkLawsBesides
import Derived.WalkSpells
import Derived.Outline
import Derived.Lib.Walk
import Derived.Lib.Hide
import Derived.RegionTactic
import Derived.LoopTactic
import Derived.Below
import Derived.IntWalk
import Derived.Deep.RegionHeld3
import Derived.RegionCalls
import Derived.Deep.RegionWith
import Derived.Lib.Slices
import Derived.Lib.Strings
namespace Go.Proofs.Ytennflnfjjhgpaa
set_option linter.unusedSimpArgs false
set_option linter.unusedVariables false
open Go.RowKit

set_option maxHeartbeats 8000000 in
set_option maxRecDepth 100000 in
theorem one_ne (u o t nu : Nat → Int) (n c : Int) (x : Bool) (k : Nat) (P Q : ByteArray) (hPs : P.size ≤ 512) (hQs : Q.size ≤ 512) (hrng : Hid (∀ w, Calls Try.prog 19 #[.int .u8 n, .int .u8 n] w fun e w' => e = .returned (vv o) ∧ Below w.heap.size w w')) (hun : Hid (∀ w, Calls Try.prog 21 #[vv u, vv o] w fun e w' => e = .returned (vv t) ∧ Below w.heap.size w w')) (hco : Hid (∀ w, Calls Try.prog 13 #[vv o] w fun e w' => e = .returned (.int .i64 1) ∧ Below w.heap.size w w')) (hmt : Hid (∀ w, Calls Try.prog 22 #[vv t, vv o] w fun e w' => e = .returned (vv o) ∧ Below w.heap.size w w'))
    (Hp : (Nat → Int) → Int → Bool → Prop) (hH : Hid (∀ x m v, Hp x m v → ∀ w, Calls Try.prog 12 #[vv x, .int .u8 m] w fun e w' => e = .returned (.bool v) ∧ Below w.heap.size w w'))
    (Pp : (Nat → Int) → ByteArray → Prop) (hP : Hid (∀ x p, Pp x p → ∀ w, Calls Try.prog 24 #[vv x] w fun e w' => e = .returned (.string p) ∧ Below w.heap.size w w')) (hnu : Hid (∀ w, Calls Try.prog 23 #[vv u] w fun e w' => e = .returned (vv nu) ∧ Below w.heap.size w w')) (hcu : Hid (∀ w, Calls Try.prog 13 #[vv u] w fun e w' => e = .returned (.int .i64 (k : Nat)) ∧ Below w.heap.size w w'))
    (h1 : Hp t n true) (p1 : Pp u P) (p2 : Pp nu Q) (hne : (c == n) = false) (h2 : Hp t c x) (h3 : Hp u c x)
    (hk : (k < 128 ∧ Q.size = P.size + 1 ∧ bs [91, 94] ++ P.extract 1 P.size = Q) ∨ (128 < k ∧ P.size = Q.size + 1 ∧ bs [91, 94] ++ Q.extract 1 Q.size = P) ∨ k = 128) (hP1 : 1 ≤ P.size) (hQ1 : 1 ≤ Q.size) (w : World) :
    Calls Try.prog 10 #[vv u, .int .u8 n, .int .u8 c] w fun e w' => e = .returned (.bool true) ∧ Below w.heap.size w w' := by
  have hne2 : (c != n) = true := by rw [bne, hne]; rfl
  have S0 := Lib.hid ((Sb.start w).alloc (.cells (vc u) 24))
  have hal := Lib.hid alive_any
  have heq := eq24
  go_enter Try.func10, Try.ntmps10
  go_wp2_with fail
  refine (hrng.out _).mono ?_
  rintro _ w1 ⟨rfl, hb⟩
  have HS1 := Lib.hid ((S0.out.up hb).alloc (.cells (vc o) 24))
  have HS1b := Lib.hid (S0.out.up hb)
  have c0_0 := HS1b.out.vw 0 (by omega); have c0_1 := HS1b.out.vw 1 (by omega); have c0_2 := HS1b.out.vw 2 (by omega); have c0_3 := HS1b.out.vw 3 (by omega); have zc0 := HS1b.out.lt
  clear hb S0 HS1b
  go_wp2_with fail
  refine (hun.out _).mono ?_
  rintro _ w2 ⟨rfl, hb⟩
  have HS2b := Lib.hid (HS1.out.up hb)
  have HS2 := Lib.hid ((HS1.out.up hb).alloc (.cells (vc t) 24))
  clear c0_0 c0_1 c0_2 c0_3 zc0
  clear hb HS1 HS2b
  generalize w1.heap.size = b1 at *
  go_wp2_with fail
  generalize hb2 : w2.heap.size = b2 at *
  clear hb2
  go_region_held3 (fun w' => w'.cell? ⟨b2, 0, none⟩ = some (.int .u64 (t 0)) ∧ w'.cell? ⟨b2, 1, none⟩ = some (.int .u64 (t 1)) ∧ w'.cell? ⟨b2, 2, none⟩ = some (.int .u64 (t 2)) ∧ w'.cell? ⟨b2, 3, none⟩ = some (.int .u64 (t 3)) ∧ b2 < w'.heap.size ∧ w'.cell? ⟨b1, 0, none⟩ = some (.int .u64 (o 0)) ∧ w'.cell? ⟨b1, 1, none⟩ = some (.int .u64 (o 1)) ∧ w'.cell? ⟨b1, 2, none⟩ = some (.int .u64 (o 2)) ∧ w'.cell? ⟨b1, 3, none⟩ = some (.int .u64 (o 3)) ∧ b1 < w'.heap.size ∧ w'.cell? ⟨w.heap.size, 0, none⟩ = some (.int .u64 (u 0)) ∧ w'.cell? ⟨w.heap.size, 1, none⟩ = some (.int .u64 (u 1)) ∧ w'.cell? ⟨w.heap.size, 2, none⟩ = some (.int .u64 (u 2)) ∧ w'.cell? ⟨w.heap.size, 3, none⟩ = some (.int .u64 (u 3)) ∧ w.heap.size < w'.heap.size ∧ Sb w w' [(b2, .cells (vc t) 24), (b1, .cells (vc o) 24), (w.heap.size, .cells (vc u) 24)])
    (first | assumption | exact mv3 HS2.out.drew | exact mv3 HS2.out | exact kv3 (by assumption) hb | exact kv3 (by assumption) ((Below.refl _ _).alloc (Nat.le_refl _) _))
    (first | (go_at_call 12; refine (hH.out _ _ _ (by assumption) _).mono ?_; rintro _ w' ⟨rfl, hb⟩) | (go_at_call 13; refine (hco.out _).mono ?_; rintro _ w' ⟨rfl, hb⟩) | (go_at_call 22; refine (hmt.out _).mono ?_; rintro _ w' ⟨rfl, hb⟩))
  have HS3 := Lib.hid (uv3 (by assumption))
  clear hb HS2
  rename_i hh
  clear hh
  go_wp2_with fail
  go_region_held3 (fun w' => w'.cell? ⟨b2, 0, none⟩ = some (.int .u64 (t 0)) ∧ w'.cell? ⟨b2, 1, none⟩ = some (.int .u64 (t 1)) ∧ w'.cell? ⟨b2, 2, none⟩ = some (.int .u64 (t 2)) ∧ w'.cell? ⟨b2, 3, none⟩ = some (.int .u64 (t 3)) ∧ b2 < w'.heap.size ∧ w'.cell? ⟨b1, 0, none⟩ = some (.int .u64 (o 0)) ∧ w'.cell? ⟨b1, 1, none⟩ = some (.int .u64 (o 1)) ∧ w'.cell? ⟨b1, 2, none⟩ = some (.int .u64 (o 2)) ∧ w'.cell? ⟨b1, 3, none⟩ = some (.int .u64 (o 3)) ∧ b1 < w'.heap.size ∧ w'.cell? ⟨w.heap.size, 0, none⟩ = some (.int .u64 (u 0)) ∧ w'.cell? ⟨w.heap.size, 1, none⟩ = some (.int .u64 (u 1)) ∧ w'.cell? ⟨w.heap.size, 2, none⟩ = some (.int .u64 (u 2)) ∧ w'.cell? ⟨w.heap.size, 3, none⟩ = some (.int .u64 (u 3)) ∧ w.heap.size < w'.heap.size ∧ Sb w w' [(b2, .cells (vc t) 24), (b1, .cells (vc o) 24), (w.heap.size, .cells (vc u) 24)])
    (first | assumption | exact mv3 HS3.out.drew | exact mv3 HS3.out | exact kv3 (by assumption) hb | exact kv3 (by assumption) ((Below.refl _ _).alloc (Nat.le_refl _) _))
    (first | (go_at_call 24; refine (hP.out _ _ (by assumption) _).mono ?_; rintro _ w' ⟨rfl, hb⟩) | (go_at_call 23; refine (hnu.out _).mono ?_; rintro _ w' ⟨rfl, hb⟩))
  have HS4 := Lib.hid (uv3 (by assumption))
  clear hb HS3
  rename_i hh
  clear hh
  have c0_0 := HS4.out.vw 0 (by omega); have c0_1 := HS4.out.vw 1 (by omega); have c0_2 := HS4.out.vw 2 (by omega); have c0_3 := HS4.out.vw 3 (by omega); have zc0 := HS4.out.lt
  have c1_0 := HS4.out.tl.vw 0 (by omega); have c1_1 := HS4.out.tl.vw 1 (by omega); have c1_2 := HS4.out.tl.vw 2 (by omega); have c1_3 := HS4.out.tl.vw 3 (by omega); have zc1 := HS4.out.tl.lt
  have c2_0 := HS4.out.tl.tl.vw 0 (by omega); have c2_1 := HS4.out.tl.tl.vw 1 (by omega); have c2_2 := HS4.out.tl.tl.vw 2 (by omega); have c2_3 := HS4.out.tl.tl.vw 3 (by omega); have zc2 := HS4.out.tl.tl.lt
  go_wp2_with fail
  refine (hcu.out _).mono ?_
  rintro _ w5 ⟨rfl, hb⟩
  have HS5 := Lib.hid (HS4.out.up hb)
  clear c0_0 c0_1 c0_2 c0_3 c1_0 c1_1 c1_2 c1_3 c2_0 c2_1 c2_2 c2_3 zc0 zc1 zc2
  clear hb HS4
  rcases hk with ⟨hk1, hs, hq⟩ | ⟨hk1, hs, hq⟩ | hk1
  · have hk2 : (k : Int) < 128 := by omega
    have hsz : ((Q.size : Int) == ((P.size : Int) + 1)) = true := by rw [beq_iff_eq]; omega
    have hps : 1 ≤ P.size := by omega
    have z1 : ¬ 9223372036854775807 < 2 + (P.extract 1 P.size).size := by simp; omega
    go_wp2_with fail
    refine (hal.out _).mono ?_
    rintro _ w6 ⟨rfl, hb⟩
    have HS6 := Lib.hid (HS5.out.up hb)
    clear hb
    go_wp2
    go_ret
    exact ⟨rfl, HS6.out.1⟩
  · have hk2 : ¬ (k : Int) < 128 := by omega
    have hk3 : (128 : Int) < (k : Int) := by omega
    have hsz : ((P.size : Int) == ((Q.size : Int) + 1)) = true := by rw [beq_iff_eq]; omega
    have hps : 1 ≤ Q.size := by omega
    have z1 : ¬ 9223372036854775807 < 2 + (Q.extract 1 Q.size).size := by simp; omega
    have c0_0 := HS5.out.vw 0 (by omega); have c0_1 := HS5.out.vw 1 (by omega); have c0_2 := HS5.out.vw 2 (by omega); have c0_3 := HS5.out.vw 3 (by omega); have zc0 := HS5.out.lt
    have c1_0 := HS5.out.tl.vw 0 (by omega); have c1_1 := HS5.out.tl.vw 1 (by omega); have c1_2 := HS5.out.tl.vw 2 (by omega); have c1_3 := HS5.out.tl.vw 3 (by omega); have zc1 := HS5.out.tl.lt
    have c2_0 := HS5.out.tl.tl.vw 0 (by omega); have c2_1 := HS5.out.tl.tl.vw 1 (by omega); have c2_2 := HS5.out.tl.tl.vw 2 (by omega); have c2_3 := HS5.out.tl.tl.vw 3 (by omega); have zc2 := HS5.out.tl.tl.lt
    go_wp2_with fail
    refine (hcu.out _).mono ?_
    rintro _ w6 ⟨rfl, hb⟩
    have HS6 := Lib.hid (HS5.out.up hb)
    clear c0_0 c0_1 c0_2 c0_3 c1_0 c1_1 c1_2 c1_3 c2_0 c2_1 c2_2 c2_3 zc0 zc1 zc2
    clear hb
    go_wp2_with fail
    refine (hal.out _).mono ?_
    rintro _ w7 ⟨rfl, hb⟩
    have HS7 := Lib.hid (HS6.out.up hb)
    clear hb
    go_wp2
    go_ret
    exact ⟨rfl, HS7.out.1⟩
  · have hk2 : ¬ (k : Int) < 128 := by omega
    have hk3 : ¬ (128 : Int) < (k : Int) := by omega
    have c0_0 := HS5.out.vw 0 (by omega); have c0_1 := HS5.out.vw 1 (by omega); have c0_2 := HS5.out.vw 2 (by omega); have c0_3 := HS5.out.vw 3 (by omega); have zc0 := HS5.out.lt
    have c1_0 := HS5.out.tl.vw 0 (by omega); have c1_1 := HS5.out.tl.vw 1 (by omega); have c1_2 := HS5.out.tl.vw 2 (by omega); have c1_3 := HS5.out.tl.vw 3 (by omega); have zc1 := HS5.out.tl.lt
    have c2_0 := HS5.out.tl.tl.vw 0 (by omega); have c2_1 := HS5.out.tl.tl.vw 1 (by omega); have c2_2 := HS5.out.tl.tl.vw 2 (by omega); have c2_3 := HS5.out.tl.tl.vw 3 (by omega); have zc2 := HS5.out.tl.tl.lt
    go_wp2_with fail
    refine (hcu.out _).mono ?_
    rintro _ w6 ⟨rfl, hb⟩
    have HS6 := Lib.hid (HS5.out.up hb)
    clear c0_0 c0_1 c0_2 c0_3 c1_0 c1_1 c1_2 c1_3 c2_0 c2_1 c2_2 c2_3 zc0 zc1 zc2
    clear hb
    go_wp2_with fail
    refine (hal.out _).mono ?_
    rintro _ w7 ⟨rfl, hb⟩
    have HS7 := Lib.hid (HS6.out.up hb)
    clear hb
    go_wp2
    go_ret
    exact ⟨rfl, HS7.out.1⟩
set_option maxHeartbeats 8000000 in
set_option maxRecDepth 100000 in
theorem one_eq (u o t nu : Nat → Int) (n : Int) (k : Nat) (P Q : ByteArray) (hPs : P.size ≤ 512) (hQs : Q.size ≤ 512) (hrng : Hid (∀ w, Calls Try.prog 19 #[.int .u8 n, .int .u8 n] w fun e w' => e = .returned (vv o) ∧ Below w.heap.size w w')) (hun : Hid (∀ w, Calls Try.prog 21 #[vv u, vv o] w fun e w' => e = .returned (vv t) ∧ Below w.heap.size w w')) (hco : Hid (∀ w, Calls Try.prog 13 #[vv o] w fun e w' => e = .returned (.int .i64 1) ∧ Below w.heap.size w w')) (hmt : Hid (∀ w, Calls Try.prog 22 #[vv t, vv o] w fun e w' => e = .returned (vv o) ∧ Below w.heap.size w w'))
    (Hp : (Nat → Int) → Int → Bool → Prop) (hH : Hid (∀ x m v, Hp x m v → ∀ w, Calls Try.prog 12 #[vv x, .int .u8 m] w fun e w' => e = .returned (.bool v) ∧ Below w.heap.size w w'))
    (Pp : (Nat → Int) → ByteArray → Prop) (hP : Hid (∀ x p, Pp x p → ∀ w, Calls Try.prog 24 #[vv x] w fun e w' => e = .returned (.string p) ∧ Below w.heap.size w w')) (hnu : Hid (∀ w, Calls Try.prog 23 #[vv u] w fun e w' => e = .returned (vv nu) ∧ Below w.heap.size w w')) (hcu : Hid (∀ w, Calls Try.prog 13 #[vv u] w fun e w' => e = .returned (.int .i64 (k : Nat)) ∧ Below w.heap.size w w'))
    (h1 : Hp t n true) (p1 : Pp u P) (p2 : Pp nu Q) 
    (hk : (k < 128 ∧ Q.size = P.size + 1 ∧ bs [91, 94] ++ P.extract 1 P.size = Q) ∨ (128 < k ∧ P.size = Q.size + 1 ∧ bs [91, 94] ++ Q.extract 1 Q.size = P) ∨ k = 128) (hP1 : 1 ≤ P.size) (hQ1 : 1 ≤ Q.size) (w : World) :
    Calls Try.prog 10 #[vv u, .int .u8 n, .int .u8 n] w fun e w' => e = .returned (.bool true) ∧ Below w.heap.size w w' := by
  have S0 := Lib.hid ((Sb.start w).alloc (.cells (vc u) 24))
  have hal := Lib.hid alive_any
  have heq := eq24
  go_enter Try.func10, Try.ntmps10
  go_wp2_with fail
  refine (hrng.out _).mono ?_
  rintro _ w1 ⟨rfl, hb⟩
  have HS1 := Lib.hid ((S0.out.up hb).alloc (.cells (vc o) 24))
  have HS1b := Lib.hid (S0.out.up hb)
  have c0_0 := HS1b.out.vw 0 (by omega); have c0_1 := HS1b.out.vw 1 (by omega); have c0_2 := HS1b.out.vw 2 (by omega); have c0_3 := HS1b.out.vw 3 (by omega); have zc0 := HS1b.out.lt
  clear hb S0 HS1b
  go_wp2_with fail
  refine (hun.out _).mono ?_
  rintro _ w2 ⟨rfl, hb⟩
  have HS2b := Lib.hid (HS1.out.up hb)
  have HS2 := Lib.hid ((HS1.out.up hb).alloc (.cells (vc t) 24))
  clear c0_0 c0_1 c0_2 c0_3 zc0
  clear hb HS1 HS2b
  generalize w1.heap.size = b1 at *
  go_wp2_with fail
  generalize hb2 : w2.heap.size = b2 at *
  clear hb2
  refine wp_region_held_drew (S := fun w' => w'.cell? ⟨b2, 0, none⟩ = some (.int .u64 (t 0)) ∧ w'.cell? ⟨b2, 1, none⟩ = some (.int .u64 (t 1)) ∧ w'.cell? ⟨b2, 2, none⟩ = some (.int .u64 (t 2)) ∧ w'.cell? ⟨b2, 3, none⟩ = some (.int .u64 (t 3)) ∧ b2 < w'.heap.size ∧ w'.cell? ⟨b1, 0, none⟩ = some (.int .u64 (o 0)) ∧ w'.cell? ⟨b1, 1, none⟩ = some (.int .u64 (o 1)) ∧ w'.cell? ⟨b1, 2, none⟩ = some (.int .u64 (o 2)) ∧ w'.cell? ⟨b1, 3, none⟩ = some (.int .u64 (o 3)) ∧ b1 < w'.heap.size ∧ w'.cell? ⟨w.heap.size, 0, none⟩ = some (.int .u64 (u 0)) ∧ w'.cell? ⟨w.heap.size, 1, none⟩ = some (.int .u64 (u 1)) ∧ w'.cell? ⟨w.heap.size, 2, none⟩ = some (.int .u64 (u 2)) ∧ w'.cell? ⟨w.heap.size, 3, none⟩ = some (.int .u64 (u 3)) ∧ w.heap.size < w'.heap.size ∧ Sb w w' [(b2, .cells (vc t) 24), (b1, .cells (vc o) 24), (w.heap.size, .cells (vc u) 24)]) (by kernel_rfl) (mv3 HS2.out.drew) (fun hHeld => ?_)
  refine wpAnyH_take (i := 0) (v := .agg #[.int .u64 (t 0), .int .u64 (t 1), .int .u64 (t 2), .int .u64 (t 3)]) rfl (by kernel_rfl) (by kernel_rfl) (by kernel_rfl) (fun _ _ _ h => h) (Or.inl ⟨by rfl, by (intro w hSw; (try dsimp only at hSw); go_simp)⟩) (by assumption) ?_
  (try simp only [Act.put, List.getElem_toArray, List.getElem_cons_zero, List.getElem_cons_succ, List.setIfInBounds_toArray, List.set_cons_zero, List.set_cons_succ])
  refine wpAnyH_take (i := 1) (v := .int .u8 n) rfl (by kernel_rfl) (by kernel_rfl) (by kernel_rfl) (fun _ _ _ h => h) (Or.inl ⟨by rfl, by (intro w hSw; (try dsimp only at hSw); go_simp)⟩) (by assumption) ?_
  (try simp only [Act.put, List.getElem_toArray, List.getElem_cons_zero, List.getElem_cons_succ, List.setIfInBounds_toArray, List.set_cons_zero, List.set_cons_succ])
  refine wpAnyH_ready (rs := [2]) (by kernel_rfl) (by simp) ?_
  refine AllReadyH.cons rfl (fun K hK => ?_) (AllReadyH.nil)
  rw [if_pos (by rfl)]
  go_wp2_with fail
  refine (hH.out _ _ _ h1 _).mono ?_
  rintro _ w' ⟨rfl, hb⟩
  refine hK.out _ _ (kv3 (by assumption) hb) (fun hHeld2 => ?_)
  clear hHeld hb hK
  have hHeld := hHeld2
  (try simp only [Act.put, List.getElem_toArray, List.getElem_cons_zero, List.getElem_cons_succ, List.setIfInBounds_toArray, List.set_cons_zero, List.set_cons_succ])
  refine wpAnyH_take (i := 3) (v := .bool false) rfl (by kernel_rfl) (by kernel_rfl) (by kernel_rfl) (fun _ _ _ h => h) (Or.inl ⟨by rfl, by (intro w hSw; (try dsimp only at hSw); go_simp)⟩) (by assumption) ?_
  (try simp only [Act.put, List.getElem_toArray, List.getElem_cons_zero, List.getElem_cons_succ, List.setIfInBounds_toArray, List.set_cons_zero, List.set_cons_succ])
  refine wpAnyH_take (i := 4) (v := .bool false) rfl (by kernel_rfl) (by kernel_rfl) (by kernel_rfl) (fun _ _ _ h => h) (Or.inl ⟨by rfl, by (intro w hSw; (try dsimp only at hSw); go_simp)⟩) (by assumption) ?_
  (try simp only [Act.put, List.getElem_toArray, List.getElem_cons_zero, List.getElem_cons_succ, List.setIfInBounds_toArray, List.set_cons_zero, List.set_cons_succ])
  refine wpAnyH_take (i := 5) (v := .int .u8 n) rfl (by kernel_rfl) (by kernel_rfl) (by kernel_rfl) (fun _ _ _ h => h) (Or.inl ⟨by rfl, by (intro w hSw; (try dsimp only at hSw); go_simp)⟩) (by assumption) ?_
  (try simp only [Act.put, List.getElem_toArray, List.getElem_cons_zero, List.getElem_cons_succ, List.setIfInBounds_toArray, List.set_cons_zero, List.set_cons_succ])
  refine wpAnyH_take (i := 6) (v := .int .u8 n) rfl (by kernel_rfl) (by kernel_rfl) (by kernel_rfl) (fun _ _ _ h => h) (Or.inl ⟨by rfl, by (intro w hSw; (try dsimp only at hSw); go_simp)⟩) (by assumption) ?_
  (try simp only [Act.put, List.getElem_toArray, List.getElem_cons_zero, List.getElem_cons_succ, List.setIfInBounds_toArray, List.set_cons_zero, List.set_cons_succ])
  refine wpAnyH_take (i := 7) (v := .bool false) rfl (by kernel_rfl) (by kernel_rfl) (by kernel_rfl) (fun _ _ _ h => h) (Or.inl ⟨by rfl, by (intro w hSw; (try dsimp only at hSw); go_simp)⟩) (by assumption) ?_
  (try simp only [Act.put, List.getElem_toArray, List.getElem_cons_zero, List.getElem_cons_succ, List.setIfInBounds_toArray, List.set_cons_zero, List.set_cons_succ])
  refine wpAnyH_take (i := 8) (v := .bool false) rfl (by kernel_rfl) (by kernel_rfl) (by kernel_rfl) (fun _ _ _ h => h) (Or.inl ⟨by rfl, by (intro w hSw; (try dsimp only at hSw); go_simp)⟩) (by assumption) ?_
  (try simp only [Act.put, List.getElem_toArray, List.getElem_cons_zero, List.getElem_cons_succ, List.setIfInBounds_toArray, List.set_cons_zero, List.set_cons_succ])
  refine wpAnyH_take (i := 9) (v := undef) rfl (by kernel_rfl) (by kernel_rfl) (by kernel_rfl) (fun _ _ _ h => h) (Or.inr ⟨by rfl, rfl⟩) (by assumption) ?_
  (try simp only [Act.put, List.getElem_toArray, List.getElem_cons_zero, List.getElem_cons_succ, List.setIfInBounds_toArray, List.set_cons_zero, List.set_cons_succ])
  refine wpAnyH_take (i := 10) (v := undef) rfl (by kernel_rfl) (by kernel_rfl) (by kernel_rfl) (fun _ _ _ h => h) (Or.inr ⟨by rfl, rfl⟩) (by assumption) ?_
  (try simp only [Act.put, List.getElem_toArray, List.getElem_cons_zero, List.getElem_cons_succ, List.setIfInBounds_toArray, List.set_cons_zero, List.set_cons_succ])
  refine wpAnyH_take (i := 11) (v := undef) rfl (by kernel_rfl) (by kernel_rfl) (by kernel_rfl) (fun _ _ _ h => h) (Or.inr ⟨by rfl, rfl⟩) (by assumption) ?_
  (try simp only [Act.put, List.getElem_toArray, List.getElem_cons_zero, List.getElem_cons_succ, List.setIfInBounds_toArray, List.set_cons_zero, List.set_cons_succ])
  refine wpAnyH_take (i := 12) (v := undef) rfl (by kernel_rfl) (by kernel_rfl) (by kernel_rfl) (fun _ _ _ h => h) (Or.inr ⟨by rfl, rfl⟩) (by assumption) ?_
  (try simp only [Act.put, List.getElem_toArray, List.getElem_cons_zero, List.getElem_cons_succ, List.setIfInBounds_toArray, List.set_cons_zero, List.set_cons_succ])
  refine wpAnyH_take (i := 13) (v := undef) rfl (by kernel_rfl) (by kernel_rfl) (by kernel_rfl) (fun _ _ _ h => h) (Or.inr ⟨by rfl, rfl⟩) (by assumption) ?_
  (try simp only [Act.put, List.getElem_toArray, List.getElem_cons_zero, List.getElem_cons_succ, List.setIfInBounds_toArray, List.set_cons_zero, List.set_cons_succ])
  refine wpAnyH_take (i := 14) (v := undef) rfl (by kernel_rfl) (by kernel_rfl) (by kernel_rfl) (fun _ _ _ h => h) (Or.inr ⟨by rfl, rfl⟩) (by assumption) ?_
  (try simp only [Act.put, List.getElem_toArray, List.getElem_cons_zero, List.getElem_cons_succ, List.setIfInBounds_toArray, List.set_cons_zero, List.set_cons_succ])
  refine wpAnyH_take (i := 15) (v := undef) rfl (by kernel_rfl) (by kernel_rfl) (by kernel_rfl) (fun _ _ _ h => h) (Or.inr ⟨by rfl, rfl⟩) (by assumption) ?_
  (try simp only [Act.put, List.getElem_toArray, List.getElem_cons_zero, List.getElem_cons_succ, List.setIfInBounds_toArray, List.set_cons_zero, List.set_cons_succ])
  refine wpAnyH_take (i := 16) (v := .bool false) rfl (by kernel_rfl) (by kernel_rfl) (by kernel_rfl) (fun _ _ _ h => h) (Or.inl ⟨by rfl, by (intro w hSw; (try dsimp only at hSw); go_simp)⟩) (by assumption) ?_
  (try simp only [Act.put, List.getElem_toArray, List.getElem_cons_zero, List.getElem_cons_succ, List.setIfInBounds_toArray, List.set_cons_zero, List.set_cons_succ])
  refine wpAnyH_take (i := 17) (v := .bool false) rfl (by kernel_rfl) (by kernel_rfl) (by kernel_rfl) (fun _ _ _ h => h) (Or.inl ⟨by rfl, by (intro w hSw; (try dsimp only at hSw); go_simp)⟩) (by assumption) ?_
  (try simp only [Act.put, List.getElem_toArray, List.getElem_cons_zero, List.getElem_cons_succ, List.setIfInBounds_toArray, List.set_cons_zero, List.set_cons_succ])
  refine wpAnyH_take (i := 18) (v := .bool false) rfl (by kernel_rfl) (by kernel_rfl) (by kernel_rfl) (fun _ _ _ h => h) (Or.inl ⟨by rfl, by (intro w hSw; (try dsimp only at hSw); go_simp)⟩) (by assumption) ?_
  (try simp only [Act.put, List.getElem_toArray, List.getElem_cons_zero, List.getElem_cons_succ, List.setIfInBounds_toArray, List.set_cons_zero, List.set_cons_succ])
  refine wpAnyH_take (i := 19) (v := .agg #[.int .u64 (o 0), .int .u64 (o 1), .int .u64 (o 2), .int .u64 (o 3)]) rfl (by kernel_rfl) (by kernel_rfl) (by kernel_rfl) (fun _ _ _ h => h) (Or.inl ⟨by rfl, by (intro w hSw; (try dsimp only at hSw); go_simp)⟩) (by assumption) ?_
  (try simp only [Act.put, List.getElem_toArray, List.getElem_cons_zero, List.getElem_cons_succ, List.setIfInBounds_toArray, List.set_cons_zero, List.set_cons_succ])
  refine wpAnyH_ready (rs := [20]) (by kernel_rfl) (by simp) ?_
  refine AllReadyH.cons rfl (fun K hK => ?_) (AllReadyH.nil)
  rw [if_pos (by rfl)]
  go_wp2_with fail
  refine (hco.out _).mono ?_
  rintro _ w' ⟨rfl, hb⟩
  refine hK.out _ _ (kv3 (by assumption) hb) (fun hHeld2 => ?_)
  clear hHeld hb hK
  have hHeld := hHeld2
  (try simp only [Act.put, List.getElem_toArray, List.getElem_cons_zero, List.getElem_cons_succ, List.setIfInBounds_toArray, List.set_cons_zero, List.set_cons_succ])
  refine wpAnyH_take (i := 21) (v := .bool false) rfl (by kernel_rfl) (by kernel_rfl) (by kernel_rfl) (fun _ _ _ h => h) (Or.inl ⟨by rfl, by (intro w hSw; (try dsimp only at hSw); go_simp)⟩) (by assumption) ?_
  (try simp only [Act.put, List.getElem_toArray, List.getElem_cons_zero, List.getElem_cons_succ, List.setIfInBounds_toArray, List.set_cons_zero, List.set_cons_succ])
  refine wpAnyH_take (i := 22) (v := .bool false) rfl (by kernel_rfl) (by kernel_rfl) (by kernel_rfl) (fun _ _ _ h => h) (Or.inl ⟨by rfl, by (intro w hSw; (try dsimp only at hSw); go_simp)⟩) (by assumption) ?_
  (try simp only [Act.put, List.getElem_toArray, List.getElem_cons_zero, List.getElem_cons_succ, List.setIfInBounds_toArray, List.set_cons_zero, List.set_cons_succ])
  refine wpAnyH_take (i := 23) (v := .bool false) rfl (by kernel_rfl) (by kernel_rfl) (by kernel_rfl) (fun _ _ _ h => h) (Or.inl ⟨by rfl, by (intro w hSw; (try dsimp only at hSw); go_simp)⟩) (by assumption) ?_
  (try simp only [Act.put, List.getElem_toArray, List.getElem_cons_zero, List.getElem_cons_succ, List.setIfInBounds_toArray, List.set_cons_zero, List.set_cons_succ])
  refine wpAnyH_take (i := 24) (v := .agg #[.int .u64 (t 0), .int .u64 (t 1), .int .u64 (t 2), .int .u64 (t 3)]) rfl (by kernel_rfl) (by kernel_rfl) (by kernel_rfl) (fun _ _ _ h => h) (Or.inl ⟨by rfl, by (intro w hSw; (try dsimp only at hSw); go_simp)⟩) (by assumption) ?_
  (try simp only [Act.put, List.getElem_toArray, List.getElem_cons_zero, List.getElem_cons_succ, List.setIfInBounds_toArray, List.set_cons_zero, List.set_cons_succ])
  refine wpAnyH_take (i := 25) (v := .agg #[.int .u64 (o 0), .int .u64 (o 1), .int .u64 (o 2), .int .u64 (o 3)]) rfl (by kernel_rfl) (by kernel_rfl) (by kernel_rfl) (fun _ _ _ h => h) (Or.inl ⟨by rfl, by (intro w hSw; (try dsimp only at hSw); go_simp)⟩) (by assumption) ?_
  (try simp only [Act.put, List.getElem_toArray, List.getElem_cons_zero, List.getElem_cons_succ, List.setIfInBounds_toArray, List.set_cons_zero, List.set_cons_succ])
  refine wpAnyH_take (i := 27) (v := .agg #[.int .u64 (o 0), .int .u64 (o 1), .int .u64 (o 2), .int .u64 (o 3)]) rfl (by kernel_rfl) (by kernel_rfl) (by kernel_rfl) (fun _ _ _ h => h) (Or.inl ⟨by rfl, by (intro w hSw; (try dsimp only at hSw); go_simp)⟩) (by assumption) ?_
  (try simp only [Act.put, List.getElem_toArray, List.getElem_cons_zero, List.getElem_cons_succ, List.setIfInBounds_toArray, List.set_cons_zero, List.set_cons_succ])
  refine wpAnyH_ready (rs := [26]) (by kernel_rfl) (by simp) ?_
  refine AllReadyH.cons rfl (fun K hK => ?_) (AllReadyH.nil)
  rw [if_pos (by rfl)]
  go_wp2_with fail
  refine (hmt.out _).mono ?_
  rintro _ w' ⟨rfl, hb⟩
  refine hK.out _ _ (kv3 (by assumption) hb) (fun hHeld2 => ?_)
  clear hHeld hb hK
  have hHeld := hHeld2
  (try simp only [Act.put, List.getElem_toArray, List.getElem_cons_zero, List.getElem_cons_succ, List.setIfInBounds_toArray, List.set_cons_zero, List.set_cons_succ])
  refine wpAnyH_take (i := 28) (v := .bool false) rfl (by kernel_rfl) (by kernel_rfl) (by kernel_rfl) (fun _ _ _ h => h) (Or.inl ⟨by rfl, by (intro w hSw; (try dsimp only at hSw); go_simp)⟩) (by assumption) ?_
  (try simp only [Act.put, List.getElem_toArray, List.getElem_cons_zero, List.getElem_cons_succ, List.setIfInBounds_toArray, List.set_cons_zero, List.set_cons_succ])
  refine wpAnyH_take (i := 29) (v := .bool false) rfl (by kernel_rfl) (by kernel_rfl) (by kernel_rfl) (fun _ _ _ h => h) (Or.inl ⟨by rfl, by (intro w hSw; (try dsimp only at hSw); go_simp)⟩) (by assumption) ?_
  (try simp only [Act.put, List.getElem_toArray, List.getElem_cons_zero, List.getElem_cons_succ, List.setIfInBounds_toArray, List.set_cons_zero, List.set_cons_succ])
  refine wpAnyH_done (by kernel_rfl) ?_ _
  have HS3 := Lib.hid (uv3 (by assumption))
  clear HS2
  go_wp2_with fail
  go_region_held3 (fun w' => w'.cell? ⟨b2, 0, none⟩ = some (.int .u64 (t 0)) ∧ w'.cell? ⟨b2, 1, none⟩ = some (.int .u64 (t 1)) ∧ w'.cell? ⟨b2, 2, none⟩ = some (.int .u64 (t 2)) ∧ w'.cell? ⟨b2, 3, none⟩ = some (.int .u64 (t 3)) ∧ b2 < w'.heap.size ∧ w'.cell? ⟨b1, 0, none⟩ = some (.int .u64 (o 0)) ∧ w'.cell? ⟨b1, 1, none⟩ = some (.int .u64 (o 1)) ∧ w'.cell? ⟨b1, 2, none⟩ = some (.int .u64 (o 2)) ∧ w'.cell? ⟨b1, 3, none⟩ = some (.int .u64 (o 3)) ∧ b1 < w'.heap.size ∧ w'.cell? ⟨w.heap.size, 0, none⟩ = some (.int .u64 (u 0)) ∧ w'.cell? ⟨w.heap.size, 1, none⟩ = some (.int .u64 (u 1)) ∧ w'.cell? ⟨w.heap.size, 2, none⟩ = some (.int .u64 (u 2)) ∧ w'.cell? ⟨w.heap.size, 3, none⟩ = some (.int .u64 (u 3)) ∧ w.heap.size < w'.heap.size ∧ Sb w w' [(b2, .cells (vc t) 24), (b1, .cells (vc o) 24), (w.heap.size, .cells (vc u) 24)])
    (first | assumption | exact mv3 HS3.out.drew | exact mv3 HS3.out | exact kv3 (by assumption) hb | exact kv3 (by assumption) ((Below.refl _ _).alloc (Nat.le_refl _) _))
    (first | (go_at_call 24; refine (hP.out _ _ (by assumption) _).mono ?_; rintro _ w' ⟨rfl, hb⟩) | (go_at_call 23; refine (hnu.out _).mono ?_; rintro _ w' ⟨rfl, hb⟩))
  have HS4 := Lib.hid (uv3 (by assumption))
  clear hb HS3
  rename_i hh
  clear hh
  have c0_0 := HS4.out.vw 0 (by omega); have c0_1 := HS4.out.vw 1 (by omega); have c0_2 := HS4.out.vw 2 (by omega); have c0_3 := HS4.out.vw 3 (by omega); have zc0 := HS4.out.lt
  have c1_0 := HS4.out.tl.vw 0 (by omega); have c1_1 := HS4.out.tl.vw 1 (by omega); have c1_2 := HS4.out.tl.vw 2 (by omega); have c1_3 := HS4.out.tl.vw 3 (by omega); have zc1 := HS4.out.tl.lt
  have c2_0 := HS4.out.tl.tl.vw 0 (by omega); have c2_1 := HS4.out.tl.tl.vw 1 (by omega); have c2_2 := HS4.out.tl.tl.vw 2 (by omega); have c2_3 := HS4.out.tl.tl.vw 3 (by omega); have zc2 := HS4.out.tl.tl.lt
  go_wp2_with fail
  refine (hcu.out _).mono ?_
  rintro _ w5 ⟨rfl, hb⟩
  have HS5 := Lib.hid (HS4.out.up hb)
  clear c0_0 c0_1 c0_2 c0_3 c1_0 c1_1 c1_2 c1_3 c2_0 c2_1 c2_2 c2_3 zc0 zc1 zc2
  clear hb HS4
  rcases hk with ⟨hk1, hs, hq⟩ | ⟨hk1, hs, hq⟩ | hk1
  · have hk2 : (k : Int) < 128 := by omega
    have hsz : ((Q.size : Int) == ((P.size : Int) + 1)) = true := by rw [beq_iff_eq]; omega
    have hps : 1 ≤ P.size := by omega
    have z1 : ¬ 9223372036854775807 < 2 + (P.extract 1 P.size).size := by simp; omega
    go_wp2_with fail
    refine (hal.out _).mono ?_
    rintro _ w6 ⟨rfl, hb⟩
    have HS6 := Lib.hid (HS5.out.up hb)
    clear hb
    go_wp2
    go_ret
    exact ⟨rfl, HS6.out.1⟩
  · have hk2 : ¬ (k : Int) < 128 := by omega
    have hk3 : (128 : Int) < (k : Int) := by omega
    have hsz : ((P.size : Int) == ((Q.size : Int) + 1)) = true := by rw [beq_iff_eq]; omega
    have hps : 1 ≤ Q.size := by omega
    have z1 : ¬ 9223372036854775807 < 2 + (Q.extract 1 Q.size).size := by simp; omega
    have c0_0 := HS5.out.vw 0 (by omega); have c0_1 := HS5.out.vw 1 (by omega); have c0_2 := HS5.out.vw 2 (by omega); have c0_3 := HS5.out.vw 3 (by omega); have zc0 := HS5.out.lt
    have c1_0 := HS5.out.tl.vw 0 (by omega); have c1_1 := HS5.out.tl.vw 1 (by omega); have c1_2 := HS5.out.tl.vw 2 (by omega); have c1_3 := HS5.out.tl.vw 3 (by omega); have zc1 := HS5.out.tl.lt
    have c2_0 := HS5.out.tl.tl.vw 0 (by omega); have c2_1 := HS5.out.tl.tl.vw 1 (by omega); have c2_2 := HS5.out.tl.tl.vw 2 (by omega); have c2_3 := HS5.out.tl.tl.vw 3 (by omega); have zc2 := HS5.out.tl.tl.lt
    go_wp2_with fail
    refine (hcu.out _).mono ?_
    rintro _ w6 ⟨rfl, hb⟩
    have HS6 := Lib.hid (HS5.out.up hb)
    clear c0_0 c0_1 c0_2 c0_3 c1_0 c1_1 c1_2 c1_3 c2_0 c2_1 c2_2 c2_3 zc0 zc1 zc2
    clear hb
    go_wp2_with fail
    refine (hal.out _).mono ?_
    rintro _ w7 ⟨rfl, hb⟩
    have HS7 := Lib.hid (HS6.out.up hb)
    clear hb
    go_wp2
    go_ret
    exact ⟨rfl, HS7.out.1⟩
  · have hk2 : ¬ (k : Int) < 128 := by omega
    have hk3 : ¬ (128 : Int) < (k : Int) := by omega
    have c0_0 := HS5.out.vw 0 (by omega); have c0_1 := HS5.out.vw 1 (by omega); have c0_2 := HS5.out.vw 2 (by omega); have c0_3 := HS5.out.vw 3 (by omega); have zc0 := HS5.out.lt
    have c1_0 := HS5.out.tl.vw 0 (by omega); have c1_1 := HS5.out.tl.vw 1 (by omega); have c1_2 := HS5.out.tl.vw 2 (by omega); have c1_3 := HS5.out.tl.vw 3 (by omega); have zc1 := HS5.out.tl.lt
    have c2_0 := HS5.out.tl.tl.vw 0 (by omega); have c2_1 := HS5.out.tl.tl.vw 1 (by omega); have c2_2 := HS5.out.tl.tl.vw 2 (by omega); have c2_3 := HS5.out.tl.tl.vw 3 (by omega); have zc2 := HS5.out.tl.tl.lt
    go_wp2_with fail
    refine (hcu.out _).mono ?_
    rintro _ w6 ⟨rfl, hb⟩
    have HS6 := Lib.hid (HS5.out.up hb)
    clear c0_0 c0_1 c0_2 c0_3 c1_0 c1_1 c1_2 c1_3 c2_0 c2_1 c2_2 c2_3 zc0 zc1 zc2
    clear hb
    go_wp2_with fail
    refine (hal.out _).mono ?_
    rintro _ w7 ⟨rfl, hb⟩
    have HS7 := Lib.hid (HS6.out.up hb)
    clear hb
    go_wp2
    go_ret
    exact ⟨rfl, HS7.out.1⟩
end Go.Proofs.Ytennflnfjjhgpaa
