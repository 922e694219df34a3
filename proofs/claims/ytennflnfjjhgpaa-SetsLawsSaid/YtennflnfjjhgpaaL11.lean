/- SetsLaws: the walk. -/
import Derived.Test.YtennflnfjjhgpaaProg
import Derived.Test.YtennflnfjjhgpaaTw
import Derived.Test.YtennflnfjjhgpaaRF
import Derived.Test.YtennflnfjjhgpaaRS
import Derived.Test.YtennflnfjjhgpaaAl
import Derived.Test.YtennflnfjjhgpaaL1
import Derived.Test.YtennflnfjjhgpaaQw
import Derived.Test.YtennflnfjjhgpaaL7
import Derived.Deep.QuietTactic
import Derived.WalkKit
import Derived.WalkLawsBesides
import Derived.WalkSpells
import Derived.Outline
import Derived.Lib.Walk
import Derived.Lib.Hide
import Derived.RegionTactic
import Derived.LoopTactic
import Derived.Below
import Derived.IntWalk
import Derived.Deep.RegionHeld3
import Derived.RegionCalls
import Derived.Deep.RegionWith
import Derived.Lib.Slices
import Derived.Laws.NewBlocks
import Derived.BigQuiet
import Derived.Deep.Light
namespace Go.Proofs.Ytennflnfjjhgpaa
set_option linter.unusedSimpArgs false
set_option linter.unusedVariables false
open Go.RowKit

theorem vc_one (u : Nat → Int) : (vc u).all (·.oneCell') = true := by
  unfold vc
  simp only [Array.all_eq_true]
  intro i hi
  have : i < 4 := hi
  rcases (by omega : i = 0 ∨ i = 1 ∨ i = 2 ∨ i = 3) with rfl | rfl | rfl | rfl <;> rfl
set_option maxHeartbeats 8000000 in
set_option maxRecDepth 100000 in
theorem laws_abs (a b c ab m n1 na nb bc x ac y : Nat → Int) (k1 k2 k3 k4 k5 : Nat) (l1 : k1 ≤ 256) (l2 : k2 ≤ 256) (l3 : k3 ≤ 256) (l4 : k4 ≤ 256) (l5 : k5 ≤ 256) (E1 : Hid ((k1 : Int) + (k2 : Int) = (k3 : Int) + (k4 : Int))) (E2 : Hid ((k3 : Int) + (k5 : Int) = 256))
    (C1 : Hid (∀ w, Calls Try.prog 21 #[vv a, vv b] w fun e w' => e = .returned (vv ab) ∧ Below w.heap.size w w'))
    (C2 : Hid (∀ w, Calls Try.prog 21 #[vv b, vv a] w fun e w' => e = .returned (vv ab) ∧ Below w.heap.size w w'))
    (C3 : Hid (∀ w, Calls Try.prog 22 #[vv a, vv b] w fun e w' => e = .returned (vv m) ∧ Below w.heap.size w w'))
    (C4 : Hid (∀ w, Calls Try.prog 22 #[vv b, vv a] w fun e w' => e = .returned (vv m) ∧ Below w.heap.size w w'))
    (C5 : Hid (∀ w, Calls Try.prog 23 #[vv ab] w fun e w' => e = .returned (vv n1) ∧ Below w.heap.size w w'))
    (C6 : Hid (∀ w, Calls Try.prog 23 #[vv a] w fun e w' => e = .returned (vv na) ∧ Below w.heap.size w w'))
    (C7 : Hid (∀ w, Calls Try.prog 23 #[vv b] w fun e w' => e = .returned (vv nb) ∧ Below w.heap.size w w'))
    (C8 : Hid (∀ w, Calls Try.prog 22 #[vv na, vv nb] w fun e w' => e = .returned (vv n1) ∧ Below w.heap.size w w'))
    (C9 : Hid (∀ w, Calls Try.prog 23 #[vv na] w fun e w' => e = .returned (vv a) ∧ Below w.heap.size w w'))
    (C10 : Hid (∀ w, Calls Try.prog 21 #[vv b, vv c] w fun e w' => e = .returned (vv bc) ∧ Below w.heap.size w w'))
    (C11 : Hid (∀ w, Calls Try.prog 22 #[vv a, vv bc] w fun e w' => e = .returned (vv x) ∧ Below w.heap.size w w'))
    (C12 : Hid (∀ w, Calls Try.prog 22 #[vv a, vv c] w fun e w' => e = .returned (vv ac) ∧ Below w.heap.size w w'))
    (C13 : Hid (∀ w, Calls Try.prog 21 #[vv m, vv ac] w fun e w' => e = .returned (vv x) ∧ Below w.heap.size w w'))
    (C14 : Hid (∀ w, Calls Try.prog 21 #[vv ab, vv c] w fun e w' => e = .returned (vv y) ∧ Below w.heap.size w w'))
    (C15 : Hid (∀ w, Calls Try.prog 21 #[vv a, vv bc] w fun e w' => e = .returned (vv y) ∧ Below w.heap.size w w'))
    (D1 : Hid (∀ w, Calls Try.prog 13 #[vv ab] w fun e w' => e = .returned (.int .i64 (k1 : Nat)) ∧ Below w.heap.size w w'))
    (D2 : Hid (∀ w, Calls Try.prog 13 #[vv m] w fun e w' => e = .returned (.int .i64 (k2 : Nat)) ∧ Below w.heap.size w w'))
    (D3 : Hid (∀ w, Calls Try.prog 13 #[vv a] w fun e w' => e = .returned (.int .i64 (k3 : Nat)) ∧ Below w.heap.size w w'))
    (D4 : Hid (∀ w, Calls Try.prog 13 #[vv b] w fun e w' => e = .returned (.int .i64 (k4 : Nat)) ∧ Below w.heap.size w w'))
    (D5 : Hid (∀ w, Calls Try.prog 13 #[vv na] w fun e w' => e = .returned (.int .i64 (k5 : Nat)) ∧ Below w.heap.size w w')) (w : World) :
    Calls Try.prog 8 #[vv a, vv b, vv c] w fun e w' => e = .returned (.bool true) ∧ Below w.heap.size w w' := by
  have S0 := Lib.hid ((((Sb.start w).alloc (.cells (vc a) 24)).alloc (.cells (vc b) 24)).alloc (.cells (vc c) 24))
  have hsz : ((w.alloc (.cells (vc a) 24)).alloc (.cells (vc b) 24)).heap.size = w.heap.size + 1 + 1 := by simp
  have hsz1 : (w.alloc (.cells (vc a) 24)).heap.size = w.heap.size + 1 := by simp
  rw [hsz, hsz1] at S0
  clear hsz hsz1
  have hal := Lib.hid alive_any
  go_enter Try.func8, Try.ntmps8
  go_wp2_with fail
  refine wp_region_owed (fun l act w1 => ∃ X : Nat → Value, act = ⟨(List.toArray (vv a :: vv b :: vv c :: .pointer (some ⟨w.heap.size, 0, none⟩) :: .pointer (some ⟨w.heap.size + 1, 0, none⟩) :: .pointer (some ⟨w.heap.size + 1 + 1, 0, none⟩) :: .bool false :: X 6 :: X 7 :: X 0 :: X 1 :: X 2 :: X 3 :: X 4 :: X 5 :: undef :: undef :: undef :: undef :: undef :: undef :: undef :: undef :: undef :: undef :: undef :: undef :: undef :: undef :: undef :: undef :: undef :: undef :: undef :: undef :: undef :: undef :: undef :: undef :: undef :: undef :: undef :: undef :: undef :: undef :: undef :: undef :: undef :: undef :: undef :: undef :: undef :: undef :: undef :: undef :: undef :: undef :: undef :: undef :: undef :: undef :: undef :: undef :: undef :: undef :: undef :: undef :: undef :: undef :: undef :: undef :: undef :: undef :: undef :: undef :: undef :: undef :: undef :: undef :: undef :: undef :: undef :: undef :: undef :: undef :: undef :: undef :: undef :: undef :: [])), []⟩ ∧ (∀ i, l i = true → ([0, 1, 2, 3, 4, 5] : List Nat).contains i = true → X i = (fun i => ([.agg (vc a), .agg (vc b), vv ab, .agg (vc a), .agg (vc b), vv m, undef, undef, undef, undef] : List Value).getD i undef) i) ∧ Two w w1 [(w.heap.size + 1 + 1, .cells (vc c) 24), (w.heap.size + 1, .cells (vc b) 24), (w.heap.size, .cells (vc a) 24)] 24 (l 6) (l 8) (l 7) (l 9) (X 6) (X 7) #[.int .u64 0, .int .u64 0, .int .u64 0, .int .u64 0] (vc ab) (vc m)) (by kernel_rfl) (by kernel_rfl) ⟨(fun i => ([undef, undef, undef, undef, undef, undef, undef, undef, undef, undef] : List Value).getD i undef), rfl, (fun i h => by cases h), Two.start S0.out.drew⟩ ?stra ?finra
  case stra =>
    go_light
    refine Owed.next (n := 0) (o := ?ora0) ?hora0 ?hra0 ?hsra0
    case hora0 => rfl
    case hra0 =>
      intro l act w1 hw hl hI K hK
      obtain ⟨X, rfl, hX, hT⟩ := hI
      have HX := Lib.hid (packsM 0 hX [] (fun _ h => nomatch h))
      clear hX
      rw [if_pos (by rfl)]
      refine wp_load_row 24 _ rfl (w.heap.size) rfl 24 (vc a) (0, 0) _ hT.1.tl.tl.heap Try.underlying24 rfl (i24v a) ?_
      exact hK.out _ _ ⟨fun j => bif (0 :: []).contains j then (fun i => ([.agg (vc a), .agg (vc b), vv ab, .agg (vc a), .agg (vc b), vv m, undef, undef, undef, undef] : List Value).getD i undef) j else X j, rfl, HX.out, hT⟩
    refine Owed.next (n := 1) (o := ?ora1) ?hora1 ?hra1 ?hsra1
    case hora1 => rfl
    case hra1 =>
      intro l act w1 hw hl hI K hK
      obtain ⟨X, rfl, hX, hT⟩ := hI
      have HX := Lib.hid (packsM 1 hX [] (fun _ h => nomatch h))
      clear hX
      rw [if_pos (by rfl)]
      refine wp_load_row 24 _ rfl (w.heap.size + 1) rfl 24 (vc b) (0, 0) _ hT.1.tl.heap Try.underlying24 rfl (i24v b) ?_
      exact hK.out _ _ ⟨fun j => bif (1 :: []).contains j then (fun i => ([.agg (vc a), .agg (vc b), vv ab, .agg (vc a), .agg (vc b), vv m, undef, undef, undef, undef] : List Value).getD i undef) j else X j, rfl, HX.out, hT⟩
    refine Owed.next (n := 2) (o := ?ora2) ?hora2 ?hra2 ?hsra2
    case hora2 => rfl
    case hra2 =>
      intro l act w1 hw hl hI K hK
      obtain ⟨X, rfl, hX, hT⟩ := hI
      have h0 : X 0 = .agg (vc a) := hX 0 (hw 0 (by kernel_rfl)) (by kernel_rfl)
      have h1 : X 1 = .agg (vc b) := hX 1 (hw 1 (by kernel_rfl)) (by kernel_rfl)
      have HX := Lib.hid (packsM 2 hX [0, 1] (List.forall_mem_cons.2 ⟨hw 0 (by kernel_rfl), (List.forall_mem_cons.2 ⟨hw 1 (by kernel_rfl), (fun _ h => nomatch h)⟩)⟩))
      clear hX
      rw [h0, h1]
      clear h0 h1
      rw [if_pos (by rfl)]
      go_wp2_with fail
      refine (C1.out _).mono ?_
      rintro _ w2 ⟨rfl, hb⟩
      exact hK.out _ _ ⟨fun j => bif (2 :: [0, 1]).contains j then (fun i => ([.agg (vc a), .agg (vc b), vv ab, .agg (vc a), .agg (vc b), vv m, undef, undef, undef, undef] : List Value).getD i undef) j else X j, rfl, HX.out, hT.up hb⟩
    refine Owed.next (n := 3) (o := ?ora3) ?hora3 ?hra3 ?hsra3
    case hora3 => rfl
    case hra3 =>
      intro l act w1 hw hl hI K hK
      obtain ⟨X, rfl, hX, hT⟩ := hI
      have HX := Lib.hid (packsM 3 hX [] (fun _ h => nomatch h))
      clear hX
      rw [if_pos (by rfl)]
      refine wp_load_row 24 _ rfl (w.heap.size) rfl 24 (vc a) (0, 0) _ hT.1.tl.tl.heap Try.underlying24 rfl (i24v a) ?_
      exact hK.out _ _ ⟨fun j => bif (3 :: []).contains j then (fun i => ([.agg (vc a), .agg (vc b), vv ab, .agg (vc a), .agg (vc b), vv m, undef, undef, undef, undef] : List Value).getD i undef) j else X j, rfl, HX.out, hT⟩
    refine Owed.next (n := 4) (o := ?ora4) ?hora4 ?hra4 ?hsra4
    case hora4 => rfl
    case hra4 =>
      intro l act w1 hw hl hI K hK
      obtain ⟨X, rfl, hX, hT⟩ := hI
      have HX := Lib.hid (packsM 4 hX [] (fun _ h => nomatch h))
      clear hX
      rw [if_pos (by rfl)]
      refine wp_load_row 24 _ rfl (w.heap.size + 1) rfl 24 (vc b) (0, 0) _ hT.1.tl.heap Try.underlying24 rfl (i24v b) ?_
      exact hK.out _ _ ⟨fun j => bif (4 :: []).contains j then (fun i => ([.agg (vc a), .agg (vc b), vv ab, .agg (vc a), .agg (vc b), vv m, undef, undef, undef, undef] : List Value).getD i undef) j else X j, rfl, HX.out, hT⟩
    refine Owed.next (n := 5) (o := ?ora5) ?hora5 ?hra5 ?hsra5
    case hora5 => rfl
    case hra5 =>
      intro l act w1 hw hl hI K hK
      obtain ⟨X, rfl, hX, hT⟩ := hI
      have h3 : X 3 = .agg (vc a) := hX 3 (hw 3 (by kernel_rfl)) (by kernel_rfl)
      have h4 : X 4 = .agg (vc b) := hX 4 (hw 4 (by kernel_rfl)) (by kernel_rfl)
      have HX := Lib.hid (packsM 5 hX [3, 4] (List.forall_mem_cons.2 ⟨hw 3 (by kernel_rfl), (List.forall_mem_cons.2 ⟨hw 4 (by kernel_rfl), (fun _ h => nomatch h)⟩)⟩))
      clear hX
      rw [h3, h4]
      clear h3 h4
      rw [if_pos (by rfl)]
      go_wp2_with fail
      refine (C3.out _).mono ?_
      rintro _ w2 ⟨rfl, hb⟩
      exact hK.out _ _ ⟨fun j => bif (5 :: [3, 4]).contains j then (fun i => ([.agg (vc a), .agg (vc b), vv ab, .agg (vc a), .agg (vc b), vv m, undef, undef, undef, undef] : List Value).getD i undef) j else X j, rfl, HX.out, hT.up hb⟩
    refine Owed.next (n := 6) (o := ?ora6) ?hora6 ?hra6 ?hsra6
    case hora6 => rfl
    case hra6 =>
      intro l act w1 hw hl hI K hK
      obtain ⟨X, rfl, hX, hT⟩ := hI
      have HX := fun v => Lib.hid (packsN 6 v hX (by kernel_rfl) [] (fun _ h => nomatch h))
      clear hX
      rw [hl] at hT
      rw [if_pos (by rfl)]
      go_wp2_with fail
      exact hK.out _ _ ⟨fun j => bif [6].contains j then .pointer (some ⟨w1.heap.size, 0, none⟩) else bif ([] : List Nat).contains j then (fun i => ([.agg (vc a), .agg (vc b), vv ab, .agg (vc a), .agg (vc b), vv m, undef, undef, undef, undef] : List Value).getD i undef) j else X j, rfl, (HX _).out, hT.newL⟩
    refine Owed.next (n := 7) (o := ?ora7) ?hora7 ?hra7 ?hsra7
    case hora7 => rfl
    case hra7 =>
      intro l act w1 hw hl hI K hK
      obtain ⟨X, rfl, hX, hT⟩ := hI
      have HX := fun v => Lib.hid (packsN 7 v hX (by kernel_rfl) [] (fun _ h => nomatch h))
      clear hX
      rw [hl] at hT
      rw [if_pos (by rfl)]
      go_wp2_with fail
      exact hK.out _ _ ⟨fun j => bif [7].contains j then .pointer (some ⟨w1.heap.size, 0, none⟩) else bif ([] : List Nat).contains j then (fun i => ([.agg (vc a), .agg (vc b), vv ab, .agg (vc a), .agg (vc b), vv m, undef, undef, undef, undef] : List Value).getD i undef) j else X j, rfl, (HX _).out, hT.newR⟩
    refine Owed.next (n := 8) (o := ?ora8) ?hora8 ?hra8 ?hsra8
    case hora8 => rfl
    case hra8 =>
      intro l act w1 hw hl hI K hK
      obtain ⟨X, rfl, hX, hT⟩ := hI
      have h2 : X 2 = vv ab := hX 2 (hw 2 (by kernel_rfl)) (by kernel_rfl)
      have HX := fun v => Lib.hid (packsN 8 v hX (by kernel_rfl) [2] (List.forall_mem_cons.2 ⟨hw 2 (by kernel_rfl), (fun _ h => nomatch h)⟩))
      clear hX
      have u6 := hw 6 (by kernel_rfl)
      rw [hl, u6] at hT
      obtain ⟨g, hg⟩ := hT.2.1.ptr
      rw [h2]
      clear h2
      rw [if_pos (by rfl)]
      refine wp_store_row 24 (.tmp 7) (.tmp 11) rfl g (vc ab) hg rfl 24 _ (hT.2.1.old' hg) (i24v ab) rfl (vc_one ab) ?_
      exact hK.out _ _ ⟨fun j => bif [8].contains j then undef else bif ([2] : List Nat).contains j then (fun i => ([.agg (vc a), .agg (vc b), vv ab, .agg (vc a), .agg (vc b), vv m, undef, undef, undef, undef] : List Value).getD i undef) j else X j, rfl, (HX _).out, by have h4 := hT.putL' hg; simpa [u6] using h4⟩
    refine Owed.next (n := 9) (o := ?ora9) ?hora9 ?hra9 ?hsra9
    case hora9 => rfl
    case hra9 =>
      intro l act w1 hw hl hI K hK
      obtain ⟨X, rfl, hX, hT⟩ := hI
      have h5 : X 5 = vv m := hX 5 (hw 5 (by kernel_rfl)) (by kernel_rfl)
      have HX := fun v => Lib.hid (packsN 9 v hX (by kernel_rfl) [5] (List.forall_mem_cons.2 ⟨hw 5 (by kernel_rfl), (fun _ h => nomatch h)⟩))
      clear hX
      have u7 := hw 7 (by kernel_rfl)
      rw [hl, u7] at hT
      obtain ⟨g, hg⟩ := hT.2.2.1.ptr
      rw [h5]
      clear h5
      rw [if_pos (by rfl)]
      refine wp_store_row 24 (.tmp 8) (.tmp 14) rfl g (vc m) hg rfl 24 _ (hT.2.2.1.old' hg) (i24v m) rfl (vc_one m) ?_
      exact hK.out _ _ ⟨fun j => bif [9].contains j then undef else bif ([5] : List Nat).contains j then (fun i => ([.agg (vc a), .agg (vc b), vv ab, .agg (vc a), .agg (vc b), vv m, undef, undef, undef, undef] : List Value).getD i undef) j else X j, rfl, (HX _).out, by have h4 := hT.putR' hg; simpa [u7] using h4⟩
    exact Owed.last rfl
  case finra =>
    intro l act w1 hl hI
    obtain ⟨X, rfl, hX, hT⟩ := hI
    have h0 : X 0 = .agg (vc a) := hX 0 (hl 0 (by kernel_rfl)) (by kernel_rfl)
    have h1 : X 1 = .agg (vc b) := hX 1 (hl 1 (by kernel_rfl)) (by kernel_rfl)
    have h2 : X 2 = vv ab := hX 2 (hl 2 (by kernel_rfl)) (by kernel_rfl)
    have h3 : X 3 = .agg (vc a) := hX 3 (hl 3 (by kernel_rfl)) (by kernel_rfl)
    have h4 : X 4 = .agg (vc b) := hX 4 (hl 4 (by kernel_rfl)) (by kernel_rfl)
    have h5 : X 5 = vv m := hX 5 (hl 5 (by kernel_rfl)) (by kernel_rfl)
    rw [h0, h1, h2, h3, h4, h5]
    clear h0 h1 h2 h3 h4 h5 hX
    rw [hl 6 (by kernel_rfl), hl 7 (by kernel_rfl), hl 8 (by kernel_rfl), hl 9 (by kernel_rfl)] at hT
    obtain ⟨p, q, hp, hq, hpq, hS, hLp, hLq⟩ := hT.done
    rw [hp, hq]
    have HS := Lib.hid hS
    clear hS hT hLp hLq hp hq hl S0
    clear X
    go_wp2_with fail
    refine wp_region_owed (fun l act w1 => ∃ X : Nat → Value, act = ⟨(List.toArray (vv a :: vv b :: vv c :: .pointer (some ⟨w.heap.size, 0, none⟩) :: .pointer (some ⟨w.heap.size + 1, 0, none⟩) :: .pointer (some ⟨w.heap.size + 1 + 1, 0, none⟩) :: .bool false :: .pointer (some ⟨p, 0, none⟩) :: .pointer (some ⟨q, 0, none⟩) :: .agg (vc a) :: .agg (vc b) :: vv ab :: .agg (vc a) :: .agg (vc b) :: vv m :: X 0 :: X 1 :: X 2 :: X 3 :: X 4 :: X 5 :: X 6 :: X 7 :: X 8 :: X 9 :: X 10 :: X 11 :: X 12 :: X 13 :: X 14 :: X 15 :: X 16 :: X 17 :: X 18 :: X 19 :: X 20 :: X 21 :: X 22 :: X 23 :: X 24 :: X 25 :: X 26 :: X 27 :: X 28 :: undef :: undef :: undef :: undef :: undef :: undef :: undef :: undef :: undef :: undef :: undef :: undef :: undef :: undef :: undef :: undef :: undef :: undef :: undef :: undef :: undef :: undef :: undef :: undef :: undef :: undef :: undef :: undef :: undef :: undef :: undef :: undef :: undef :: undef :: undef :: undef :: undef :: undef :: undef :: undef :: undef :: undef :: undef :: undef :: undef :: [])), []⟩ ∧ (∀ i, l i = true → ([0, 1, 2, 3, 4, 5, 6, 7, 8, 9, 10, 11, 12, 13, 14, 15, 16, 17, 18, 19, 20, 21, 22, 23, 24, 25, 26, 27, 28] : List Nat).contains i = true → X i = (fun i => ([.agg (vc ab), .agg (vc b), .agg (vc a), vv ab, .bool false, .bool false, .agg (vc m), .agg (vc b), .agg (vc a), vv m, .bool false, .bool false, .bool false, .agg (vc ab), vv n1, .agg (vc a), vv na, .agg (vc b), vv nb, vv n1, .bool false, .bool false, .bool false, .agg (vc a), vv na, vv a, .agg (vc a), .bool false, .bool false] : List Value).getD i undef) i) ∧ Sb w w1 [(q, .cells (vc m) 24), (p, .cells (vc ab) 24), (w.heap.size + 1 + 1, .cells (vc c) 24), (w.heap.size + 1, .cells (vc b) 24), (w.heap.size, .cells (vc a) 24)]) (by kernel_rfl) (by kernel_rfl) ⟨(fun i => ([undef, undef, undef, undef, undef, undef, undef, undef, undef, undef, undef, undef, undef, undef, undef, undef, undef, undef, undef, undef, undef, undef, undef, undef, undef, undef, undef, undef, undef] : List Value).getD i undef), rfl, (fun i h => by cases h), HS.out.drew⟩ ?strb ?finrb
    case strb =>
      go_light
      refine Owed.next (n := 0) (o := ?orb0) ?horb0 ?hrb0 ?hsrb0
      case horb0 => rfl
      case hrb0 =>
        intro l act w1 hw hl hI K hK
        obtain ⟨X, rfl, hX, hT⟩ := hI
        have HX := Lib.hid (packsM 0 hX [] (fun _ h => nomatch h))
        clear hX
        rw [if_pos (by rfl)]
        refine wp_load_row 24 _ rfl (p) rfl 24 (vc ab) (0, 0) _ hT.tl.heap Try.underlying24 rfl (i24v ab) ?_
        exact hK.out _ _ ⟨fun j => bif (0 :: []).contains j then (fun i => ([.agg (vc ab), .agg (vc b), .agg (vc a), vv ab, .bool false, .bool false, .agg (vc m), .agg (vc b), .agg (vc a), vv m, .bool false, .bool false, .bool false, .agg (vc ab), vv n1, .agg (vc a), vv na, .agg (vc b), vv nb, vv n1, .bool false, .bool false, .bool false, .agg (vc a), vv na, vv a, .agg (vc a), .bool false, .bool false] : List Value).getD i undef) j else X j, rfl, HX.out, hT⟩
      refine Owed.next (n := 1) (o := ?orb1) ?horb1 ?hrb1 ?hsrb1
      case horb1 => rfl
      case hrb1 =>
        intro l act w1 hw hl hI K hK
        obtain ⟨X, rfl, hX, hT⟩ := hI
        have HX := Lib.hid (packsM 1 hX [] (fun _ h => nomatch h))
        clear hX
        rw [if_pos (by rfl)]
        refine wp_load_row 24 _ rfl (w.heap.size + 1) rfl 24 (vc b) (0, 0) _ hT.tl.tl.tl.heap Try.underlying24 rfl (i24v b) ?_
        exact hK.out _ _ ⟨fun j => bif (1 :: []).contains j then (fun i => ([.agg (vc ab), .agg (vc b), .agg (vc a), vv ab, .bool false, .bool false, .agg (vc m), .agg (vc b), .agg (vc a), vv m, .bool false, .bool false, .bool false, .agg (vc ab), vv n1, .agg (vc a), vv na, .agg (vc b), vv nb, vv n1, .bool false, .bool false, .bool false, .agg (vc a), vv na, vv a, .agg (vc a), .bool false, .bool false] : List Value).getD i undef) j else X j, rfl, HX.out, hT⟩
      refine Owed.next (n := 2) (o := ?orb2) ?horb2 ?hrb2 ?hsrb2
      case horb2 => rfl
      case hrb2 =>
        intro l act w1 hw hl hI K hK
        obtain ⟨X, rfl, hX, hT⟩ := hI
        have HX := Lib.hid (packsM 2 hX [] (fun _ h => nomatch h))
        clear hX
        rw [if_pos (by rfl)]
        refine wp_load_row 24 _ rfl (w.heap.size) rfl 24 (vc a) (0, 0) _ hT.tl.tl.tl.tl.heap Try.underlying24 rfl (i24v a) ?_
        exact hK.out _ _ ⟨fun j => bif (2 :: []).contains j then (fun i => ([.agg (vc ab), .agg (vc b), .agg (vc a), vv ab, .bool false, .bool false, .agg (vc m), .agg (vc b), .agg (vc a), vv m, .bool false, .bool false, .bool false, .agg (vc ab), vv n1, .agg (vc a), vv na, .agg (vc b), vv nb, vv n1, .bool false, .bool false, .bool false, .agg (vc a), vv na, vv a, .agg (vc a), .bool false, .bool false] : List Value).getD i undef) j else X j, rfl, HX.out, hT⟩
      refine Owed.next (n := 3) (o := ?orb3) ?horb3 ?hrb3 ?hsrb3
      case horb3 => rfl
      case hrb3 =>
        intro l act w1 hw hl hI K hK
        obtain ⟨X, rfl, hX, hT⟩ := hI
        have h1 : X 1 = .agg (vc b) := hX 1 (hw 1 (by kernel_rfl)) (by kernel_rfl)
        have h2 : X 2 = .agg (vc a) := hX 2 (hw 2 (by kernel_rfl)) (by kernel_rfl)
        have HX := Lib.hid (packsM 3 hX [1, 2] (List.forall_mem_cons.2 ⟨hw 1 (by kernel_rfl), (List.forall_mem_cons.2 ⟨hw 2 (by kernel_rfl), (fun _ h => nomatch h)⟩)⟩))
        clear hX
        rw [h1, h2]
        clear h1 h2
        rw [if_pos (by rfl)]
        go_wp2_with fail
        refine (C2.out _).mono ?_
        rintro _ w2 ⟨rfl, hb⟩
        exact hK.out _ _ ⟨fun j => bif (3 :: [1, 2]).contains j then (fun i => ([.agg (vc ab), .agg (vc b), .agg (vc a), vv ab, .bool false, .bool false, .agg (vc m), .agg (vc b), .agg (vc a), vv m, .bool false, .bool false, .bool false, .agg (vc ab), vv n1, .agg (vc a), vv na, .agg (vc b), vv nb, vv n1, .bool false, .bool false, .bool false, .agg (vc a), vv na, vv a, .agg (vc a), .bool false, .bool false] : List Value).getD i undef) j else X j, rfl, HX.out, hT.up hb⟩
      refine Owed.next (n := 4) (o := ?orb4) ?horb4 ?hrb4 ?hsrb4
      case horb4 => rfl
      case hrb4 =>
        intro l act w1 hw hl hI K hK
        obtain ⟨X, rfl, hX, hT⟩ := hI
        have h0 : X 0 = .agg (vc ab) := hX 0 (hw 0 (by kernel_rfl)) (by kernel_rfl)
        have h3 : X 3 = vv ab := hX 3 (hw 3 (by kernel_rfl)) (by kernel_rfl)
        have HX := Lib.hid (packsM 4 hX [0, 3] (List.forall_mem_cons.2 ⟨hw 0 (by kernel_rfl), (List.forall_mem_cons.2 ⟨hw 3 (by kernel_rfl), (fun _ h => nomatch h)⟩)⟩))
        clear hX
        rw [h0, h3]
        clear h0 h3
        rw [if_pos (by rfl)]
        refine wp_neq24 _ _ _ rfl _ _ _ _ rfl rfl ?_
        exact hK.out _ _ ⟨fun j => bif (4 :: [0, 3]).contains j then (fun i => ([.agg (vc ab), .agg (vc b), .agg (vc a), vv ab, .bool false, .bool false, .agg (vc m), .agg (vc b), .agg (vc a), vv m, .bool false, .bool false, .bool false, .agg (vc ab), vv n1, .agg (vc a), vv na, .agg (vc b), vv nb, vv n1, .bool false, .bool false, .bool false, .agg (vc a), vv na, vv a, .agg (vc a), .bool false, .bool false] : List Value).getD i undef) j else X j, rfl, HX.out, hT⟩
      refine Owed.next (n := 5) (o := ?orb5) ?horb5 ?hrb5 ?hsrb5
      case horb5 => rfl
      case hrb5 =>
        intro l act w1 hw hl hI K hK
        obtain ⟨X, rfl, hX, hT⟩ := hI
        have h4 : X 4 = .bool false := hX 4 (hw 4 (by kernel_rfl)) (by kernel_rfl)
        have HX := Lib.hid (packsM 5 hX [4] (List.forall_mem_cons.2 ⟨hw 4 (by kernel_rfl), (fun _ h => nomatch h)⟩))
        clear hX
        rw [h4]
        clear h4
        rw [if_pos (by rfl)]
        go_wp2_with fail
        exact hK.out _ _ ⟨fun j => bif (5 :: [4]).contains j then (fun i => ([.agg (vc ab), .agg (vc b), .agg (vc a), vv ab, .bool false, .bool false, .agg (vc m), .agg (vc b), .agg (vc a), vv m, .bool false, .bool false, .bool false, .agg (vc ab), vv n1, .agg (vc a), vv na, .agg (vc b), vv nb, vv n1, .bool false, .bool false, .bool false, .agg (vc a), vv na, vv a, .agg (vc a), .bool false, .bool false] : List Value).getD i undef) j else X j, rfl, HX.out, hT⟩
      refine Owed.next (n := 6) (o := ?orb6) ?horb6 ?hrb6 ?hsrb6
      case horb6 => rfl
      case hrb6 =>
        intro l act w1 hw hl hI K hK
        obtain ⟨X, rfl, hX, hT⟩ := hI
        have h5 : X 5 = .bool false := hX 5 (hw 5 (by kernel_rfl)) (by kernel_rfl)
        have HX := Lib.hid (packsM 6 hX [5] (List.forall_mem_cons.2 ⟨hw 5 (by kernel_rfl), (fun _ h => nomatch h)⟩))
        clear hX
        rw [h5]
        clear h5
        rw [if_pos (by rfl)]
        refine wp_load_row 24 _ rfl (q) rfl 24 (vc m) (0, 0) _ hT.heap Try.underlying24 rfl (i24v m) ?_
        exact hK.out _ _ ⟨fun j => bif (6 :: [5]).contains j then (fun i => ([.agg (vc ab), .agg (vc b), .agg (vc a), vv ab, .bool false, .bool false, .agg (vc m), .agg (vc b), .agg (vc a), vv m, .bool false, .bool false, .bool false, .agg (vc ab), vv n1, .agg (vc a), vv na, .agg (vc b), vv nb, vv n1, .bool false, .bool false, .bool false, .agg (vc a), vv na, vv a, .agg (vc a), .bool false, .bool false] : List Value).getD i undef) j else X j, rfl, HX.out, hT⟩
      refine Owed.next (n := 7) (o := ?orb7) ?horb7 ?hrb7 ?hsrb7
      case horb7 => rfl
      case hrb7 =>
        intro l act w1 hw hl hI K hK
        obtain ⟨X, rfl, hX, hT⟩ := hI
        have h5 : X 5 = .bool false := hX 5 (hw 5 (by kernel_rfl)) (by kernel_rfl)
        have HX := Lib.hid (packsM 7 hX [5] (List.forall_mem_cons.2 ⟨hw 5 (by kernel_rfl), (fun _ h => nomatch h)⟩))
        clear hX
        rw [h5]
        clear h5
        rw [if_pos (by rfl)]
        refine wp_load_row 24 _ rfl (w.heap.size + 1) rfl 24 (vc b) (0, 0) _ hT.tl.tl.tl.heap Try.underlying24 rfl (i24v b) ?_
        exact hK.out _ _ ⟨fun j => bif (7 :: [5]).contains j then (fun i => ([.agg (vc ab), .agg (vc b), .agg (vc a), vv ab, .bool false, .bool false, .agg (vc m), .agg (vc b), .agg (vc a), vv m, .bool false, .bool false, .bool false, .agg (vc ab), vv n1, .agg (vc a), vv na, .agg (vc b), vv nb, vv n1, .bool false, .bool false, .bool false, .agg (vc a), vv na, vv a, .agg (vc a), .bool false, .bool false] : List Value).getD i undef) j else X j, rfl, HX.out, hT⟩
      refine Owed.next (n := 8) (o := ?orb8) ?horb8 ?hrb8 ?hsrb8
      case horb8 => rfl
      case hrb8 =>
        intro l act w1 hw hl hI K hK
        obtain ⟨X, rfl, hX, hT⟩ := hI
        have h5 : X 5 = .bool false := hX 5 (hw 5 (by kernel_rfl)) (by kernel_rfl)
        have HX := Lib.hid (packsM 8 hX [5] (List.forall_mem_cons.2 ⟨hw 5 (by kernel_rfl), (fun _ h => nomatch h)⟩))
        clear hX
        rw [h5]
        clear h5
        rw [if_pos (by rfl)]
        refine wp_load_row 24 _ rfl (w.heap.size) rfl 24 (vc a) (0, 0) _ hT.tl.tl.tl.tl.heap Try.underlying24 rfl (i24v a) ?_
        exact hK.out _ _ ⟨fun j => bif (8 :: [5]).contains j then (fun i => ([.agg (vc ab), .agg (vc b), .agg (vc a), vv ab, .bool false, .bool false, .agg (vc m), .agg (vc b), .agg (vc a), vv m, .bool false, .bool false, .bool false, .agg (vc ab), vv n1, .agg (vc a), vv na, .agg (vc b), vv nb, vv n1, .bool false, .bool false, .bool false, .agg (vc a), vv na, vv a, .agg (vc a), .bool false, .bool false] : List Value).getD i undef) j else X j, rfl, HX.out, hT⟩
      refine Owed.next (n := 9) (o := ?orb9) ?horb9 ?hrb9 ?hsrb9
      case horb9 => rfl
      case hrb9 =>
        intro l act w1 hw hl hI K hK
        obtain ⟨X, rfl, hX, hT⟩ := hI
        have h5 : X 5 = .bool false := hX 5 (hw 5 (by kernel_rfl)) (by kernel_rfl)
        have h7 : X 7 = .agg (vc b) := hX 7 (hw 7 (by kernel_rfl)) (by kernel_rfl)
        have h8 : X 8 = .agg (vc a) := hX 8 (hw 8 (by kernel_rfl)) (by kernel_rfl)
        have HX := Lib.hid (packsM 9 hX [5, 7, 8] (List.forall_mem_cons.2 ⟨hw 5 (by kernel_rfl), (List.forall_mem_cons.2 ⟨hw 7 (by kernel_rfl), (List.forall_mem_cons.2 ⟨hw 8 (by kernel_rfl), (fun _ h => nomatch h)⟩)⟩)⟩))
        clear hX
        rw [h5, h7, h8]
        clear h5 h7 h8
        rw [if_pos (by rfl)]
        go_wp2_with fail
        refine (C4.out _).mono ?_
        rintro _ w2 ⟨rfl, hb⟩
        exact hK.out _ _ ⟨fun j => bif (9 :: [5, 7, 8]).contains j then (fun i => ([.agg (vc ab), .agg (vc b), .agg (vc a), vv ab, .bool false, .bool false, .agg (vc m), .agg (vc b), .agg (vc a), vv m, .bool false, .bool false, .bool false, .agg (vc ab), vv n1, .agg (vc a), vv na, .agg (vc b), vv nb, vv n1, .bool false, .bool false, .bool false, .agg (vc a), vv na, vv a, .agg (vc a), .bool false, .bool false] : List Value).getD i undef) j else X j, rfl, HX.out, hT.up hb⟩
      refine Owed.next (n := 10) (o := ?orb10) ?horb10 ?hrb10 ?hsrb10
      case horb10 => rfl
      case hrb10 =>
        intro l act w1 hw hl hI K hK
        obtain ⟨X, rfl, hX, hT⟩ := hI
        have h5 : X 5 = .bool false := hX 5 (hw 5 (by kernel_rfl)) (by kernel_rfl)
        have h6 : X 6 = .agg (vc m) := hX 6 (hw 6 (by kernel_rfl)) (by kernel_rfl)
        have h9 : X 9 = vv m := hX 9 (hw 9 (by kernel_rfl)) (by kernel_rfl)
        have HX := Lib.hid (packsM 10 hX [5, 6, 9] (List.forall_mem_cons.2 ⟨hw 5 (by kernel_rfl), (List.forall_mem_cons.2 ⟨hw 6 (by kernel_rfl), (List.forall_mem_cons.2 ⟨hw 9 (by kernel_rfl), (fun _ h => nomatch h)⟩)⟩)⟩))
        clear hX
        rw [h5, h6, h9]
        clear h5 h6 h9
        rw [if_pos (by rfl)]
        refine wp_neq24 _ _ _ rfl _ _ _ _ rfl rfl ?_
        exact hK.out _ _ ⟨fun j => bif (10 :: [5, 6, 9]).contains j then (fun i => ([.agg (vc ab), .agg (vc b), .agg (vc a), vv ab, .bool false, .bool false, .agg (vc m), .agg (vc b), .agg (vc a), vv m, .bool false, .bool false, .bool false, .agg (vc ab), vv n1, .agg (vc a), vv na, .agg (vc b), vv nb, vv n1, .bool false, .bool false, .bool false, .agg (vc a), vv na, vv a, .agg (vc a), .bool false, .bool false] : List Value).getD i undef) j else X j, rfl, HX.out, hT⟩
      refine Owed.next (n := 11) (o := ?orb11) ?horb11 ?hrb11 ?hsrb11
      case horb11 => rfl
      case hrb11 =>
        intro l act w1 hw hl hI K hK
        obtain ⟨X, rfl, hX, hT⟩ := hI
        have h5 : X 5 = .bool false := hX 5 (hw 5 (by kernel_rfl)) (by kernel_rfl)
        have h10 : X 10 = .bool false := hX 10 (hw 10 (by kernel_rfl)) (by kernel_rfl)
        have HX := Lib.hid (packsM 11 hX [5, 10] (List.forall_mem_cons.2 ⟨hw 5 (by kernel_rfl), (List.forall_mem_cons.2 ⟨hw 10 (by kernel_rfl), (fun _ h => nomatch h)⟩)⟩))
        clear hX
        rw [h5, h10]
        clear h5 h10
        rw [if_pos (by rfl)]
        go_wp2_with fail
        exact hK.out _ _ ⟨fun j => bif (11 :: [5, 10]).contains j then (fun i => ([.agg (vc ab), .agg (vc b), .agg (vc a), vv ab, .bool false, .bool false, .agg (vc m), .agg (vc b), .agg (vc a), vv m, .bool false, .bool false, .bool false, .agg (vc ab), vv n1, .agg (vc a), vv na, .agg (vc b), vv nb, vv n1, .bool false, .bool false, .bool false, .agg (vc a), vv na, vv a, .agg (vc a), .bool false, .bool false] : List Value).getD i undef) j else X j, rfl, HX.out, hT⟩
      refine Owed.next (n := 12) (o := ?orb12) ?horb12 ?hrb12 ?hsrb12
      case horb12 => rfl
      case hrb12 =>
        intro l act w1 hw hl hI K hK
        obtain ⟨X, rfl, hX, hT⟩ := hI
        have h11 : X 11 = .bool false := hX 11 (hw 11 (by kernel_rfl)) (by kernel_rfl)
        have HX := Lib.hid (packsM 12 hX [11] (List.forall_mem_cons.2 ⟨hw 11 (by kernel_rfl), (fun _ h => nomatch h)⟩))
        clear hX
        rw [h11]
        clear h11
        rw [if_pos (by rfl)]
        go_wp2_with fail
        exact hK.out _ _ ⟨fun j => bif (12 :: [11]).contains j then (fun i => ([.agg (vc ab), .agg (vc b), .agg (vc a), vv ab, .bool false, .bool false, .agg (vc m), .agg (vc b), .agg (vc a), vv m, .bool false, .bool false, .bool false, .agg (vc ab), vv n1, .agg (vc a), vv na, .agg (vc b), vv nb, vv n1, .bool false, .bool false, .bool false, .agg (vc a), vv na, vv a, .agg (vc a), .bool false, .bool false] : List Value).getD i undef) j else X j, rfl, HX.out, hT⟩
      refine Owed.next (n := 13) (o := ?orb13) ?horb13 ?hrb13 ?hsrb13
      case horb13 => rfl
      case hrb13 =>
        intro l act w1 hw hl hI K hK
        obtain ⟨X, rfl, hX, hT⟩ := hI
        have h12 : X 12 = .bool false := hX 12 (hw 12 (by kernel_rfl)) (by kernel_rfl)
        have HX := Lib.hid (packsM 13 hX [12] (List.forall_mem_cons.2 ⟨hw 12 (by kernel_rfl), (fun _ h => nomatch h)⟩))
        clear hX
        rw [h12]
        clear h12
        rw [if_pos (by rfl)]
        refine wp_load_row 24 _ rfl (p) rfl 24 (vc ab) (0, 0) _ hT.tl.heap Try.underlying24 rfl (i24v ab) ?_
        exact hK.out _ _ ⟨fun j => bif (13 :: [12]).contains j then (fun i => ([.agg (vc ab), .agg (vc b), .agg (vc a), vv ab, .bool false, .bool false, .agg (vc m), .agg (vc b), .agg (vc a), vv m, .bool false, .bool false, .bool false, .agg (vc ab), vv n1, .agg (vc a), vv na, .agg (vc b), vv nb, vv n1, .bool false, .bool false, .bool false, .agg (vc a), vv na, vv a, .agg (vc a), .bool false, .bool false] : List Value).getD i undef) j else X j, rfl, HX.out, hT⟩
      refine Owed.next (n := 14) (o := ?orb14) ?horb14 ?hrb14 ?hsrb14
      case horb14 => rfl
      case hrb14 =>
        intro l act w1 hw hl hI K hK
        obtain ⟨X, rfl, hX, hT⟩ := hI
        have h12 : X 12 = .bool false := hX 12 (hw 12 (by kernel_rfl)) (by kernel_rfl)
        have h13 : X 13 = .agg (vc ab) := hX 13 (hw 13 (by kernel_rfl)) (by kernel_rfl)
        have HX := Lib.hid (packsM 14 hX [12, 13] (List.forall_mem_cons.2 ⟨hw 12 (by kernel_rfl), (List.forall_mem_cons.2 ⟨hw 13 (by kernel_rfl), (fun _ h => nomatch h)⟩)⟩))
        clear hX
        rw [h12, h13]
        clear h12 h13
        rw [if_pos (by rfl)]
        go_wp2_with fail
        refine (C5.out _).mono ?_
        rintro _ w2 ⟨rfl, hb⟩
        exact hK.out _ _ ⟨fun j => bif (14 :: [12, 13]).contains j then (fun i => ([.agg (vc ab), .agg (vc b), .agg (vc a), vv ab, .bool false, .bool false, .agg (vc m), .agg (vc b), .agg (vc a), vv m, .bool false, .bool false, .bool false, .agg (vc ab), vv n1, .agg (vc a), vv na, .agg (vc b), vv nb, vv n1, .bool false, .bool false, .bool false, .agg (vc a), vv na, vv a, .agg (vc a), .bool false, .bool false] : List Value).getD i undef) j else X j, rfl, HX.out, hT.up hb⟩
      refine Owed.next (n := 15) (o := ?orb15) ?horb15 ?hrb15 ?hsrb15
      case horb15 => rfl
      case hrb15 =>
        intro l act w1 hw hl hI K hK
        obtain ⟨X, rfl, hX, hT⟩ := hI
        have h12 : X 12 = .bool false := hX 12 (hw 12 (by kernel_rfl)) (by kernel_rfl)
        have HX := Lib.hid (packsM 15 hX [12] (List.forall_mem_cons.2 ⟨hw 12 (by kernel_rfl), (fun _ h => nomatch h)⟩))
        clear hX
        rw [h12]
        clear h12
        rw [if_pos (by rfl)]
        refine wp_load_row 24 _ rfl (w.heap.size) rfl 24 (vc a) (0, 0) _ hT.tl.tl.tl.tl.heap Try.underlying24 rfl (i24v a) ?_
        exact hK.out _ _ ⟨fun j => bif (15 :: [12]).contains j then (fun i => ([.agg (vc ab), .agg (vc b), .agg (vc a), vv ab, .bool false, .bool false, .agg (vc m), .agg (vc b), .agg (vc a), vv m, .bool false, .bool false, .bool false, .agg (vc ab), vv n1, .agg (vc a), vv na, .agg (vc b), vv nb, vv n1, .bool false, .bool false, .bool false, .agg (vc a), vv na, vv a, .agg (vc a), .bool false, .bool false] : List Value).getD i undef) j else X j, rfl, HX.out, hT⟩
      refine Owed.next (n := 16) (o := ?orb16) ?horb16 ?hrb16 ?hsrb16
      case horb16 => rfl
      case hrb16 =>
        intro l act w1 hw hl hI K hK
        obtain ⟨X, rfl, hX, hT⟩ := hI
        have h12 : X 12 = .bool false := hX 12 (hw 12 (by kernel_rfl)) (by kernel_rfl)
        have h15 : X 15 = .agg (vc a) := hX 15 (hw 15 (by kernel_rfl)) (by kernel_rfl)
        have HX := Lib.hid (packsM 16 hX [12, 15] (List.forall_mem_cons.2 ⟨hw 12 (by kernel_rfl), (List.forall_mem_cons.2 ⟨hw 15 (by kernel_rfl), (fun _ h => nomatch h)⟩)⟩))
        clear hX
        rw [h12, h15]
        clear h12 h15
        rw [if_pos (by rfl)]
        go_wp2_with fail
        refine (C6.out _).mono ?_
        rintro _ w2 ⟨rfl, hb⟩
        exact hK.out _ _ ⟨fun j => bif (16 :: [12, 15]).contains j then (fun i => ([.agg (vc ab), .agg (vc b), .agg (vc a), vv ab, .bool false, .bool false, .agg (vc m), .agg (vc b), .agg (vc a), vv m, .bool false, .bool false, .bool false, .agg (vc ab), vv n1, .agg (vc a), vv na, .agg (vc b), vv nb, vv n1, .bool false, .bool false, .bool false, .agg (vc a), vv na, vv a, .agg (vc a), .bool false, .bool false] : List Value).getD i undef) j else X j, rfl, HX.out, hT.up hb⟩
      refine Owed.next (n := 17) (o := ?orb17) ?horb17 ?hrb17 ?hsrb17
      case horb17 => rfl
      case hrb17 =>
        intro l act w1 hw hl hI K hK
        obtain ⟨X, rfl, hX, hT⟩ := hI
        have h12 : X 12 = .bool false := hX 12 (hw 12 (by kernel_rfl)) (by kernel_rfl)
        have HX := Lib.hid (packsM 17 hX [12] (List.forall_mem_cons.2 ⟨hw 12 (by kernel_rfl), (fun _ h => nomatch h)⟩))
        clear hX
        rw [h12]
        clear h12
        rw [if_pos (by rfl)]
        refine wp_load_row 24 _ rfl (w.heap.size + 1) rfl 24 (vc b) (0, 0) _ hT.tl.tl.tl.heap Try.underlying24 rfl (i24v b) ?_
        exact hK.out _ _ ⟨fun j => bif (17 :: [12]).contains j then (fun i => ([.agg (vc ab), .agg (vc b), .agg (vc a), vv ab, .bool false, .bool false, .agg (vc m), .agg (vc b), .agg (vc a), vv m, .bool false, .bool false, .bool false, .agg (vc ab), vv n1, .agg (vc a), vv na, .agg (vc b), vv nb, vv n1, .bool false, .bool false, .bool false, .agg (vc a), vv na, vv a, .agg (vc a), .bool false, .bool false] : List Value).getD i undef) j else X j, rfl, HX.out, hT⟩
      refine Owed.next (n := 18) (o := ?orb18) ?horb18 ?hrb18 ?hsrb18
      case horb18 => rfl
      case hrb18 =>
        intro l act w1 hw hl hI K hK
        obtain ⟨X, rfl, hX, hT⟩ := hI
        have h12 : X 12 = .bool false := hX 12 (hw 12 (by kernel_rfl)) (by kernel_rfl)
        have h17 : X 17 = .agg (vc b) := hX 17 (hw 17 (by kernel_rfl)) (by kernel_rfl)
        have HX := Lib.hid (packsM 18 hX [12, 17] (List.forall_mem_cons.2 ⟨hw 12 (by kernel_rfl), (List.forall_mem_cons.2 ⟨hw 17 (by kernel_rfl), (fun _ h => nomatch h)⟩)⟩))
        clear hX
        rw [h12, h17]
        clear h12 h17
        rw [if_pos (by rfl)]
        go_wp2_with fail
        refine (C7.out _).mono ?_
        rintro _ w2 ⟨rfl, hb⟩
        exact hK.out _ _ ⟨fun j => bif (18 :: [12, 17]).contains j then (fun i => ([.agg (vc ab), .agg (vc b), .agg (vc a), vv ab, .bool false, .bool false, .agg (vc m), .agg (vc b), .agg (vc a), vv m, .bool false, .bool false, .bool false, .agg (vc ab), vv n1, .agg (vc a), vv na, .agg (vc b), vv nb, vv n1, .bool false, .bool false, .bool false, .agg (vc a), vv na, vv a, .agg (vc a), .bool false, .bool false] : List Value).getD i undef) j else X j, rfl, HX.out, hT.up hb⟩
      refine Owed.next (n := 19) (o := ?orb19) ?horb19 ?hrb19 ?hsrb19
      case horb19 => rfl
      case hrb19 =>
        intro l act w1 hw hl hI K hK
        obtain ⟨X, rfl, hX, hT⟩ := hI
        have h12 : X 12 = .bool false := hX 12 (hw 12 (by kernel_rfl)) (by kernel_rfl)
        have h16 : X 16 = vv na := hX 16 (hw 16 (by kernel_rfl)) (by kernel_rfl)
        have h18 : X 18 = vv nb := hX 18 (hw 18 (by kernel_rfl)) (by kernel_rfl)
        have HX := Lib.hid (packsM 19 hX [12, 16, 18] (List.forall_mem_cons.2 ⟨hw 12 (by kernel_rfl), (List.forall_mem_cons.2 ⟨hw 16 (by kernel_rfl), (List.forall_mem_cons.2 ⟨hw 18 (by kernel_rfl), (fun _ h => nomatch h)⟩)⟩)⟩))
        clear hX
        rw [h12, h16, h18]
        clear h12 h16 h18
        rw [if_pos (by rfl)]
        go_wp2_with fail
        refine (C8.out _).mono ?_
        rintro _ w2 ⟨rfl, hb⟩
        exact hK.out _ _ ⟨fun j => bif (19 :: [12, 16, 18]).contains j then (fun i => ([.agg (vc ab), .agg (vc b), .agg (vc a), vv ab, .bool false, .bool false, .agg (vc m), .agg (vc b), .agg (vc a), vv m, .bool false, .bool false, .bool false, .agg (vc ab), vv n1, .agg (vc a), vv na, .agg (vc b), vv nb, vv n1, .bool false, .bool false, .bool false, .agg (vc a), vv na, vv a, .agg (vc a), .bool false, .bool false] : List Value).getD i undef) j else X j, rfl, HX.out, hT.up hb⟩
      refine Owed.next (n := 20) (o := ?orb20) ?horb20 ?hrb20 ?hsrb20
      case horb20 => rfl
      case hrb20 =>
        intro l act w1 hw hl hI K hK
        obtain ⟨X, rfl, hX, hT⟩ := hI
        have h12 : X 12 = .bool false := hX 12 (hw 12 (by kernel_rfl)) (by kernel_rfl)
        have h14 : X 14 = vv n1 := hX 14 (hw 14 (by kernel_rfl)) (by kernel_rfl)
        have h19 : X 19 = vv n1 := hX 19 (hw 19 (by kernel_rfl)) (by kernel_rfl)
        have HX := Lib.hid (packsM 20 hX [12, 14, 19] (List.forall_mem_cons.2 ⟨hw 12 (by kernel_rfl), (List.forall_mem_cons.2 ⟨hw 14 (by kernel_rfl), (List.forall_mem_cons.2 ⟨hw 19 (by kernel_rfl), (fun _ h => nomatch h)⟩)⟩)⟩))
        clear hX
        rw [h12, h14, h19]
        clear h12 h14 h19
        rw [if_pos (by rfl)]
        refine wp_neq24 _ _ _ rfl _ _ _ _ rfl rfl ?_
        exact hK.out _ _ ⟨fun j => bif (20 :: [12, 14, 19]).contains j then (fun i => ([.agg (vc ab), .agg (vc b), .agg (vc a), vv ab, .bool false, .bool false, .agg (vc m), .agg (vc b), .agg (vc a), vv m, .bool false, .bool false, .bool false, .agg (vc ab), vv n1, .agg (vc a), vv na, .agg (vc b), vv nb, vv n1, .bool false, .bool false, .bool false, .agg (vc a), vv na, vv a, .agg (vc a), .bool false, .bool false] : List Value).getD i undef) j else X j, rfl, HX.out, hT⟩
      refine Owed.next (n := 21) (o := ?orb21) ?horb21 ?hrb21 ?hsrb21
      case horb21 => rfl
      case hrb21 =>
        intro l act w1 hw hl hI K hK
        obtain ⟨X, rfl, hX, hT⟩ := hI
        have h12 : X 12 = .bool false := hX 12 (hw 12 (by kernel_rfl)) (by kernel_rfl)
        have h20 : X 20 = .bool false := hX 20 (hw 20 (by kernel_rfl)) (by kernel_rfl)
        have HX := Lib.hid (packsM 21 hX [12, 20] (List.forall_mem_cons.2 ⟨hw 12 (by kernel_rfl), (List.forall_mem_cons.2 ⟨hw 20 (by kernel_rfl), (fun _ h => nomatch h)⟩)⟩))
        clear hX
        rw [h12, h20]
        clear h12 h20
        rw [if_pos (by rfl)]
        go_wp2_with fail
        exact hK.out _ _ ⟨fun j => bif (21 :: [12, 20]).contains j then (fun i => ([.agg (vc ab), .agg (vc b), .agg (vc a), vv ab, .bool false, .bool false, .agg (vc m), .agg (vc b), .agg (vc a), vv m, .bool false, .bool false, .bool false, .agg (vc ab), vv n1, .agg (vc a), vv na, .agg (vc b), vv nb, vv n1, .bool false, .bool false, .bool false, .agg (vc a), vv na, vv a, .agg (vc a), .bool false, .bool false] : List Value).getD i undef) j else X j, rfl, HX.out, hT⟩
      refine Owed.next (n := 22) (o := ?orb22) ?horb22 ?hrb22 ?hsrb22
      case horb22 => rfl
      case hrb22 =>
        intro l act w1 hw hl hI K hK
        obtain ⟨X, rfl, hX, hT⟩ := hI
        have h21 : X 21 = .bool false := hX 21 (hw 21 (by kernel_rfl)) (by kernel_rfl)
        have HX := Lib.hid (packsM 22 hX [21] (List.forall_mem_cons.2 ⟨hw 21 (by kernel_rfl), (fun _ h => nomatch h)⟩))
        clear hX
        rw [h21]
        clear h21
        rw [if_pos (by rfl)]
        go_wp2_with fail
        exact hK.out _ _ ⟨fun j => bif (22 :: [21]).contains j then (fun i => ([.agg (vc ab), .agg (vc b), .agg (vc a), vv ab, .bool false, .bool false, .agg (vc m), .agg (vc b), .agg (vc a), vv m, .bool false, .bool false, .bool false, .agg (vc ab), vv n1, .agg (vc a), vv na, .agg (vc b), vv nb, vv n1, .bool false, .bool false, .bool false, .agg (vc a), vv na, vv a, .agg (vc a), .bool false, .bool false] : List Value).getD i undef) j else X j, rfl, HX.out, hT⟩
      refine Owed.next (n := 23) (o := ?orb23) ?horb23 ?hrb23 ?hsrb23
      case horb23 => rfl
      case hrb23 =>
        intro l act w1 hw hl hI K hK
        obtain ⟨X, rfl, hX, hT⟩ := hI
        have h22 : X 22 = .bool false := hX 22 (hw 22 (by kernel_rfl)) (by kernel_rfl)
        have HX := Lib.hid (packsM 23 hX [22] (List.forall_mem_cons.2 ⟨hw 22 (by kernel_rfl), (fun _ h => nomatch h)⟩))
        clear hX
        rw [h22]
        clear h22
        rw [if_pos (by rfl)]
        refine wp_load_row 24 _ rfl (w.heap.size) rfl 24 (vc a) (0, 0) _ hT.tl.tl.tl.tl.heap Try.underlying24 rfl (i24v a) ?_
        exact hK.out _ _ ⟨fun j => bif (23 :: [22]).contains j then (fun i => ([.agg (vc ab), .agg (vc b), .agg (vc a), vv ab, .bool false, .bool false, .agg (vc m), .agg (vc b), .agg (vc a), vv m, .bool false, .bool false, .bool false, .agg (vc ab), vv n1, .agg (vc a), vv na, .agg (vc b), vv nb, vv n1, .bool false, .bool false, .bool false, .agg (vc a), vv na, vv a, .agg (vc a), .bool false, .bool false] : List Value).getD i undef) j else X j, rfl, HX.out, hT⟩
      refine Owed.next (n := 24) (o := ?orb24) ?horb24 ?hrb24 ?hsrb24
      case horb24 => rfl
      case hrb24 =>
        intro l act w1 hw hl hI K hK
        obtain ⟨X, rfl, hX, hT⟩ := hI
        have h22 : X 22 = .bool false := hX 22 (hw 22 (by kernel_rfl)) (by kernel_rfl)
        have h23 : X 23 = .agg (vc a) := hX 23 (hw 23 (by kernel_rfl)) (by kernel_rfl)
        have HX := Lib.hid (packsM 24 hX [22, 23] (List.forall_mem_cons.2 ⟨hw 22 (by kernel_rfl), (List.forall_mem_cons.2 ⟨hw 23 (by kernel_rfl), (fun _ h => nomatch h)⟩)⟩))
        clear hX
        rw [h22, h23]
        clear h22 h23
        rw [if_pos (by rfl)]
        go_wp2_with fail
        refine (C6.out _).mono ?_
        rintro _ w2 ⟨rfl, hb⟩
        exact hK.out _ _ ⟨fun j => bif (24 :: [22, 23]).contains j then (fun i => ([.agg (vc ab), .agg (vc b), .agg (vc a), vv ab, .bool false, .bool false, .agg (vc m), .agg (vc b), .agg (vc a), vv m, .bool false, .bool false, .bool false, .agg (vc ab), vv n1, .agg (vc a), vv na, .agg (vc b), vv nb, vv n1, .bool false, .bool false, .bool false, .agg (vc a), vv na, vv a, .agg (vc a), .bool false, .bool false] : List Value).getD i undef) j else X j, rfl, HX.out, hT.up hb⟩
      refine Owed.next (n := 25) (o := ?orb25) ?horb25 ?hrb25 ?hsrb25
      case horb25 => rfl
      case hrb25 =>
        intro l act w1 hw hl hI K hK
        obtain ⟨X, rfl, hX, hT⟩ := hI
        have h22 : X 22 = .bool false := hX 22 (hw 22 (by kernel_rfl)) (by kernel_rfl)
        have h24 : X 24 = vv na := hX 24 (hw 24 (by kernel_rfl)) (by kernel_rfl)
        have HX := Lib.hid (packsM 25 hX [22, 24] (List.forall_mem_cons.2 ⟨hw 22 (by kernel_rfl), (List.forall_mem_cons.2 ⟨hw 24 (by kernel_rfl), (fun _ h => nomatch h)⟩)⟩))
        clear hX
        rw [h22, h24]
        clear h22 h24
        rw [if_pos (by rfl)]
        go_wp2_with fail
        refine (C9.out _).mono ?_
        rintro _ w2 ⟨rfl, hb⟩
        exact hK.out _ _ ⟨fun j => bif (25 :: [22, 24]).contains j then (fun i => ([.agg (vc ab), .agg (vc b), .agg (vc a), vv ab, .bool false, .bool false, .agg (vc m), .agg (vc b), .agg (vc a), vv m, .bool false, .bool false, .bool false, .agg (vc ab), vv n1, .agg (vc a), vv na, .agg (vc b), vv nb, vv n1, .bool false, .bool false, .bool false, .agg (vc a), vv na, vv a, .agg (vc a), .bool false, .bool false] : List Value).getD i undef) j else X j, rfl, HX.out, hT.up hb⟩
      refine Owed.next (n := 26) (o := ?orb26) ?horb26 ?hrb26 ?hsrb26
      case horb26 => rfl
      case hrb26 =>
        intro l act w1 hw hl hI K hK
        obtain ⟨X, rfl, hX, hT⟩ := hI
        have h22 : X 22 = .bool false := hX 22 (hw 22 (by kernel_rfl)) (by kernel_rfl)
        have HX := Lib.hid (packsM 26 hX [22] (List.forall_mem_cons.2 ⟨hw 22 (by kernel_rfl), (fun _ h => nomatch h)⟩))
        clear hX
        rw [h22]
        clear h22
        rw [if_pos (by rfl)]
        refine wp_load_row 24 _ rfl (w.heap.size) rfl 24 (vc a) (0, 0) _ hT.tl.tl.tl.tl.heap Try.underlying24 rfl (i24v a) ?_
        exact hK.out _ _ ⟨fun j => bif (26 :: [22]).contains j then (fun i => ([.agg (vc ab), .agg (vc b), .agg (vc a), vv ab, .bool false, .bool false, .agg (vc m), .agg (vc b), .agg (vc a), vv m, .bool false, .bool false, .bool false, .agg (vc ab), vv n1, .agg (vc a), vv na, .agg (vc b), vv nb, vv n1, .bool false, .bool false, .bool false, .agg (vc a), vv na, vv a, .agg (vc a), .bool false, .bool false] : List Value).getD i undef) j else X j, rfl, HX.out, hT⟩
      refine Owed.next (n := 27) (o := ?orb27) ?horb27 ?hrb27 ?hsrb27
      case horb27 => rfl
      case hrb27 =>
        intro l act w1 hw hl hI K hK
        obtain ⟨X, rfl, hX, hT⟩ := hI
        have h22 : X 22 = .bool false := hX 22 (hw 22 (by kernel_rfl)) (by kernel_rfl)
        have h25 : X 25 = vv a := hX 25 (hw 25 (by kernel_rfl)) (by kernel_rfl)
        have h26 : X 26 = .agg (vc a) := hX 26 (hw 26 (by kernel_rfl)) (by kernel_rfl)
        have HX := Lib.hid (packsM 27 hX [22, 25, 26] (List.forall_mem_cons.2 ⟨hw 22 (by kernel_rfl), (List.forall_mem_cons.2 ⟨hw 25 (by kernel_rfl), (List.forall_mem_cons.2 ⟨hw 26 (by kernel_rfl), (fun _ h => nomatch h)⟩)⟩)⟩))
        clear hX
        rw [h22, h25, h26]
        clear h22 h25 h26
        rw [if_pos (by rfl)]
        refine wp_neq24 _ _ _ rfl _ _ _ _ rfl rfl ?_
        exact hK.out _ _ ⟨fun j => bif (27 :: [22, 25, 26]).contains j then (fun i => ([.agg (vc ab), .agg (vc b), .agg (vc a), vv ab, .bool false, .bool false, .agg (vc m), .agg (vc b), .agg (vc a), vv m, .bool false, .bool false, .bool false, .agg (vc ab), vv n1, .agg (vc a), vv na, .agg (vc b), vv nb, vv n1, .bool false, .bool false, .bool false, .agg (vc a), vv na, vv a, .agg (vc a), .bool false, .bool false] : List Value).getD i undef) j else X j, rfl, HX.out, hT⟩
      refine Owed.next (n := 28) (o := ?orb28) ?horb28 ?hrb28 ?hsrb28
      case horb28 => rfl
      case hrb28 =>
        intro l act w1 hw hl hI K hK
        obtain ⟨X, rfl, hX, hT⟩ := hI
        have h22 : X 22 = .bool false := hX 22 (hw 22 (by kernel_rfl)) (by kernel_rfl)
        have h27 : X 27 = .bool false := hX 27 (hw 27 (by kernel_rfl)) (by kernel_rfl)
        have HX := Lib.hid (packsM 28 hX [22, 27] (List.forall_mem_cons.2 ⟨hw 22 (by kernel_rfl), (List.forall_mem_cons.2 ⟨hw 27 (by kernel_rfl), (fun _ h => nomatch h)⟩)⟩))
        clear hX
        rw [h22, h27]
        clear h22 h27
        rw [if_pos (by rfl)]
        go_wp2_with fail
        exact hK.out _ _ ⟨fun j => bif (28 :: [22, 27]).contains j then (fun i => ([.agg (vc ab), .agg (vc b), .agg (vc a), vv ab, .bool false, .bool false, .agg (vc m), .agg (vc b), .agg (vc a), vv m, .bool false, .bool false, .bool false, .agg (vc ab), vv n1, .agg (vc a), vv na, .agg (vc b), vv nb, vv n1, .bool false, .bool false, .bool false, .agg (vc a), vv na, vv a, .agg (vc a), .bool false, .bool false] : List Value).getD i undef) j else X j, rfl, HX.out, hT⟩
      exact Owed.last rfl
    case finrb =>
      intro l act w1 hl hI
      obtain ⟨X, rfl, hX, hT⟩ := hI
      have h0 : X 0 = .agg (vc ab) := hX 0 (hl 0 (by kernel_rfl)) (by kernel_rfl)
      have h1 : X 1 = .agg (vc b) := hX 1 (hl 1 (by kernel_rfl)) (by kernel_rfl)
      have h2 : X 2 = .agg (vc a) := hX 2 (hl 2 (by kernel_rfl)) (by kernel_rfl)
      have h3 : X 3 = vv ab := hX 3 (hl 3 (by kernel_rfl)) (by kernel_rfl)
      have h4 : X 4 = .bool false := hX 4 (hl 4 (by kernel_rfl)) (by kernel_rfl)
      have h5 : X 5 = .bool false := hX 5 (hl 5 (by kernel_rfl)) (by kernel_rfl)
      have h6 : X 6 = .agg (vc m) := hX 6 (hl 6 (by kernel_rfl)) (by kernel_rfl)
      have h7 : X 7 = .agg (vc b) := hX 7 (hl 7 (by kernel_rfl)) (by kernel_rfl)
      have h8 : X 8 = .agg (vc a) := hX 8 (hl 8 (by kernel_rfl)) (by kernel_rfl)
      have h9 : X 9 = vv m := hX 9 (hl 9 (by kernel_rfl)) (by kernel_rfl)
      have h10 : X 10 = .bool false := hX 10 (hl 10 (by kernel_rfl)) (by kernel_rfl)
      have h11 : X 11 = .bool false := hX 11 (hl 11 (by kernel_rfl)) (by kernel_rfl)
      have h12 : X 12 = .bool false := hX 12 (hl 12 (by kernel_rfl)) (by kernel_rfl)
      have h13 : X 13 = .agg (vc ab) := hX 13 (hl 13 (by kernel_rfl)) (by kernel_rfl)
      have h14 : X 14 = vv n1 := hX 14 (hl 14 (by kernel_rfl)) (by kernel_rfl)
      have h15 : X 15 = .agg (vc a) := hX 15 (hl 15 (by kernel_rfl)) (by kernel_rfl)
      have h16 : X 16 = vv na := hX 16 (hl 16 (by kernel_rfl)) (by kernel_rfl)
      have h17 : X 17 = .agg (vc b) := hX 17 (hl 17 (by kernel_rfl)) (by kernel_rfl)
      have h18 : X 18 = vv nb := hX 18 (hl 18 (by kernel_rfl)) (by kernel_rfl)
      have h19 : X 19 = vv n1 := hX 19 (hl 19 (by kernel_rfl)) (by kernel_rfl)
      have h20 : X 20 = .bool false := hX 20 (hl 20 (by kernel_rfl)) (by kernel_rfl)
      have h21 : X 21 = .bool false := hX 21 (hl 21 (by kernel_rfl)) (by kernel_rfl)
      have h22 : X 22 = .bool false := hX 22 (hl 22 (by kernel_rfl)) (by kernel_rfl)
      have h23 : X 23 = .agg (vc a) := hX 23 (hl 23 (by kernel_rfl)) (by kernel_rfl)
      have h24 : X 24 = vv na := hX 24 (hl 24 (by kernel_rfl)) (by kernel_rfl)
      have h25 : X 25 = vv a := hX 25 (hl 25 (by kernel_rfl)) (by kernel_rfl)
      have h26 : X 26 = .agg (vc a) := hX 26 (hl 26 (by kernel_rfl)) (by kernel_rfl)
      have h27 : X 27 = .bool false := hX 27 (hl 27 (by kernel_rfl)) (by kernel_rfl)
      have h28 : X 28 = .bool false := hX 28 (hl 28 (by kernel_rfl)) (by kernel_rfl)
      rw [h0, h1, h2, h3, h4, h5, h6, h7, h8, h9, h10, h11, h12, h13, h14, h15, h16, h17, h18, h19, h20, h21, h22, h23, h24, h25, h26, h27, h28]
      clear h0 h1 h2 h3 h4 h5 h6 h7 h8 h9 h10 h11 h12 h13 h14 h15 h16 h17 h18 h19 h20 h21 h22 h23 h24 h25 h26 h27 h28 hX
      have HS2 := Lib.hid hT
      clear hT hl HS
      clear X
      go_wp2_with fail
      refine wp_region_owed (fun l act w1 => ∃ X : Nat → Value, act = ⟨(List.toArray (vv a :: vv b :: vv c :: .pointer (some ⟨w.heap.size, 0, none⟩) :: .pointer (some ⟨w.heap.size + 1, 0, none⟩) :: .pointer (some ⟨w.heap.size + 1 + 1, 0, none⟩) :: .bool false :: .pointer (some ⟨p, 0, none⟩) :: .pointer (some ⟨q, 0, none⟩) :: .agg (vc a) :: .agg (vc b) :: vv ab :: .agg (vc a) :: .agg (vc b) :: vv m :: .agg (vc ab) :: .agg (vc b) :: .agg (vc a) :: vv ab :: .bool false :: .bool false :: .agg (vc m) :: .agg (vc b) :: .agg (vc a) :: vv m :: .bool false :: .bool false :: .bool false :: .agg (vc ab) :: vv n1 :: .agg (vc a) :: vv na :: .agg (vc b) :: vv nb :: vv n1 :: .bool false :: .bool false :: .bool false :: .agg (vc a) :: vv na :: vv a :: .agg (vc a) :: .bool false :: .bool false :: X 0 :: X 1 :: X 2 :: X 3 :: X 4 :: X 5 :: X 6 :: X 7 :: X 8 :: X 9 :: X 10 :: X 11 :: X 12 :: X 13 :: X 14 :: X 15 :: X 16 :: X 17 :: X 18 :: X 19 :: X 20 :: X 21 :: undef :: undef :: undef :: undef :: undef :: undef :: undef :: undef :: undef :: undef :: undef :: undef :: undef :: undef :: undef :: undef :: undef :: undef :: undef :: undef :: undef :: undef :: undef :: [])), []⟩ ∧ (∀ i, l i = true → ([0, 1, 2, 3, 4, 5, 6, 7, 8, 9, 10, 11, 12, 13, 14, 15, 16, 17, 18, 19, 20, 21] : List Nat).contains i = true → X i = (fun i => ([.agg (vc a), .agg (vc b), .agg (vc c), vv bc, vv x, .agg (vc m), .agg (vc a), .agg (vc c), vv ac, vv x, .bool false, .bool false, .agg (vc ab), .agg (vc c), vv y, .agg (vc a), .agg (vc b), .agg (vc c), vv bc, vv y, .bool false, .bool false] : List Value).getD i undef) i) ∧ Sb w w1 [(q, .cells (vc m) 24), (p, .cells (vc ab) 24), (w.heap.size + 1 + 1, .cells (vc c) 24), (w.heap.size + 1, .cells (vc b) 24), (w.heap.size, .cells (vc a) 24)]) (by kernel_rfl) (by kernel_rfl) ⟨(fun i => ([undef, undef, undef, undef, undef, undef, undef, undef, undef, undef, undef, undef, undef, undef, undef, undef, undef, undef, undef, undef, undef, undef] : List Value).getD i undef), rfl, (fun i h => by cases h), HS2.out.drew⟩ ?strc ?finrc
      case strc =>
        go_light
        refine Owed.next (n := 0) (o := ?orc0) ?horc0 ?hrc0 ?hsrc0
        case horc0 => rfl
        case hrc0 =>
          intro l act w1 hw hl hI K hK
          obtain ⟨X, rfl, hX, hT⟩ := hI
          have HX := Lib.hid (packsM 0 hX [] (fun _ h => nomatch h))
          clear hX
          rw [if_pos (by rfl)]
          refine wp_load_row 24 _ rfl (w.heap.size) rfl 24 (vc a) (0, 0) _ hT.tl.tl.tl.tl.heap Try.underlying24 rfl (i24v a) ?_
          exact hK.out _ _ ⟨fun j => bif (0 :: []).contains j then (fun i => ([.agg (vc a), .agg (vc b), .agg (vc c), vv bc, vv x, .agg (vc m), .agg (vc a), .agg (vc c), vv ac, vv x, .bool false, .bool false, .agg (vc ab), .agg (vc c), vv y, .agg (vc a), .agg (vc b), .agg (vc c), vv bc, vv y, .bool false, .bool false] : List Value).getD i undef) j else X j, rfl, HX.out, hT⟩
        refine Owed.next (n := 1) (o := ?orc1) ?horc1 ?hrc1 ?hsrc1
        case horc1 => rfl
        case hrc1 =>
          intro l act w1 hw hl hI K hK
          obtain ⟨X, rfl, hX, hT⟩ := hI
          have HX := Lib.hid (packsM 1 hX [] (fun _ h => nomatch h))
          clear hX
          rw [if_pos (by rfl)]
          refine wp_load_row 24 _ rfl (w.heap.size + 1) rfl 24 (vc b) (0, 0) _ hT.tl.tl.tl.heap Try.underlying24 rfl (i24v b) ?_
          exact hK.out _ _ ⟨fun j => bif (1 :: []).contains j then (fun i => ([.agg (vc a), .agg (vc b), .agg (vc c), vv bc, vv x, .agg (vc m), .agg (vc a), .agg (vc c), vv ac, vv x, .bool false, .bool false, .agg (vc ab), .agg (vc c), vv y, .agg (vc a), .agg (vc b), .agg (vc c), vv bc, vv y, .bool false, .bool false] : List Value).getD i undef) j else X j, rfl, HX.out, hT⟩
        refine Owed.next (n := 2) (o := ?orc2) ?horc2 ?hrc2 ?hsrc2
        case horc2 => rfl
        case hrc2 =>
          intro l act w1 hw hl hI K hK
          obtain ⟨X, rfl, hX, hT⟩ := hI
          have HX := Lib.hid (packsM 2 hX [] (fun _ h => nomatch h))
          clear hX
          rw [if_pos (by rfl)]
          refine wp_load_row 24 _ rfl (w.heap.size + 1 + 1) rfl 24 (vc c) (0, 0) _ hT.tl.tl.heap Try.underlying24 rfl (i24v c) ?_
          exact hK.out _ _ ⟨fun j => bif (2 :: []).contains j then (fun i => ([.agg (vc a), .agg (vc b), .agg (vc c), vv bc, vv x, .agg (vc m), .agg (vc a), .agg (vc c), vv ac, vv x, .bool false, .bool false, .agg (vc ab), .agg (vc c), vv y, .agg (vc a), .agg (vc b), .agg (vc c), vv bc, vv y, .bool false, .bool false] : List Value).getD i undef) j else X j, rfl, HX.out, hT⟩
        refine Owed.next (n := 3) (o := ?orc3) ?horc3 ?hrc3 ?hsrc3
        case horc3 => rfl
        case hrc3 =>
          intro l act w1 hw hl hI K hK
          obtain ⟨X, rfl, hX, hT⟩ := hI
          have h1 : X 1 = .agg (vc b) := hX 1 (hw 1 (by kernel_rfl)) (by kernel_rfl)
          have h2 : X 2 = .agg (vc c) := hX 2 (hw 2 (by kernel_rfl)) (by kernel_rfl)
          have HX := Lib.hid (packsM 3 hX [1, 2] (List.forall_mem_cons.2 ⟨hw 1 (by kernel_rfl), (List.forall_mem_cons.2 ⟨hw 2 (by kernel_rfl), (fun _ h => nomatch h)⟩)⟩))
          clear hX
          rw [h1, h2]
          clear h1 h2
          rw [if_pos (by rfl)]
          go_wp2_with fail
          refine (C10.out _).mono ?_
          rintro _ w2 ⟨rfl, hb⟩
          exact hK.out _ _ ⟨fun j => bif (3 :: [1, 2]).contains j then (fun i => ([.agg (vc a), .agg (vc b), .agg (vc c), vv bc, vv x, .agg (vc m), .agg (vc a), .agg (vc c), vv ac, vv x, .bool false, .bool false, .agg (vc ab), .agg (vc c), vv y, .agg (vc a), .agg (vc b), .agg (vc c), vv bc, vv y, .bool false, .bool false] : List Value).getD i undef) j else X j, rfl, HX.out, hT.up hb⟩
        refine Owed.next (n := 4) (o := ?orc4) ?horc4 ?hrc4 ?hsrc4
        case horc4 => rfl
        case hrc4 =>
          intro l act w1 hw hl hI K hK
          obtain ⟨X, rfl, hX, hT⟩ := hI
          have h0 : X 0 = .agg (vc a) := hX 0 (hw 0 (by kernel_rfl)) (by kernel_rfl)
          have h3 : X 3 = vv bc := hX 3 (hw 3 (by kernel_rfl)) (by kernel_rfl)
          have HX := Lib.hid (packsM 4 hX [0, 3] (List.forall_mem_cons.2 ⟨hw 0 (by kernel_rfl), (List.forall_mem_cons.2 ⟨hw 3 (by kernel_rfl), (fun _ h => nomatch h)⟩)⟩))
          clear hX
          rw [h0, h3]
          clear h0 h3
          rw [if_pos (by rfl)]
          go_wp2_with fail
          refine (C11.out _).mono ?_
          rintro _ w2 ⟨rfl, hb⟩
          exact hK.out _ _ ⟨fun j => bif (4 :: [0, 3]).contains j then (fun i => ([.agg (vc a), .agg (vc b), .agg (vc c), vv bc, vv x, .agg (vc m), .agg (vc a), .agg (vc c), vv ac, vv x, .bool false, .bool false, .agg (vc ab), .agg (vc c), vv y, .agg (vc a), .agg (vc b), .agg (vc c), vv bc, vv y, .bool false, .bool false] : List Value).getD i undef) j else X j, rfl, HX.out, hT.up hb⟩
        refine Owed.next (n := 5) (o := ?orc5) ?horc5 ?hrc5 ?hsrc5
        case horc5 => rfl
        case hrc5 =>
          intro l act w1 hw hl hI K hK
          obtain ⟨X, rfl, hX, hT⟩ := hI
          have HX := Lib.hid (packsM 5 hX [] (fun _ h => nomatch h))
          clear hX
          rw [if_pos (by rfl)]
          refine wp_load_row 24 _ rfl (q) rfl 24 (vc m) (0, 0) _ hT.heap Try.underlying24 rfl (i24v m) ?_
          exact hK.out _ _ ⟨fun j => bif (5 :: []).contains j then (fun i => ([.agg (vc a), .agg (vc b), .agg (vc c), vv bc, vv x, .agg (vc m), .agg (vc a), .agg (vc c), vv ac, vv x, .bool false, .bool false, .agg (vc ab), .agg (vc c), vv y, .agg (vc a), .agg (vc b), .agg (vc c), vv bc, vv y, .bool false, .bool false] : List Value).getD i undef) j else X j, rfl, HX.out, hT⟩
        refine Owed.next (n := 6) (o := ?orc6) ?horc6 ?hrc6 ?hsrc6
        case horc6 => rfl
        case hrc6 =>
          intro l act w1 hw hl hI K hK
          obtain ⟨X, rfl, hX, hT⟩ := hI
          have HX := Lib.hid (packsM 6 hX [] (fun _ h => nomatch h))
          clear hX
          rw [if_pos (by rfl)]
          refine wp_load_row 24 _ rfl (w.heap.size) rfl 24 (vc a) (0, 0) _ hT.tl.tl.tl.tl.heap Try.underlying24 rfl (i24v a) ?_
          exact hK.out _ _ ⟨fun j => bif (6 :: []).contains j then (fun i => ([.agg (vc a), .agg (vc b), .agg (vc c), vv bc, vv x, .agg (vc m), .agg (vc a), .agg (vc c), vv ac, vv x, .bool false, .bool false, .agg (vc ab), .agg (vc c), vv y, .agg (vc a), .agg (vc b), .agg (vc c), vv bc, vv y, .bool false, .bool false] : List Value).getD i undef) j else X j, rfl, HX.out, hT⟩
        refine Owed.next (n := 7) (o := ?orc7) ?horc7 ?hrc7 ?hsrc7
        case horc7 => rfl
        case hrc7 =>
          intro l act w1 hw hl hI K hK
          obtain ⟨X, rfl, hX, hT⟩ := hI
          have HX := Lib.hid (packsM 7 hX [] (fun _ h => nomatch h))
          clear hX
          rw [if_pos (by rfl)]
          refine wp_load_row 24 _ rfl (w.heap.size + 1 + 1) rfl 24 (vc c) (0, 0) _ hT.tl.tl.heap Try.underlying24 rfl (i24v c) ?_
          exact hK.out _ _ ⟨fun j => bif (7 :: []).contains j then (fun i => ([.agg (vc a), .agg (vc b), .agg (vc c), vv bc, vv x, .agg (vc m), .agg (vc a), .agg (vc c), vv ac, vv x, .bool false, .bool false, .agg (vc ab), .agg (vc c), vv y, .agg (vc a), .agg (vc b), .agg (vc c), vv bc, vv y, .bool false, .bool false] : List Value).getD i undef) j else X j, rfl, HX.out, hT⟩
        refine Owed.next (n := 8) (o := ?orc8) ?horc8 ?hrc8 ?hsrc8
        case horc8 => rfl
        case hrc8 =>
          intro l act w1 hw hl hI K hK
          obtain ⟨X, rfl, hX, hT⟩ := hI
          have h6 : X 6 = .agg (vc a) := hX 6 (hw 6 (by kernel_rfl)) (by kernel_rfl)
          have h7 : X 7 = .agg (vc c) := hX 7 (hw 7 (by kernel_rfl)) (by kernel_rfl)
          have HX := Lib.hid (packsM 8 hX [6, 7] (List.forall_mem_cons.2 ⟨hw 6 (by kernel_rfl), (List.forall_mem_cons.2 ⟨hw 7 (by kernel_rfl), (fun _ h => nomatch h)⟩)⟩))
          clear hX
          rw [h6, h7]
          clear h6 h7
          rw [if_pos (by rfl)]
          go_wp2_with fail
          refine (C12.out _).mono ?_
          rintro _ w2 ⟨rfl, hb⟩
          exact hK.out _ _ ⟨fun j => bif (8 :: [6, 7]).contains j then (fun i => ([.agg (vc a), .agg (vc b), .agg (vc c), vv bc, vv x, .agg (vc m), .agg (vc a), .agg (vc c), vv ac, vv x, .bool false, .bool false, .agg (vc ab), .agg (vc c), vv y, .agg (vc a), .agg (vc b), .agg (vc c), vv bc, vv y, .bool false, .bool false] : List Value).getD i undef) j else X j, rfl, HX.out, hT.up hb⟩
        refine Owed.next (n := 9) (o := ?orc9) ?horc9 ?hrc9 ?hsrc9
        case horc9 => rfl
        case hrc9 =>
          intro l act w1 hw hl hI K hK
          obtain ⟨X, rfl, hX, hT⟩ := hI
          have h5 : X 5 = .agg (vc m) := hX 5 (hw 5 (by kernel_rfl)) (by kernel_rfl)
          have h8 : X 8 = vv ac := hX 8 (hw 8 (by kernel_rfl)) (by kernel_rfl)
          have HX := Lib.hid (packsM 9 hX [5, 8] (List.forall_mem_cons.2 ⟨hw 5 (by kernel_rfl), (List.forall_mem_cons.2 ⟨hw 8 (by kernel_rfl), (fun _ h => nomatch h)⟩)⟩))
          clear hX
          rw [h5, h8]
          clear h5 h8
          rw [if_pos (by rfl)]
          go_wp2_with fail
          refine (C13.out _).mono ?_
          rintro _ w2 ⟨rfl, hb⟩
          exact hK.out _ _ ⟨fun j => bif (9 :: [5, 8]).contains j then (fun i => ([.agg (vc a), .agg (vc b), .agg (vc c), vv bc, vv x, .agg (vc m), .agg (vc a), .agg (vc c), vv ac, vv x, .bool false, .bool false, .agg (vc ab), .agg (vc c), vv y, .agg (vc a), .agg (vc b), .agg (vc c), vv bc, vv y, .bool false, .bool false] : List Value).getD i undef) j else X j, rfl, HX.out, hT.up hb⟩
        refine Owed.next (n := 10) (o := ?orc10) ?horc10 ?hrc10 ?hsrc10
        case horc10 => rfl
        case hrc10 =>
          intro l act w1 hw hl hI K hK
          obtain ⟨X, rfl, hX, hT⟩ := hI
          have h4 : X 4 = vv x := hX 4 (hw 4 (by kernel_rfl)) (by kernel_rfl)
          have h9 : X 9 = vv x := hX 9 (hw 9 (by kernel_rfl)) (by kernel_rfl)
          have HX := Lib.hid (packsM 10 hX [4, 9] (List.forall_mem_cons.2 ⟨hw 4 (by kernel_rfl), (List.forall_mem_cons.2 ⟨hw 9 (by kernel_rfl), (fun _ h => nomatch h)⟩)⟩))
          clear hX
          rw [h4, h9]
          clear h4 h9
          rw [if_pos (by rfl)]
          refine wp_neq24 _ _ _ rfl _ _ _ _ rfl rfl ?_
          exact hK.out _ _ ⟨fun j => bif (10 :: [4, 9]).contains j then (fun i => ([.agg (vc a), .agg (vc b), .agg (vc c), vv bc, vv x, .agg (vc m), .agg (vc a), .agg (vc c), vv ac, vv x, .bool false, .bool false, .agg (vc ab), .agg (vc c), vv y, .agg (vc a), .agg (vc b), .agg (vc c), vv bc, vv y, .bool false, .bool false] : List Value).getD i undef) j else X j, rfl, HX.out, hT⟩
        refine Owed.next (n := 11) (o := ?orc11) ?horc11 ?hrc11 ?hsrc11
        case horc11 => rfl
        case hrc11 =>
          intro l act w1 hw hl hI K hK
          obtain ⟨X, rfl, hX, hT⟩ := hI
          have h10 : X 10 = .bool false := hX 10 (hw 10 (by kernel_rfl)) (by kernel_rfl)
          have HX := Lib.hid (packsM 11 hX [10] (List.forall_mem_cons.2 ⟨hw 10 (by kernel_rfl), (fun _ h => nomatch h)⟩))
          clear hX
          rw [h10]
          clear h10
          rw [if_pos (by rfl)]
          go_wp2_with fail
          exact hK.out _ _ ⟨fun j => bif (11 :: [10]).contains j then (fun i => ([.agg (vc a), .agg (vc b), .agg (vc c), vv bc, vv x, .agg (vc m), .agg (vc a), .agg (vc c), vv ac, vv x, .bool false, .bool false, .agg (vc ab), .agg (vc c), vv y, .agg (vc a), .agg (vc b), .agg (vc c), vv bc, vv y, .bool false, .bool false] : List Value).getD i undef) j else X j, rfl, HX.out, hT⟩
        refine Owed.next (n := 12) (o := ?orc12) ?horc12 ?hrc12 ?hsrc12
        case horc12 => rfl
        case hrc12 =>
          intro l act w1 hw hl hI K hK
          obtain ⟨X, rfl, hX, hT⟩ := hI
          have h11 : X 11 = .bool false := hX 11 (hw 11 (by kernel_rfl)) (by kernel_rfl)
          have HX := Lib.hid (packsM 12 hX [11] (List.forall_mem_cons.2 ⟨hw 11 (by kernel_rfl), (fun _ h => nomatch h)⟩))
          clear hX
          rw [h11]
          clear h11
          rw [if_pos (by rfl)]
          refine wp_load_row 24 _ rfl (p) rfl 24 (vc ab) (0, 0) _ hT.tl.heap Try.underlying24 rfl (i24v ab) ?_
          exact hK.out _ _ ⟨fun j => bif (12 :: [11]).contains j then (fun i => ([.agg (vc a), .agg (vc b), .agg (vc c), vv bc, vv x, .agg (vc m), .agg (vc a), .agg (vc c), vv ac, vv x, .bool false, .bool false, .agg (vc ab), .agg (vc c), vv y, .agg (vc a), .agg (vc b), .agg (vc c), vv bc, vv y, .bool false, .bool false] : List Value).getD i undef) j else X j, rfl, HX.out, hT⟩
        refine Owed.next (n := 13) (o := ?orc13) ?horc13 ?hrc13 ?hsrc13
        case horc13 => rfl
        case hrc13 =>
          intro l act w1 hw hl hI K hK
          obtain ⟨X, rfl, hX, hT⟩ := hI
          have h11 : X 11 = .bool false := hX 11 (hw 11 (by kernel_rfl)) (by kernel_rfl)
          have HX := Lib.hid (packsM 13 hX [11] (List.forall_mem_cons.2 ⟨hw 11 (by kernel_rfl), (fun _ h => nomatch h)⟩))
          clear hX
          rw [h11]
          clear h11
          rw [if_pos (by rfl)]
          refine wp_load_row 24 _ rfl (w.heap.size + 1 + 1) rfl 24 (vc c) (0, 0) _ hT.tl.tl.heap Try.underlying24 rfl (i24v c) ?_
          exact hK.out _ _ ⟨fun j => bif (13 :: [11]).contains j then (fun i => ([.agg (vc a), .agg (vc b), .agg (vc c), vv bc, vv x, .agg (vc m), .agg (vc a), .agg (vc c), vv ac, vv x, .bool false, .bool false, .agg (vc ab), .agg (vc c), vv y, .agg (vc a), .agg (vc b), .agg (vc c), vv bc, vv y, .bool false, .bool false] : List Value).getD i undef) j else X j, rfl, HX.out, hT⟩
        refine Owed.next (n := 14) (o := ?orc14) ?horc14 ?hrc14 ?hsrc14
        case horc14 => rfl
        case hrc14 =>
          intro l act w1 hw hl hI K hK
          obtain ⟨X, rfl, hX, hT⟩ := hI
          have h11 : X 11 = .bool false := hX 11 (hw 11 (by kernel_rfl)) (by kernel_rfl)
          have h12 : X 12 = .agg (vc ab) := hX 12 (hw 12 (by kernel_rfl)) (by kernel_rfl)
          have h13 : X 13 = .agg (vc c) := hX 13 (hw 13 (by kernel_rfl)) (by kernel_rfl)
          have HX := Lib.hid (packsM 14 hX [11, 12, 13] (List.forall_mem_cons.2 ⟨hw 11 (by kernel_rfl), (List.forall_mem_cons.2 ⟨hw 12 (by kernel_rfl), (List.forall_mem_cons.2 ⟨hw 13 (by kernel_rfl), (fun _ h => nomatch h)⟩)⟩)⟩))
          clear hX
          rw [h11, h12, h13]
          clear h11 h12 h13
          rw [if_pos (by rfl)]
          go_wp2_with fail
          refine (C14.out _).mono ?_
          rintro _ w2 ⟨rfl, hb⟩
          exact hK.out _ _ ⟨fun j => bif (14 :: [11, 12, 13]).contains j then (fun i => ([.agg (vc a), .agg (vc b), .agg (vc c), vv bc, vv x, .agg (vc m), .agg (vc a), .agg (vc c), vv ac, vv x, .bool false, .bool false, .agg (vc ab), .agg (vc c), vv y, .agg (vc a), .agg (vc b), .agg (vc c), vv bc, vv y, .bool false, .bool false] : List Value).getD i undef) j else X j, rfl, HX.out, hT.up hb⟩
        refine Owed.next (n := 15) (o := ?orc15) ?horc15 ?hrc15 ?hsrc15
        case horc15 => rfl
        case hrc15 =>
          intro l act w1 hw hl hI K hK
          obtain ⟨X, rfl, hX, hT⟩ := hI
          have h11 : X 11 = .bool false := hX 11 (hw 11 (by kernel_rfl)) (by kernel_rfl)
          have HX := Lib.hid (packsM 15 hX [11] (List.forall_mem_cons.2 ⟨hw 11 (by kernel_rfl), (fun _ h => nomatch h)⟩))
          clear hX
          rw [h11]
          clear h11
          rw [if_pos (by rfl)]
          refine wp_load_row 24 _ rfl (w.heap.size) rfl 24 (vc a) (0, 0) _ hT.tl.tl.tl.tl.heap Try.underlying24 rfl (i24v a) ?_
          exact hK.out _ _ ⟨fun j => bif (15 :: [11]).contains j then (fun i => ([.agg (vc a), .agg (vc b), .agg (vc c), vv bc, vv x, .agg (vc m), .agg (vc a), .agg (vc c), vv ac, vv x, .bool false, .bool false, .agg (vc ab), .agg (vc c), vv y, .agg (vc a), .agg (vc b), .agg (vc c), vv bc, vv y, .bool false, .bool false] : List Value).getD i undef) j else X j, rfl, HX.out, hT⟩
        refine Owed.next (n := 16) (o := ?orc16) ?horc16 ?hrc16 ?hsrc16
        case horc16 => rfl
        case hrc16 =>
          intro l act w1 hw hl hI K hK
          obtain ⟨X, rfl, hX, hT⟩ := hI
          have h11 : X 11 = .bool false := hX 11 (hw 11 (by kernel_rfl)) (by kernel_rfl)
          have HX := Lib.hid (packsM 16 hX [11] (List.forall_mem_cons.2 ⟨hw 11 (by kernel_rfl), (fun _ h => nomatch h)⟩))
          clear hX
          rw [h11]
          clear h11
          rw [if_pos (by rfl)]
          refine wp_load_row 24 _ rfl (w.heap.size + 1) rfl 24 (vc b) (0, 0) _ hT.tl.tl.tl.heap Try.underlying24 rfl (i24v b) ?_
          exact hK.out _ _ ⟨fun j => bif (16 :: [11]).contains j then (fun i => ([.agg (vc a), .agg (vc b), .agg (vc c), vv bc, vv x, .agg (vc m), .agg (vc a), .agg (vc c), vv ac, vv x, .bool false, .bool false, .agg (vc ab), .agg (vc c), vv y, .agg (vc a), .agg (vc b), .agg (vc c), vv bc, vv y, .bool false, .bool false] : List Value).getD i undef) j else X j, rfl, HX.out, hT⟩
        refine Owed.next (n := 17) (o := ?orc17) ?horc17 ?hrc17 ?hsrc17
        case horc17 => rfl
        case hrc17 =>
          intro l act w1 hw hl hI K hK
          obtain ⟨X, rfl, hX, hT⟩ := hI
          have h11 : X 11 = .bool false := hX 11 (hw 11 (by kernel_rfl)) (by kernel_rfl)
          have HX := Lib.hid (packsM 17 hX [11] (List.forall_mem_cons.2 ⟨hw 11 (by kernel_rfl), (fun _ h => nomatch h)⟩))
          clear hX
          rw [h11]
          clear h11
          rw [if_pos (by rfl)]
          refine wp_load_row 24 _ rfl (w.heap.size + 1 + 1) rfl 24 (vc c) (0, 0) _ hT.tl.tl.heap Try.underlying24 rfl (i24v c) ?_
          exact hK.out _ _ ⟨fun j => bif (17 :: [11]).contains j then (fun i => ([.agg (vc a), .agg (vc b), .agg (vc c), vv bc, vv x, .agg (vc m), .agg (vc a), .agg (vc c), vv ac, vv x, .bool false, .bool false, .agg (vc ab), .agg (vc c), vv y, .agg (vc a), .agg (vc b), .agg (vc c), vv bc, vv y, .bool false, .bool false] : List Value).getD i undef) j else X j, rfl, HX.out, hT⟩
        refine Owed.next (n := 18) (o := ?orc18) ?horc18 ?hrc18 ?hsrc18
        case horc18 => rfl
        case hrc18 =>
          intro l act w1 hw hl hI K hK
          obtain ⟨X, rfl, hX, hT⟩ := hI
          have h11 : X 11 = .bool false := hX 11 (hw 11 (by kernel_rfl)) (by kernel_rfl)
          have h16 : X 16 = .agg (vc b) := hX 16 (hw 16 (by kernel_rfl)) (by kernel_rfl)
          have h17 : X 17 = .agg (vc c) := hX 17 (hw 17 (by kernel_rfl)) (by kernel_rfl)
          have HX := Lib.hid (packsM 18 hX [11, 16, 17] (List.forall_mem_cons.2 ⟨hw 11 (by kernel_rfl), (List.forall_mem_cons.2 ⟨hw 16 (by kernel_rfl), (List.forall_mem_cons.2 ⟨hw 17 (by kernel_rfl), (fun _ h => nomatch h)⟩)⟩)⟩))
          clear hX
          rw [h11, h16, h17]
          clear h11 h16 h17
          rw [if_pos (by rfl)]
          go_wp2_with fail
          refine (C10.out _).mono ?_
          rintro _ w2 ⟨rfl, hb⟩
          exact hK.out _ _ ⟨fun j => bif (18 :: [11, 16, 17]).contains j then (fun i => ([.agg (vc a), .agg (vc b), .agg (vc c), vv bc, vv x, .agg (vc m), .agg (vc a), .agg (vc c), vv ac, vv x, .bool false, .bool false, .agg (vc ab), .agg (vc c), vv y, .agg (vc a), .agg (vc b), .agg (vc c), vv bc, vv y, .bool false, .bool false] : List Value).getD i undef) j else X j, rfl, HX.out, hT.up hb⟩
        refine Owed.next (n := 19) (o := ?orc19) ?horc19 ?hrc19 ?hsrc19
        case horc19 => rfl
        case hrc19 =>
          intro l act w1 hw hl hI K hK
          obtain ⟨X, rfl, hX, hT⟩ := hI
          have h11 : X 11 = .bool false := hX 11 (hw 11 (by kernel_rfl)) (by kernel_rfl)
          have h15 : X 15 = .agg (vc a) := hX 15 (hw 15 (by kernel_rfl)) (by kernel_rfl)
          have h18 : X 18 = vv bc := hX 18 (hw 18 (by kernel_rfl)) (by kernel_rfl)
          have HX := Lib.hid (packsM 19 hX [11, 15, 18] (List.forall_mem_cons.2 ⟨hw 11 (by kernel_rfl), (List.forall_mem_cons.2 ⟨hw 15 (by kernel_rfl), (List.forall_mem_cons.2 ⟨hw 18 (by kernel_rfl), (fun _ h => nomatch h)⟩)⟩)⟩))
          clear hX
          rw [h11, h15, h18]
          clear h11 h15 h18
          rw [if_pos (by rfl)]
          go_wp2_with fail
          refine (C15.out _).mono ?_
          rintro _ w2 ⟨rfl, hb⟩
          exact hK.out _ _ ⟨fun j => bif (19 :: [11, 15, 18]).contains j then (fun i => ([.agg (vc a), .agg (vc b), .agg (vc c), vv bc, vv x, .agg (vc m), .agg (vc a), .agg (vc c), vv ac, vv x, .bool false, .bool false, .agg (vc ab), .agg (vc c), vv y, .agg (vc a), .agg (vc b), .agg (vc c), vv bc, vv y, .bool false, .bool false] : List Value).getD i undef) j else X j, rfl, HX.out, hT.up hb⟩
        refine Owed.next (n := 20) (o := ?orc20) ?horc20 ?hrc20 ?hsrc20
        case horc20 => rfl
        case hrc20 =>
          intro l act w1 hw hl hI K hK
          obtain ⟨X, rfl, hX, hT⟩ := hI
          have h11 : X 11 = .bool false := hX 11 (hw 11 (by kernel_rfl)) (by kernel_rfl)
          have h14 : X 14 = vv y := hX 14 (hw 14 (by kernel_rfl)) (by kernel_rfl)
          have h19 : X 19 = vv y := hX 19 (hw 19 (by kernel_rfl)) (by kernel_rfl)
          have HX := Lib.hid (packsM 20 hX [11, 14, 19] (List.forall_mem_cons.2 ⟨hw 11 (by kernel_rfl), (List.forall_mem_cons.2 ⟨hw 14 (by kernel_rfl), (List.forall_mem_cons.2 ⟨hw 19 (by kernel_rfl), (fun _ h => nomatch h)⟩)⟩)⟩))
          clear hX
          rw [h11, h14, h19]
          clear h11 h14 h19
          rw [if_pos (by rfl)]
          refine wp_neq24 _ _ _ rfl _ _ _ _ rfl rfl ?_
          exact hK.out _ _ ⟨fun j => bif (20 :: [11, 14, 19]).contains j then (fun i => ([.agg (vc a), .agg (vc b), .agg (vc c), vv bc, vv x, .agg (vc m), .agg (vc a), .agg (vc c), vv ac, vv x, .bool false, .bool false, .agg (vc ab), .agg (vc c), vv y, .agg (vc a), .agg (vc b), .agg (vc c), vv bc, vv y, .bool false, .bool false] : List Value).getD i undef) j else X j, rfl, HX.out, hT⟩
        refine Owed.next (n := 21) (o := ?orc21) ?horc21 ?hrc21 ?hsrc21
        case horc21 => rfl
        case hrc21 =>
          intro l act w1 hw hl hI K hK
          obtain ⟨X, rfl, hX, hT⟩ := hI
          have h11 : X 11 = .bool false := hX 11 (hw 11 (by kernel_rfl)) (by kernel_rfl)
          have h20 : X 20 = .bool false := hX 20 (hw 20 (by kernel_rfl)) (by kernel_rfl)
          have HX := Lib.hid (packsM 21 hX [11, 20] (List.forall_mem_cons.2 ⟨hw 11 (by kernel_rfl), (List.forall_mem_cons.2 ⟨hw 20 (by kernel_rfl), (fun _ h => nomatch h)⟩)⟩))
          clear hX
          rw [h11, h20]
          clear h11 h20
          rw [if_pos (by rfl)]
          go_wp2_with fail
          exact hK.out _ _ ⟨fun j => bif (21 :: [11, 20]).contains j then (fun i => ([.agg (vc a), .agg (vc b), .agg (vc c), vv bc, vv x, .agg (vc m), .agg (vc a), .agg (vc c), vv ac, vv x, .bool false, .bool false, .agg (vc ab), .agg (vc c), vv y, .agg (vc a), .agg (vc b), .agg (vc c), vv bc, vv y, .bool false, .bool false] : List Value).getD i undef) j else X j, rfl, HX.out, hT⟩
        exact Owed.last rfl
      case finrc =>
        intro l act w1 hl hI
        obtain ⟨X, rfl, hX, hT⟩ := hI
        have h0 : X 0 = .agg (vc a) := hX 0 (hl 0 (by kernel_rfl)) (by kernel_rfl)
        have h1 : X 1 = .agg (vc b) := hX 1 (hl 1 (by kernel_rfl)) (by kernel_rfl)
        have h2 : X 2 = .agg (vc c) := hX 2 (hl 2 (by kernel_rfl)) (by kernel_rfl)
        have h3 : X 3 = vv bc := hX 3 (hl 3 (by kernel_rfl)) (by kernel_rfl)
        have h4 : X 4 = vv x := hX 4 (hl 4 (by kernel_rfl)) (by kernel_rfl)
        have h5 : X 5 = .agg (vc m) := hX 5 (hl 5 (by kernel_rfl)) (by kernel_rfl)
        have h6 : X 6 = .agg (vc a) := hX 6 (hl 6 (by kernel_rfl)) (by kernel_rfl)
        have h7 : X 7 = .agg (vc c) := hX 7 (hl 7 (by kernel_rfl)) (by kernel_rfl)
        have h8 : X 8 = vv ac := hX 8 (hl 8 (by kernel_rfl)) (by kernel_rfl)
        have h9 : X 9 = vv x := hX 9 (hl 9 (by kernel_rfl)) (by kernel_rfl)
        have h10 : X 10 = .bool false := hX 10 (hl 10 (by kernel_rfl)) (by kernel_rfl)
        have h11 : X 11 = .bool false := hX 11 (hl 11 (by kernel_rfl)) (by kernel_rfl)
        have h12 : X 12 = .agg (vc ab) := hX 12 (hl 12 (by kernel_rfl)) (by kernel_rfl)
        have h13 : X 13 = .agg (vc c) := hX 13 (hl 13 (by kernel_rfl)) (by kernel_rfl)
        have h14 : X 14 = vv y := hX 14 (hl 14 (by kernel_rfl)) (by kernel_rfl)
        have h15 : X 15 = .agg (vc a) := hX 15 (hl 15 (by kernel_rfl)) (by kernel_rfl)
        have h16 : X 16 = .agg (vc b) := hX 16 (hl 16 (by kernel_rfl)) (by kernel_rfl)
        have h17 : X 17 = .agg (vc c) := hX 17 (hl 17 (by kernel_rfl)) (by kernel_rfl)
        have h18 : X 18 = vv bc := hX 18 (hl 18 (by kernel_rfl)) (by kernel_rfl)
        have h19 : X 19 = vv y := hX 19 (hl 19 (by kernel_rfl)) (by kernel_rfl)
        have h20 : X 20 = .bool false := hX 20 (hl 20 (by kernel_rfl)) (by kernel_rfl)
        have h21 : X 21 = .bool false := hX 21 (hl 21 (by kernel_rfl)) (by kernel_rfl)
        rw [h0, h1, h2, h3, h4, h5, h6, h7, h8, h9, h10, h11, h12, h13, h14, h15, h16, h17, h18, h19, h20, h21]
        clear h0 h1 h2 h3 h4 h5 h6 h7 h8 h9 h10 h11 h12 h13 h14 h15 h16 h17 h18 h19 h20 h21 hX
        have HS3 := Lib.hid hT
        clear hT hl HS2
        clear X
        go_wp2_with fail
        refine wp_region_owed (fun l act w1 => ∃ X : Nat → Value, act = ⟨(List.toArray (vv a :: vv b :: vv c :: .pointer (some ⟨w.heap.size, 0, none⟩) :: .pointer (some ⟨w.heap.size + 1, 0, none⟩) :: .pointer (some ⟨w.heap.size + 1 + 1, 0, none⟩) :: X 23 :: .pointer (some ⟨p, 0, none⟩) :: .pointer (some ⟨q, 0, none⟩) :: .agg (vc a) :: .agg (vc b) :: vv ab :: .agg (vc a) :: .agg (vc b) :: vv m :: .agg (vc ab) :: .agg (vc b) :: .agg (vc a) :: vv ab :: .bool false :: .bool false :: .agg (vc m) :: .agg (vc b) :: .agg (vc a) :: vv m :: .bool false :: .bool false :: .bool false :: .agg (vc ab) :: vv n1 :: .agg (vc a) :: vv na :: .agg (vc b) :: vv nb :: vv n1 :: .bool false :: .bool false :: .bool false :: .agg (vc a) :: vv na :: vv a :: .agg (vc a) :: .bool false :: .bool false :: .agg (vc a) :: .agg (vc b) :: .agg (vc c) :: vv bc :: vv x :: .agg (vc m) :: .agg (vc a) :: .agg (vc c) :: vv ac :: vv x :: .bool false :: .bool false :: .agg (vc ab) :: .agg (vc c) :: vv y :: .agg (vc a) :: .agg (vc b) :: .agg (vc c) :: vv bc :: vv y :: .bool false :: .bool false :: X 0 :: X 1 :: X 2 :: X 3 :: X 4 :: X 5 :: X 6 :: X 7 :: X 8 :: X 9 :: X 10 :: X 11 :: X 12 :: X 13 :: X 14 :: X 15 :: X 16 :: X 17 :: X 18 :: X 19 :: X 20 :: X 21 :: X 22 :: [])), []⟩ ∧ (∀ i, l i = true → ([0, 1, 2, 3, 4, 5, 6, 7, 8, 9, 10, 11, 12, 13, 14, 15, 16, 17, 18, 19, 20, 21, 22, 23] : List Nat).contains i = true → X i = (fun i => ([.agg (vc ab), .int .i64 k1, .agg (vc m), .int .i64 k2, .int .i64 ((k1 : Int) + (k2 : Int)), .agg (vc a), .int .i64 k3, .agg (vc b), .int .i64 k4, .int .i64 ((k3 : Int) + (k4 : Int)), .bool true, .bool true, .agg (vc a), .int .i64 k3, .agg (vc a), vv na, .int .i64 k5, .int .i64 ((k3 : Int) + (k5 : Int)), .bool true, .bool true, .bool true, .bool true, .bool true, .bool true] : List Value).getD i undef) i) ∧ Sb w w1 [(q, .cells (vc m) 24), (p, .cells (vc ab) 24), (w.heap.size + 1 + 1, .cells (vc c) 24), (w.heap.size + 1, .cells (vc b) 24), (w.heap.size, .cells (vc a) 24)]) (by kernel_rfl) (by kernel_rfl) ⟨(fun i => ([undef, undef, undef, undef, undef, undef, undef, undef, undef, undef, undef, undef, undef, undef, undef, undef, undef, undef, undef, undef, undef, undef, undef, .bool false] : List Value).getD i undef), rfl, (fun i h => by cases h), HS3.out.drew⟩ ?strd ?finrd
        case strd =>
          go_light
          refine Owed.next (n := 0) (o := ?ord0) ?hord0 ?hrd0 ?hsrd0
          case hord0 => rfl
          case hrd0 =>
            intro l act w1 hw hl hI K hK
            obtain ⟨X, rfl, hX, hT⟩ := hI
            have HX := Lib.hid (packsM 0 hX [] (fun _ h => nomatch h))
            clear hX
            rw [if_pos (by rfl)]
            refine wp_load_row 24 _ rfl (p) rfl 24 (vc ab) (0, 0) _ hT.tl.heap Try.underlying24 rfl (i24v ab) ?_
            exact hK.out _ _ ⟨fun j => bif (0 :: []).contains j then (fun i => ([.agg (vc ab), .int .i64 k1, .agg (vc m), .int .i64 k2, .int .i64 ((k1 : Int) + (k2 : Int)), .agg (vc a), .int .i64 k3, .agg (vc b), .int .i64 k4, .int .i64 ((k3 : Int) + (k4 : Int)), .bool true, .bool true, .agg (vc a), .int .i64 k3, .agg (vc a), vv na, .int .i64 k5, .int .i64 ((k3 : Int) + (k5 : Int)), .bool true, .bool true, .bool true, .bool true, .bool true, .bool true] : List Value).getD i undef) j else X j, rfl, HX.out, hT⟩
          refine Owed.next (n := 1) (o := ?ord1) ?hord1 ?hrd1 ?hsrd1
          case hord1 => rfl
          case hrd1 =>
            intro l act w1 hw hl hI K hK
            obtain ⟨X, rfl, hX, hT⟩ := hI
            have h0 : X 0 = .agg (vc ab) := hX 0 (hw 0 (by kernel_rfl)) (by kernel_rfl)
            have HX := Lib.hid (packsM 1 hX [0] (List.forall_mem_cons.2 ⟨hw 0 (by kernel_rfl), (fun _ h => nomatch h)⟩))
            clear hX
            rw [h0]
            clear h0
            rw [if_pos (by rfl)]
            go_wp2_with fail
            refine (D1.out _).mono ?_
            rintro _ w2 ⟨rfl, hb⟩
            exact hK.out _ _ ⟨fun j => bif (1 :: [0]).contains j then (fun i => ([.agg (vc ab), .int .i64 k1, .agg (vc m), .int .i64 k2, .int .i64 ((k1 : Int) + (k2 : Int)), .agg (vc a), .int .i64 k3, .agg (vc b), .int .i64 k4, .int .i64 ((k3 : Int) + (k4 : Int)), .bool true, .bool true, .agg (vc a), .int .i64 k3, .agg (vc a), vv na, .int .i64 k5, .int .i64 ((k3 : Int) + (k5 : Int)), .bool true, .bool true, .bool true, .bool true, .bool true, .bool true] : List Value).getD i undef) j else X j, rfl, HX.out, hT.up hb⟩
          refine Owed.next (n := 2) (o := ?ord2) ?hord2 ?hrd2 ?hsrd2
          case hord2 => rfl
          case hrd2 =>
            intro l act w1 hw hl hI K hK
            obtain ⟨X, rfl, hX, hT⟩ := hI
            have HX := Lib.hid (packsM 2 hX [] (fun _ h => nomatch h))
            clear hX
            rw [if_pos (by rfl)]
            refine wp_load_row 24 _ rfl (q) rfl 24 (vc m) (0, 0) _ hT.heap Try.underlying24 rfl (i24v m) ?_
            exact hK.out _ _ ⟨fun j => bif (2 :: []).contains j then (fun i => ([.agg (vc ab), .int .i64 k1, .agg (vc m), .int .i64 k2, .int .i64 ((k1 : Int) + (k2 : Int)), .agg (vc a), .int .i64 k3, .agg (vc b), .int .i64 k4, .int .i64 ((k3 : Int) + (k4 : Int)), .bool true, .bool true, .agg (vc a), .int .i64 k3, .agg (vc a), vv na, .int .i64 k5, .int .i64 ((k3 : Int) + (k5 : Int)), .bool true, .bool true, .bool true, .bool true, .bool true, .bool true] : List Value).getD i undef) j else X j, rfl, HX.out, hT⟩
          refine Owed.next (n := 3) (o := ?ord3) ?hord3 ?hrd3 ?hsrd3
          case hord3 => rfl
          case hrd3 =>
            intro l act w1 hw hl hI K hK
            obtain ⟨X, rfl, hX, hT⟩ := hI
            have h2 : X 2 = .agg (vc m) := hX 2 (hw 2 (by kernel_rfl)) (by kernel_rfl)
            have HX := Lib.hid (packsM 3 hX [2] (List.forall_mem_cons.2 ⟨hw 2 (by kernel_rfl), (fun _ h => nomatch h)⟩))
            clear hX
            rw [h2]
            clear h2
            rw [if_pos (by rfl)]
            go_wp2_with fail
            refine (D2.out _).mono ?_
            rintro _ w2 ⟨rfl, hb⟩
            exact hK.out _ _ ⟨fun j => bif (3 :: [2]).contains j then (fun i => ([.agg (vc ab), .int .i64 k1, .agg (vc m), .int .i64 k2, .int .i64 ((k1 : Int) + (k2 : Int)), .agg (vc a), .int .i64 k3, .agg (vc b), .int .i64 k4, .int .i64 ((k3 : Int) + (k4 : Int)), .bool true, .bool true, .agg (vc a), .int .i64 k3, .agg (vc a), vv na, .int .i64 k5, .int .i64 ((k3 : Int) + (k5 : Int)), .bool true, .bool true, .bool true, .bool true, .bool true, .bool true] : List Value).getD i undef) j else X j, rfl, HX.out, hT.up hb⟩
          refine Owed.next (n := 4) (o := ?ord4) ?hord4 ?hrd4 ?hsrd4
          case hord4 => rfl
          case hrd4 =>
            intro l act w1 hw hl hI K hK
            obtain ⟨X, rfl, hX, hT⟩ := hI
            have h1 : X 1 = .int .i64 k1 := hX 1 (hw 1 (by kernel_rfl)) (by kernel_rfl)
            have h3 : X 3 = .int .i64 k2 := hX 3 (hw 3 (by kernel_rfl)) (by kernel_rfl)
            have HX := Lib.hid (packsM 4 hX [1, 3] (List.forall_mem_cons.2 ⟨hw 1 (by kernel_rfl), (List.forall_mem_cons.2 ⟨hw 3 (by kernel_rfl), (fun _ h => nomatch h)⟩)⟩))
            clear hX
            rw [h1, h3]
            clear h1 h3
            rw [if_pos (by rfl)]
            go_wp2_with fail
            exact hK.out _ _ ⟨fun j => bif (4 :: [1, 3]).contains j then (fun i => ([.agg (vc ab), .int .i64 k1, .agg (vc m), .int .i64 k2, .int .i64 ((k1 : Int) + (k2 : Int)), .agg (vc a), .int .i64 k3, .agg (vc b), .int .i64 k4, .int .i64 ((k3 : Int) + (k4 : Int)), .bool true, .bool true, .agg (vc a), .int .i64 k3, .agg (vc a), vv na, .int .i64 k5, .int .i64 ((k3 : Int) + (k5 : Int)), .bool true, .bool true, .bool true, .bool true, .bool true, .bool true] : List Value).getD i undef) j else X j, rfl, HX.out, hT⟩
          refine Owed.next (n := 5) (o := ?ord5) ?hord5 ?hrd5 ?hsrd5
          case hord5 => rfl
          case hrd5 =>
            intro l act w1 hw hl hI K hK
            obtain ⟨X, rfl, hX, hT⟩ := hI
            have HX := Lib.hid (packsM 5 hX [] (fun _ h => nomatch h))
            clear hX
            rw [if_pos (by rfl)]
            refine wp_load_row 24 _ rfl (w.heap.size) rfl 24 (vc a) (0, 0) _ hT.tl.tl.tl.tl.heap Try.underlying24 rfl (i24v a) ?_
            exact hK.out _ _ ⟨fun j => bif (5 :: []).contains j then (fun i => ([.agg (vc ab), .int .i64 k1, .agg (vc m), .int .i64 k2, .int .i64 ((k1 : Int) + (k2 : Int)), .agg (vc a), .int .i64 k3, .agg (vc b), .int .i64 k4, .int .i64 ((k3 : Int) + (k4 : Int)), .bool true, .bool true, .agg (vc a), .int .i64 k3, .agg (vc a), vv na, .int .i64 k5, .int .i64 ((k3 : Int) + (k5 : Int)), .bool true, .bool true, .bool true, .bool true, .bool true, .bool true] : List Value).getD i undef) j else X j, rfl, HX.out, hT⟩
          refine Owed.next (n := 6) (o := ?ord6) ?hord6 ?hrd6 ?hsrd6
          case hord6 => rfl
          case hrd6 =>
            intro l act w1 hw hl hI K hK
            obtain ⟨X, rfl, hX, hT⟩ := hI
            have h5 : X 5 = .agg (vc a) := hX 5 (hw 5 (by kernel_rfl)) (by kernel_rfl)
            have HX := Lib.hid (packsM 6 hX [5] (List.forall_mem_cons.2 ⟨hw 5 (by kernel_rfl), (fun _ h => nomatch h)⟩))
            clear hX
            rw [h5]
            clear h5
            rw [if_pos (by rfl)]
            go_wp2_with fail
            refine (D3.out _).mono ?_
            rintro _ w2 ⟨rfl, hb⟩
            exact hK.out _ _ ⟨fun j => bif (6 :: [5]).contains j then (fun i => ([.agg (vc ab), .int .i64 k1, .agg (vc m), .int .i64 k2, .int .i64 ((k1 : Int) + (k2 : Int)), .agg (vc a), .int .i64 k3, .agg (vc b), .int .i64 k4, .int .i64 ((k3 : Int) + (k4 : Int)), .bool true, .bool true, .agg (vc a), .int .i64 k3, .agg (vc a), vv na, .int .i64 k5, .int .i64 ((k3 : Int) + (k5 : Int)), .bool true, .bool true, .bool true, .bool true, .bool true, .bool true] : List Value).getD i undef) j else X j, rfl, HX.out, hT.up hb⟩
          refine Owed.next (n := 7) (o := ?ord7) ?hord7 ?hrd7 ?hsrd7
          case hord7 => rfl
          case hrd7 =>
            intro l act w1 hw hl hI K hK
            obtain ⟨X, rfl, hX, hT⟩ := hI
            have HX := Lib.hid (packsM 7 hX [] (fun _ h => nomatch h))
            clear hX
            rw [if_pos (by rfl)]
            refine wp_load_row 24 _ rfl (w.heap.size + 1) rfl 24 (vc b) (0, 0) _ hT.tl.tl.tl.heap Try.underlying24 rfl (i24v b) ?_
            exact hK.out _ _ ⟨fun j => bif (7 :: []).contains j then (fun i => ([.agg (vc ab), .int .i64 k1, .agg (vc m), .int .i64 k2, .int .i64 ((k1 : Int) + (k2 : Int)), .agg (vc a), .int .i64 k3, .agg (vc b), .int .i64 k4, .int .i64 ((k3 : Int) + (k4 : Int)), .bool true, .bool true, .agg (vc a), .int .i64 k3, .agg (vc a), vv na, .int .i64 k5, .int .i64 ((k3 : Int) + (k5 : Int)), .bool true, .bool true, .bool true, .bool true, .bool true, .bool true] : List Value).getD i undef) j else X j, rfl, HX.out, hT⟩
          refine Owed.next (n := 8) (o := ?ord8) ?hord8 ?hrd8 ?hsrd8
          case hord8 => rfl
          case hrd8 =>
            intro l act w1 hw hl hI K hK
            obtain ⟨X, rfl, hX, hT⟩ := hI
            have h7 : X 7 = .agg (vc b) := hX 7 (hw 7 (by kernel_rfl)) (by kernel_rfl)
            have HX := Lib.hid (packsM 8 hX [7] (List.forall_mem_cons.2 ⟨hw 7 (by kernel_rfl), (fun _ h => nomatch h)⟩))
            clear hX
            rw [h7]
            clear h7
            rw [if_pos (by rfl)]
            go_wp2_with fail
            refine (D4.out _).mono ?_
            rintro _ w2 ⟨rfl, hb⟩
            exact hK.out _ _ ⟨fun j => bif (8 :: [7]).contains j then (fun i => ([.agg (vc ab), .int .i64 k1, .agg (vc m), .int .i64 k2, .int .i64 ((k1 : Int) + (k2 : Int)), .agg (vc a), .int .i64 k3, .agg (vc b), .int .i64 k4, .int .i64 ((k3 : Int) + (k4 : Int)), .bool true, .bool true, .agg (vc a), .int .i64 k3, .agg (vc a), vv na, .int .i64 k5, .int .i64 ((k3 : Int) + (k5 : Int)), .bool true, .bool true, .bool true, .bool true, .bool true, .bool true] : List Value).getD i undef) j else X j, rfl, HX.out, hT.up hb⟩
          refine Owed.next (n := 9) (o := ?ord9) ?hord9 ?hrd9 ?hsrd9
          case hord9 => rfl
          case hrd9 =>
            intro l act w1 hw hl hI K hK
            obtain ⟨X, rfl, hX, hT⟩ := hI
            have h6 : X 6 = .int .i64 k3 := hX 6 (hw 6 (by kernel_rfl)) (by kernel_rfl)
            have h8 : X 8 = .int .i64 k4 := hX 8 (hw 8 (by kernel_rfl)) (by kernel_rfl)
            have HX := Lib.hid (packsM 9 hX [6, 8] (List.forall_mem_cons.2 ⟨hw 6 (by kernel_rfl), (List.forall_mem_cons.2 ⟨hw 8 (by kernel_rfl), (fun _ h => nomatch h)⟩)⟩))
            clear hX
            rw [h6, h8]
            clear h6 h8
            rw [if_pos (by rfl)]
            go_wp2_with fail
            exact hK.out _ _ ⟨fun j => bif (9 :: [6, 8]).contains j then (fun i => ([.agg (vc ab), .int .i64 k1, .agg (vc m), .int .i64 k2, .int .i64 ((k1 : Int) + (k2 : Int)), .agg (vc a), .int .i64 k3, .agg (vc b), .int .i64 k4, .int .i64 ((k3 : Int) + (k4 : Int)), .bool true, .bool true, .agg (vc a), .int .i64 k3, .agg (vc a), vv na, .int .i64 k5, .int .i64 ((k3 : Int) + (k5 : Int)), .bool true, .bool true, .bool true, .bool true, .bool true, .bool true] : List Value).getD i undef) j else X j, rfl, HX.out, hT⟩
          refine Owed.next (n := 10) (o := ?ord10) ?hord10 ?hrd10 ?hsrd10
          case hord10 => rfl
          case hrd10 =>
            intro l act w1 hw hl hI K hK
            obtain ⟨X, rfl, hX, hT⟩ := hI
            have h4 : X 4 = .int .i64 ((k1 : Int) + (k2 : Int)) := hX 4 (hw 4 (by kernel_rfl)) (by kernel_rfl)
            have h9 : X 9 = .int .i64 ((k3 : Int) + (k4 : Int)) := hX 9 (hw 9 (by kernel_rfl)) (by kernel_rfl)
            have HX := Lib.hid (packsM 10 hX [4, 9] (List.forall_mem_cons.2 ⟨hw 4 (by kernel_rfl), (List.forall_mem_cons.2 ⟨hw 9 (by kernel_rfl), (fun _ h => nomatch h)⟩)⟩))
            clear hX
            have q1 : (((k1 : Int) + (k2 : Int)) == ((k3 : Int) + (k4 : Int))) = true := by rw [E1.out]; exact beq_self_eq_true _
            rw [h4, h9]
            clear h4 h9
            rw [if_pos (by rfl)]
            go_wp2_with fail
            exact hK.out _ _ ⟨fun j => bif (10 :: [4, 9]).contains j then (fun i => ([.agg (vc ab), .int .i64 k1, .agg (vc m), .int .i64 k2, .int .i64 ((k1 : Int) + (k2 : Int)), .agg (vc a), .int .i64 k3, .agg (vc b), .int .i64 k4, .int .i64 ((k3 : Int) + (k4 : Int)), .bool true, .bool true, .agg (vc a), .int .i64 k3, .agg (vc a), vv na, .int .i64 k5, .int .i64 ((k3 : Int) + (k5 : Int)), .bool true, .bool true, .bool true, .bool true, .bool true, .bool true] : List Value).getD i undef) j else X j, rfl, HX.out, hT⟩
          refine Owed.next (n := 11) (o := ?ord11) ?hord11 ?hrd11 ?hsrd11
          case hord11 => rfl
          case hrd11 =>
            intro l act w1 hw hl hI K hK
            obtain ⟨X, rfl, hX, hT⟩ := hI
            have h10 : X 10 = .bool true := hX 10 (hw 10 (by kernel_rfl)) (by kernel_rfl)
            have HX := Lib.hid (packsM 11 hX [10] (List.forall_mem_cons.2 ⟨hw 10 (by kernel_rfl), (fun _ h => nomatch h)⟩))
            clear hX
            rw [h10]
            clear h10
            rw [if_pos (by rfl)]
            go_wp2_with fail
            exact hK.out _ _ ⟨fun j => bif (11 :: [10]).contains j then (fun i => ([.agg (vc ab), .int .i64 k1, .agg (vc m), .int .i64 k2, .int .i64 ((k1 : Int) + (k2 : Int)), .agg (vc a), .int .i64 k3, .agg (vc b), .int .i64 k4, .int .i64 ((k3 : Int) + (k4 : Int)), .bool true, .bool true, .agg (vc a), .int .i64 k3, .agg (vc a), vv na, .int .i64 k5, .int .i64 ((k3 : Int) + (k5 : Int)), .bool true, .bool true, .bool true, .bool true, .bool true, .bool true] : List Value).getD i undef) j else X j, rfl, HX.out, hT⟩
          refine Owed.next (n := 12) (o := ?ord12) ?hord12 ?hrd12 ?hsrd12
          case hord12 => rfl
          case hrd12 =>
            intro l act w1 hw hl hI K hK
            obtain ⟨X, rfl, hX, hT⟩ := hI
            have h11 : X 11 = .bool true := hX 11 (hw 11 (by kernel_rfl)) (by kernel_rfl)
            have HX := Lib.hid (packsM 12 hX [11] (List.forall_mem_cons.2 ⟨hw 11 (by kernel_rfl), (fun _ h => nomatch h)⟩))
            clear hX
            rw [h11]
            clear h11
            rw [if_pos (by rfl)]
            refine wp_load_row 24 _ rfl (w.heap.size) rfl 24 (vc a) (0, 0) _ hT.tl.tl.tl.tl.heap Try.underlying24 rfl (i24v a) ?_
            exact hK.out _ _ ⟨fun j => bif (12 :: [11]).contains j then (fun i => ([.agg (vc ab), .int .i64 k1, .agg (vc m), .int .i64 k2, .int .i64 ((k1 : Int) + (k2 : Int)), .agg (vc a), .int .i64 k3, .agg (vc b), .int .i64 k4, .int .i64 ((k3 : Int) + (k4 : Int)), .bool true, .bool true, .agg (vc a), .int .i64 k3, .agg (vc a), vv na, .int .i64 k5, .int .i64 ((k3 : Int) + (k5 : Int)), .bool true, .bool true, .bool true, .bool true, .bool true, .bool true] : List Value).getD i undef) j else X j, rfl, HX.out, hT⟩
          refine Owed.next (n := 13) (o := ?ord13) ?hord13 ?hrd13 ?hsrd13
          case hord13 => rfl
          case hrd13 =>
            intro l act w1 hw hl hI K hK
            obtain ⟨X, rfl, hX, hT⟩ := hI
            have h11 : X 11 = .bool true := hX 11 (hw 11 (by kernel_rfl)) (by kernel_rfl)
            have h12 : X 12 = .agg (vc a) := hX 12 (hw 12 (by kernel_rfl)) (by kernel_rfl)
            have HX := Lib.hid (packsM 13 hX [11, 12] (List.forall_mem_cons.2 ⟨hw 11 (by kernel_rfl), (List.forall_mem_cons.2 ⟨hw 12 (by kernel_rfl), (fun _ h => nomatch h)⟩)⟩))
            clear hX
            rw [h11, h12]
            clear h11 h12
            rw [if_pos (by rfl)]
            go_wp2_with fail
            refine (D3.out _).mono ?_
            rintro _ w2 ⟨rfl, hb⟩
            exact hK.out _ _ ⟨fun j => bif (13 :: [11, 12]).contains j then (fun i => ([.agg (vc ab), .int .i64 k1, .agg (vc m), .int .i64 k2, .int .i64 ((k1 : Int) + (k2 : Int)), .agg (vc a), .int .i64 k3, .agg (vc b), .int .i64 k4, .int .i64 ((k3 : Int) + (k4 : Int)), .bool true, .bool true, .agg (vc a), .int .i64 k3, .agg (vc a), vv na, .int .i64 k5, .int .i64 ((k3 : Int) + (k5 : Int)), .bool true, .bool true, .bool true, .bool true, .bool true, .bool true] : List Value).getD i undef) j else X j, rfl, HX.out, hT.up hb⟩
          refine Owed.next (n := 14) (o := ?ord14) ?hord14 ?hrd14 ?hsrd14
          case hord14 => rfl
          case hrd14 =>
            intro l act w1 hw hl hI K hK
            obtain ⟨X, rfl, hX, hT⟩ := hI
            have h11 : X 11 = .bool true := hX 11 (hw 11 (by kernel_rfl)) (by kernel_rfl)
            have HX := Lib.hid (packsM 14 hX [11] (List.forall_mem_cons.2 ⟨hw 11 (by kernel_rfl), (fun _ h => nomatch h)⟩))
            clear hX
            rw [h11]
            clear h11
            rw [if_pos (by rfl)]
            refine wp_load_row 24 _ rfl (w.heap.size) rfl 24 (vc a) (0, 0) _ hT.tl.tl.tl.tl.heap Try.underlying24 rfl (i24v a) ?_
            exact hK.out _ _ ⟨fun j => bif (14 :: [11]).contains j then (fun i => ([.agg (vc ab), .int .i64 k1, .agg (vc m), .int .i64 k2, .int .i64 ((k1 : Int) + (k2 : Int)), .agg (vc a), .int .i64 k3, .agg (vc b), .int .i64 k4, .int .i64 ((k3 : Int) + (k4 : Int)), .bool true, .bool true, .agg (vc a), .int .i64 k3, .agg (vc a), vv na, .int .i64 k5, .int .i64 ((k3 : Int) + (k5 : Int)), .bool true, .bool true, .bool true, .bool true, .bool true, .bool true] : List Value).getD i undef) j else X j, rfl, HX.out, hT⟩
          refine Owed.next (n := 15) (o := ?ord15) ?hord15 ?hrd15 ?hsrd15
          case hord15 => rfl
          case hrd15 =>
            intro l act w1 hw hl hI K hK
            obtain ⟨X, rfl, hX, hT⟩ := hI
            have h11 : X 11 = .bool true := hX 11 (hw 11 (by kernel_rfl)) (by kernel_rfl)
            have h14 : X 14 = .agg (vc a) := hX 14 (hw 14 (by kernel_rfl)) (by kernel_rfl)
            have HX := Lib.hid (packsM 15 hX [11, 14] (List.forall_mem_cons.2 ⟨hw 11 (by kernel_rfl), (List.forall_mem_cons.2 ⟨hw 14 (by kernel_rfl), (fun _ h => nomatch h)⟩)⟩))
            clear hX
            rw [h11, h14]
            clear h11 h14
            rw [if_pos (by rfl)]
            go_wp2_with fail
            refine (C6.out _).mono ?_
            rintro _ w2 ⟨rfl, hb⟩
            exact hK.out _ _ ⟨fun j => bif (15 :: [11, 14]).contains j then (fun i => ([.agg (vc ab), .int .i64 k1, .agg (vc m), .int .i64 k2, .int .i64 ((k1 : Int) + (k2 : Int)), .agg (vc a), .int .i64 k3, .agg (vc b), .int .i64 k4, .int .i64 ((k3 : Int) + (k4 : Int)), .bool true, .bool true, .agg (vc a), .int .i64 k3, .agg (vc a), vv na, .int .i64 k5, .int .i64 ((k3 : Int) + (k5 : Int)), .bool true, .bool true, .bool true, .bool true, .bool true, .bool true] : List Value).getD i undef) j else X j, rfl, HX.out, hT.up hb⟩
          refine Owed.next (n := 16) (o := ?ord16) ?hord16 ?hrd16 ?hsrd16
          case hord16 => rfl
          case hrd16 =>
            intro l act w1 hw hl hI K hK
            obtain ⟨X, rfl, hX, hT⟩ := hI
            have h11 : X 11 = .bool true := hX 11 (hw 11 (by kernel_rfl)) (by kernel_rfl)
            have h15 : X 15 = vv na := hX 15 (hw 15 (by kernel_rfl)) (by kernel_rfl)
            have HX := Lib.hid (packsM 16 hX [11, 15] (List.forall_mem_cons.2 ⟨hw 11 (by kernel_rfl), (List.forall_mem_cons.2 ⟨hw 15 (by kernel_rfl), (fun _ h => nomatch h)⟩)⟩))
            clear hX
            rw [h11, h15]
            clear h11 h15
            rw [if_pos (by rfl)]
            go_wp2_with fail
            refine (D5.out _).mono ?_
            rintro _ w2 ⟨rfl, hb⟩
            exact hK.out _ _ ⟨fun j => bif (16 :: [11, 15]).contains j then (fun i => ([.agg (vc ab), .int .i64 k1, .agg (vc m), .int .i64 k2, .int .i64 ((k1 : Int) + (k2 : Int)), .agg (vc a), .int .i64 k3, .agg (vc b), .int .i64 k4, .int .i64 ((k3 : Int) + (k4 : Int)), .bool true, .bool true, .agg (vc a), .int .i64 k3, .agg (vc a), vv na, .int .i64 k5, .int .i64 ((k3 : Int) + (k5 : Int)), .bool true, .bool true, .bool true, .bool true, .bool true, .bool true] : List Value).getD i undef) j else X j, rfl, HX.out, hT.up hb⟩
          refine Owed.next (n := 17) (o := ?ord17) ?hord17 ?hrd17 ?hsrd17
          case hord17 => rfl
          case hrd17 =>
            intro l act w1 hw hl hI K hK
            obtain ⟨X, rfl, hX, hT⟩ := hI
            have h11 : X 11 = .bool true := hX 11 (hw 11 (by kernel_rfl)) (by kernel_rfl)
            have h13 : X 13 = .int .i64 k3 := hX 13 (hw 13 (by kernel_rfl)) (by kernel_rfl)
            have h16 : X 16 = .int .i64 k5 := hX 16 (hw 16 (by kernel_rfl)) (by kernel_rfl)
            have HX := Lib.hid (packsM 17 hX [11, 13, 16] (List.forall_mem_cons.2 ⟨hw 11 (by kernel_rfl), (List.forall_mem_cons.2 ⟨hw 13 (by kernel_rfl), (List.forall_mem_cons.2 ⟨hw 16 (by kernel_rfl), (fun _ h => nomatch h)⟩)⟩)⟩))
            clear hX
            rw [h11, h13, h16]
            clear h11 h13 h16
            rw [if_pos (by rfl)]
            go_wp2_with fail
            exact hK.out _ _ ⟨fun j => bif (17 :: [11, 13, 16]).contains j then (fun i => ([.agg (vc ab), .int .i64 k1, .agg (vc m), .int .i64 k2, .int .i64 ((k1 : Int) + (k2 : Int)), .agg (vc a), .int .i64 k3, .agg (vc b), .int .i64 k4, .int .i64 ((k3 : Int) + (k4 : Int)), .bool true, .bool true, .agg (vc a), .int .i64 k3, .agg (vc a), vv na, .int .i64 k5, .int .i64 ((k3 : Int) + (k5 : Int)), .bool true, .bool true, .bool true, .bool true, .bool true, .bool true] : List Value).getD i undef) j else X j, rfl, HX.out, hT⟩
          refine Owed.next (n := 18) (o := ?ord18) ?hord18 ?hrd18 ?hsrd18
          case hord18 => rfl
          case hrd18 =>
            intro l act w1 hw hl hI K hK
            obtain ⟨X, rfl, hX, hT⟩ := hI
            have h11 : X 11 = .bool true := hX 11 (hw 11 (by kernel_rfl)) (by kernel_rfl)
            have h17 : X 17 = .int .i64 ((k3 : Int) + (k5 : Int)) := hX 17 (hw 17 (by kernel_rfl)) (by kernel_rfl)
            have HX := Lib.hid (packsM 18 hX [11, 17] (List.forall_mem_cons.2 ⟨hw 11 (by kernel_rfl), (List.forall_mem_cons.2 ⟨hw 17 (by kernel_rfl), (fun _ h => nomatch h)⟩)⟩))
            clear hX
            have q1 : (((k3 : Int) + (k5 : Int)) == (256 : Int)) = true := by rw [E2.out]; exact beq_self_eq_true _
            rw [h11, h17]
            clear h11 h17
            rw [if_pos (by rfl)]
            go_wp2_with fail
            exact hK.out _ _ ⟨fun j => bif (18 :: [11, 17]).contains j then (fun i => ([.agg (vc ab), .int .i64 k1, .agg (vc m), .int .i64 k2, .int .i64 ((k1 : Int) + (k2 : Int)), .agg (vc a), .int .i64 k3, .agg (vc b), .int .i64 k4, .int .i64 ((k3 : Int) + (k4 : Int)), .bool true, .bool true, .agg (vc a), .int .i64 k3, .agg (vc a), vv na, .int .i64 k5, .int .i64 ((k3 : Int) + (k5 : Int)), .bool true, .bool true, .bool true, .bool true, .bool true, .bool true] : List Value).getD i undef) j else X j, rfl, HX.out, hT⟩
          refine Owed.next (n := 19) (o := ?ord19) ?hord19 ?hrd19 ?hsrd19
          case hord19 => rfl
          case hrd19 =>
            intro l act w1 hw hl hI K hK
            obtain ⟨X, rfl, hX, hT⟩ := hI
            have h11 : X 11 = .bool true := hX 11 (hw 11 (by kernel_rfl)) (by kernel_rfl)
            have h18 : X 18 = .bool true := hX 18 (hw 18 (by kernel_rfl)) (by kernel_rfl)
            have HX := Lib.hid (packsM 19 hX [11, 18] (List.forall_mem_cons.2 ⟨hw 11 (by kernel_rfl), (List.forall_mem_cons.2 ⟨hw 18 (by kernel_rfl), (fun _ h => nomatch h)⟩)⟩))
            clear hX
            rw [h11, h18]
            clear h11 h18
            rw [if_pos (by rfl)]
            go_wp2_with fail
            exact hK.out _ _ ⟨fun j => bif (19 :: [11, 18]).contains j then (fun i => ([.agg (vc ab), .int .i64 k1, .agg (vc m), .int .i64 k2, .int .i64 ((k1 : Int) + (k2 : Int)), .agg (vc a), .int .i64 k3, .agg (vc b), .int .i64 k4, .int .i64 ((k3 : Int) + (k4 : Int)), .bool true, .bool true, .agg (vc a), .int .i64 k3, .agg (vc a), vv na, .int .i64 k5, .int .i64 ((k3 : Int) + (k5 : Int)), .bool true, .bool true, .bool true, .bool true, .bool true, .bool true] : List Value).getD i undef) j else X j, rfl, HX.out, hT⟩
          refine Owed.next (n := 20) (o := ?ord20) ?hord20 ?hrd20 ?hsrd20
          case hord20 => rfl
          case hrd20 =>
            intro l act w1 hw hl hI K hK
            obtain ⟨X, rfl, hX, hT⟩ := hI
            have h19 : X 19 = .bool true := hX 19 (hw 19 (by kernel_rfl)) (by kernel_rfl)
            have HX := Lib.hid (packsM 20 hX [19] (List.forall_mem_cons.2 ⟨hw 19 (by kernel_rfl), (fun _ h => nomatch h)⟩))
            clear hX
            rw [h19]
            clear h19
            rw [if_pos (by rfl)]
            go_wp2_with fail
            exact hK.out _ _ ⟨fun j => bif (20 :: [19]).contains j then (fun i => ([.agg (vc ab), .int .i64 k1, .agg (vc m), .int .i64 k2, .int .i64 ((k1 : Int) + (k2 : Int)), .agg (vc a), .int .i64 k3, .agg (vc b), .int .i64 k4, .int .i64 ((k3 : Int) + (k4 : Int)), .bool true, .bool true, .agg (vc a), .int .i64 k3, .agg (vc a), vv na, .int .i64 k5, .int .i64 ((k3 : Int) + (k5 : Int)), .bool true, .bool true, .bool true, .bool true, .bool true, .bool true] : List Value).getD i undef) j else X j, rfl, HX.out, hT⟩
          refine Owed.next (n := 21) (o := ?ord21) ?hord21 ?hrd21 ?hsrd21
          case hord21 => rfl
          case hrd21 =>
            intro l act w1 hw hl hI K hK
            obtain ⟨X, rfl, hX, hT⟩ := hI
            have h20 : X 20 = .bool true := hX 20 (hw 20 (by kernel_rfl)) (by kernel_rfl)
            have HX := Lib.hid (packsM 21 hX [20] (List.forall_mem_cons.2 ⟨hw 20 (by kernel_rfl), (fun _ h => nomatch h)⟩))
            clear hX
            rw [h20]
            clear h20
            rw [if_pos (by rfl)]
            go_wp2_with fail
            refine (hal.out _).mono ?_
            rintro _ w2 ⟨rfl, hb⟩
            exact hK.out _ _ ⟨fun j => bif (21 :: [20]).contains j then (fun i => ([.agg (vc ab), .int .i64 k1, .agg (vc m), .int .i64 k2, .int .i64 ((k1 : Int) + (k2 : Int)), .agg (vc a), .int .i64 k3, .agg (vc b), .int .i64 k4, .int .i64 ((k3 : Int) + (k4 : Int)), .bool true, .bool true, .agg (vc a), .int .i64 k3, .agg (vc a), vv na, .int .i64 k5, .int .i64 ((k3 : Int) + (k5 : Int)), .bool true, .bool true, .bool true, .bool true, .bool true, .bool true] : List Value).getD i undef) j else X j, rfl, HX.out, hT.up hb⟩
          refine Owed.next (n := 22) (o := ?ord22) ?hord22 ?hrd22 ?hsrd22
          case hord22 => rfl
          case hrd22 =>
            intro l act w1 hw hl hI K hK
            obtain ⟨X, rfl, hX, hT⟩ := hI
            have h20 : X 20 = .bool true := hX 20 (hw 20 (by kernel_rfl)) (by kernel_rfl)
            have h21 : X 21 = .bool true := hX 21 (hw 21 (by kernel_rfl)) (by kernel_rfl)
            have HX := Lib.hid (packsM 22 hX [20, 21] (List.forall_mem_cons.2 ⟨hw 20 (by kernel_rfl), (List.forall_mem_cons.2 ⟨hw 21 (by kernel_rfl), (fun _ h => nomatch h)⟩)⟩))
            clear hX
            rw [h20, h21]
            clear h20 h21
            rw [if_pos (by rfl)]
            go_wp2_with fail
            exact hK.out _ _ ⟨fun j => bif (22 :: [20, 21]).contains j then (fun i => ([.agg (vc ab), .int .i64 k1, .agg (vc m), .int .i64 k2, .int .i64 ((k1 : Int) + (k2 : Int)), .agg (vc a), .int .i64 k3, .agg (vc b), .int .i64 k4, .int .i64 ((k3 : Int) + (k4 : Int)), .bool true, .bool true, .agg (vc a), .int .i64 k3, .agg (vc a), vv na, .int .i64 k5, .int .i64 ((k3 : Int) + (k5 : Int)), .bool true, .bool true, .bool true, .bool true, .bool true, .bool true] : List Value).getD i undef) j else X j, rfl, HX.out, hT⟩
          refine Owed.next (n := 23) (o := ?ord23) ?hord23 ?hrd23 ?hsrd23
          case hord23 => rfl
          case hrd23 =>
            intro l act w1 hw hl hI K hK
            obtain ⟨X, rfl, hX, hT⟩ := hI
            have h22 : X 22 = .bool true := hX 22 (hw 22 (by kernel_rfl)) (by kernel_rfl)
            have HX := Lib.hid (packsM 23 hX [22] (List.forall_mem_cons.2 ⟨hw 22 (by kernel_rfl), (fun _ h => nomatch h)⟩))
            clear hX
            rw [h22]
            clear h22
            rw [if_pos (by rfl)]
            go_wp2_with fail
            exact hK.out _ _ ⟨fun j => bif (23 :: [22]).contains j then (fun i => ([.agg (vc ab), .int .i64 k1, .agg (vc m), .int .i64 k2, .int .i64 ((k1 : Int) + (k2 : Int)), .agg (vc a), .int .i64 k3, .agg (vc b), .int .i64 k4, .int .i64 ((k3 : Int) + (k4 : Int)), .bool true, .bool true, .agg (vc a), .int .i64 k3, .agg (vc a), vv na, .int .i64 k5, .int .i64 ((k3 : Int) + (k5 : Int)), .bool true, .bool true, .bool true, .bool true, .bool true, .bool true] : List Value).getD i undef) j else X j, rfl, HX.out, hT⟩
          exact Owed.last rfl
        case finrd =>
          intro l act w1 hl hI
          obtain ⟨X, rfl, hX, hT⟩ := hI
          have h0 : X 0 = .agg (vc ab) := hX 0 (hl 0 (by kernel_rfl)) (by kernel_rfl)
          have h1 : X 1 = .int .i64 k1 := hX 1 (hl 1 (by kernel_rfl)) (by kernel_rfl)
          have h2 : X 2 = .agg (vc m) := hX 2 (hl 2 (by kernel_rfl)) (by kernel_rfl)
          have h3 : X 3 = .int .i64 k2 := hX 3 (hl 3 (by kernel_rfl)) (by kernel_rfl)
          have h4 : X 4 = .int .i64 ((k1 : Int) + (k2 : Int)) := hX 4 (hl 4 (by kernel_rfl)) (by kernel_rfl)
          have h5 : X 5 = .agg (vc a) := hX 5 (hl 5 (by kernel_rfl)) (by kernel_rfl)
          have h6 : X 6 = .int .i64 k3 := hX 6 (hl 6 (by kernel_rfl)) (by kernel_rfl)
          have h7 : X 7 = .agg (vc b) := hX 7 (hl 7 (by kernel_rfl)) (by kernel_rfl)
          have h8 : X 8 = .int .i64 k4 := hX 8 (hl 8 (by kernel_rfl)) (by kernel_rfl)
          have h9 : X 9 = .int .i64 ((k3 : Int) + (k4 : Int)) := hX 9 (hl 9 (by kernel_rfl)) (by kernel_rfl)
          have h10 : X 10 = .bool true := hX 10 (hl 10 (by kernel_rfl)) (by kernel_rfl)
          have h11 : X 11 = .bool true := hX 11 (hl 11 (by kernel_rfl)) (by kernel_rfl)
          have h12 : X 12 = .agg (vc a) := hX 12 (hl 12 (by kernel_rfl)) (by kernel_rfl)
          have h13 : X 13 = .int .i64 k3 := hX 13 (hl 13 (by kernel_rfl)) (by kernel_rfl)
          have h14 : X 14 = .agg (vc a) := hX 14 (hl 14 (by kernel_rfl)) (by kernel_rfl)
          have h15 : X 15 = vv na := hX 15 (hl 15 (by kernel_rfl)) (by kernel_rfl)
          have h16 : X 16 = .int .i64 k5 := hX 16 (hl 16 (by kernel_rfl)) (by kernel_rfl)
          have h17 : X 17 = .int .i64 ((k3 : Int) + (k5 : Int)) := hX 17 (hl 17 (by kernel_rfl)) (by kernel_rfl)
          have h18 : X 18 = .bool true := hX 18 (hl 18 (by kernel_rfl)) (by kernel_rfl)
          have h19 : X 19 = .bool true := hX 19 (hl 19 (by kernel_rfl)) (by kernel_rfl)
          have h20 : X 20 = .bool true := hX 20 (hl 20 (by kernel_rfl)) (by kernel_rfl)
          have h21 : X 21 = .bool true := hX 21 (hl 21 (by kernel_rfl)) (by kernel_rfl)
          have h22 : X 22 = .bool true := hX 22 (hl 22 (by kernel_rfl)) (by kernel_rfl)
          have h23 : X 23 = .bool true := hX 23 (hl 23 (by kernel_rfl)) (by kernel_rfl)
          rw [h0, h1, h2, h3, h4, h5, h6, h7, h8, h9, h10, h11, h12, h13, h14, h15, h16, h17, h18, h19, h20, h21, h22, h23]
          clear h0 h1 h2 h3 h4 h5 h6 h7 h8 h9 h10 h11 h12 h13 h14 h15 h16 h17 h18 h19 h20 h21 h22 h23 hX
          go_wp2
          go_ret
          exact ⟨rfl, hT.1⟩
end Go.Proofs.Ytennflnfjjhgpaa
