/- EditsKeeps: the walk. -/
import Derived.Test.YtejllankcgcclaaEK
import Derived.LoopTactic
import Derived.IntWalk
namespace Go.Proofs.Ytejllankcgcclaa
open Go.RowKit
set_option linter.unusedVariables false

theorem heldEd {w0 w : World} {b : Nat} {s e : Int} {t : ByteArray} (h : w.cell? ⟨b, 0, none⟩ = some (.int .i64 s) ∧ w.cell? ⟨b, 1, none⟩ = some (.int .i64 e) ∧ w.cell? ⟨b, 2, none⟩ = some (.string t) ∧ b < w.heap.size ∧ Below w0.heap.size w0 w) : EdAt b s e t w ∧ Below w0.heap.size w0 w :=
  ⟨⟨h.1, h.2.1, h.2.2.1, h.2.2.2.1⟩, h.2.2.2.2⟩
theorem keeps_bad (x : ByteArray) (s e : Int) (t : ByteArray) (w : World) (ht : t.size ≤ 9223372036854775807) (hx : x.size ≤ 9223372036854775807) (h : checkZ x.size s e t ≠ 0) :
    Calls Try.prog 9 #[.string x, ed s e t] w fun r w' => r = .returned (.bool true) ∧ Below w.heap.size w w' := by
  obtain ⟨k, hk⟩ : ∃ k, checkZ x.size s e t = k := ⟨_, rfl⟩
  rw [hk] at h
  have hk' := Lib.hid hk; clear hk
  have h' := Lib.hid h
  have h2 : (k != 0) = true := by simpa using h
  clear h
  go_enter Try.func9, Try.ntmps9
  go_wp2_with fail
  refine (apply_is _ _ _ _ _ ht hx k h'.out hk'.out).mono ?_
  rintro _ w1 ⟨rfl, hb1⟩
  go_wp2_with (go_at_call 16; refine (alive_any _).mono ?_; rintro _ w3 ⟨rfl, hb3⟩)
  go_ret
  exact ⟨rfl, Bcall (Bcall (Bnew (Below.refl _ _) _) hb1) hb3⟩

set_option maxRecDepth 100000 in
set_option maxHeartbeats 2000000 in
theorem keeps_good (x : ByteArray) (a c : Nat) (t : ByteArray) (w : World) (hac : a ≤ c) (hcx : c ≤ x.size) (hx : (x.size : Int) ≤ 65536) (ht : t.size ≤ 65536) (y : ByteArray)
    (k1 : Hid (∀ w : World, Calls Try.prog 17 #[.string x, ed a c t] w fun r w' => r = .returned (.tuple #[.string y, .int .i64 0]) ∧ Below w.heap.size w w'))
    (low : Hid (∀ (k : Nat), k < a → ∀ w : World, Calls Try.prog 24 #[ed a c t, .int .i64 k] w fun r w' => r = .returned (.int .i64 k) ∧ Below w.heap.size w w'))
    (lowb : Hid (∀ (k : Nat) (_ : k < a) (h1 : k < y.size) (h2 : k < x.size), y[k] = x[k]))
    (high : Hid (∀ i : Nat, c ≤ i → i < x.size → a < i → ∃ j : Nat, (∀ w : World, Calls Try.prog 24 #[ed a c t, .int .i64 i] w fun r w' => r = .returned (.int .i64 j) ∧ Below w.heap.size w w') ∧ ∃ (h1 : j < y.size) (h2 : i < x.size), y[j] = x[i]))
    (at0 : Hid (∀ w : World, Calls Try.prog 24 #[ed a c t, .int .i64 a] w fun r w' => r = .returned (.int .i64 a) ∧ Below w.heap.size w w'))
    (f1 : Hid (y.extract 0 a = x.extract 0 a)) (f2 : Hid (y.extract (a + t.size) y.size = x.extract c x.size))
    (hy : ((y.size : Int) != (x.size : Int) - (c - a) + t.size) = false) (hy1 : (a : Int) + t.size ≤ y.size) (hy2 : y.size ≤ 65536) (hs : y.extract a (a + t.size) = t) :
    Calls Try.prog 9 #[.string x, ed a c t] w fun r w' => r = .returned (.bool true) ∧ Below w.heap.size w w' := by
  go_enter Try.func9, Try.ntmps9
  go_wp2_with fail
  refine (k1.out _).mono ?_
  rintro _ w1 ⟨rfl, hb1⟩
  have E1 := Lib.hid ((EdAt.new w a c t).below hb1 (by simp))
  have L1 := Lib.hid (Bcall (Bnew (Below.refl w.heap.size w) _) hb1)
  clear hb1
  have hc0 := E1.out.1
  have hc1 := E1.out.2.1
  have hc2 := E1.out.2.2.1
  have hz1 := E1.out.2.2.2
  go_wp2_with fail
  have d1 : decide ((a : Int) < 0) = false := by simp
  have d2 : decide (c < a) = false := by simp; omega
  have d3 : decide (x.size < c) = false := by simp; omega
  have d4 : IntKind.i64.wrap ((c : Int) - a) = c - a := IntWalk.i64_in _ (by omega)
  have d5 : IntKind.i64.wrap ((x.size : Int) - (c - a)) = x.size - (c - a) := IntWalk.i64_in _ (by omega)
  have d6 : IntKind.i64.wrap ((x.size : Int) - (c - a) + t.size) = x.size - (c - a) + t.size := IntWalk.i64_in _ (by omega)
  have d7 : IntKind.i64.wrap ((a : Int) + t.size) = a + t.size := IntWalk.i64_in _ (by omega)
  have d8 : (0 : Int) ≤ a + t.size := by omega
  have d9 : ((a : Int) + t.size).toNat = a + t.size := by omega
  go_quiet (fail)
  clear d1 d2 d3 d4 d5 d6 d7 d8 d9 hc0 hc1 hc2
  have E2 := Lib.hid (E1.out.drewN nq)
  have L2 := Lib.hid (below_drewN L1.out nq)
  obtain ⟨w2, hw2⟩ : ∃ w2, w2 = w1.drewN nq := ⟨_, rfl⟩
  rw [← hw2] at E2 L2 ⊢
  clear hw2 E1 L1 hz1 nq w1
  have hc0 := E2.out.1
  have hc1 := E2.out.2.1
  have hc2 := E2.out.2.2.1
  go_wp2_with fail
  clear hc0 hc1 hc2
  go_loopw [7] (fun i wr => ∃ k : Nat, k ≤ a ∧ i = .int .i64 k ∧ EdAt w.heap.size a c t wr ∧ Below w.heap.size w wr) (fun i _ => a - (intOf i).toNat)
  case atStart => exact ⟨(max 0 ((a : Int) - 200)).toNat, by omega, by congr 1; omega, E2.out, L2.out⟩
  case round =>
    obtain ⟨k, hk, rfl, E3, L3⟩ := hrel
    have E3' := Lib.hid E3; clear E3
    have L3' := Lib.hid L3; clear L3
    have hc0 := E3'.out.1
    have hc1 := E3'.out.2.1
    have hc2 := E3'.out.2.2.1
    have hz3 := E3'.out.2.2.2
    by_cases hka : k < a
    · have hky : k < y.size := by omega
      have hkx : k < x.size := by omega
      have hyx := lowb.out k hka hky hkx
      go_wp2_with fail
      go_region_held3 (fun w' => w'.cell? ⟨w.heap.size, 0, none⟩ = some (.int .i64 a) ∧ w'.cell? ⟨w.heap.size, 1, none⟩ = some (.int .i64 c) ∧ w'.cell? ⟨w.heap.size, 2, none⟩ = some (.string t) ∧ w.heap.size < w'.heap.size ∧ Below w.heap.size w w')
        (first | assumption | exact ⟨hc0, hc1, hc2, hz3, L3'.out.drew⟩ | exact EdBelow (by assumption) hb)
        (first | (go_at_call 24; refine (low.out k hka _).mono ?_; rintro _ w' ⟨rfl, hb⟩))
      go_wp2
      all_goals
        have H := heldEd (by assumption)
        exact ⟨⟨k + 1, by omega, by go_num, H.1, H.2⟩, by simp [intOf]; omega⟩
    · obtain rfl : k = a := by omega
      go_wp2_with fail
      clear hc0 hc1 hc2
      go_loopw [8, 9] (fun i v wr => ∃ j : Nat, c ≤ j ∧ j ≤ x.size ∧ i = .int .i64 j ∧ EdAt w.heap.size k c t wr ∧ Below w.heap.size w wr) (fun i _ _ => x.size - (intOf i).toNat)
      case atStart => exact ⟨c, Nat.le_refl c, hcx, rfl, E3'.out, L3'.out⟩
      case round =>
        clear E3' L3' hz3
        obtain ⟨j, hj1, hj2, rfl, E4, L4⟩ := hrel
        have E4' := Lib.hid E4; clear E4
        have L4' := Lib.hid L4; clear L4
        have hc0 := E4'.out.1
        have hc1 := E4'.out.2.1
        have hc2 := E4'.out.2.2.1
        have hz4 := E4'.out.2.2.2
        by_cases hjx : j < x.size ∧ j < c + 200
        · obtain ⟨hjx, hj3⟩ := hjx
          by_cases hka2 : k < j
          · obtain ⟨m, km, hm1, hm2, hm3⟩ := high.out j hj1 hjx hka2
            have km' := Lib.hid km; clear km
            go_wp2_with fail
            refine (km'.out _).mono ?_
            rintro _ w4 ⟨rfl, hb4⟩
            have E5 := Lib.hid (E4'.out.below hb4 hz4)
            have L5 := Lib.hid (Bcall L4'.out hb4)
            clear hb4 hc0 hc1 hc2
            have hc0 := E5.out.1
            have e1 : decide (k < j) = true := by simpa using hka2
            have e2 : decide ((m : Int) < 0) = false := by simp
            have e3 : decide (y.size ≤ m) = false := by simp; omega
            go_wp2_with fail
            go_quiet (fail)
            clear e1 e2 e3
            go_wp2
            exact ⟨⟨j + 1, by omega, by omega, by go_num, E5.out.drewN _, below_drewN L5.out _⟩, by simp [intOf]; omega⟩
          · obtain rfl : j = k := by omega
            go_wp2_with fail
            refine (at0.out _).mono ?_
            rintro _ w4 ⟨rfl, hb4⟩
            have E5 := Lib.hid (E4'.out.below hb4 hz4)
            have L5 := Lib.hid (Bcall L4'.out hb4)
            clear hb4 hc0 hc1 hc2
            have hc0 := E5.out.1
            have e1 : decide (j < j) = false := by simp
            go_wp2_with fail
            go_quiet (fail)
            clear e1
            go_wp2
            exact ⟨⟨j + 1, by omega, by omega, by go_num, E5.out.drewN _, below_drewN L5.out _⟩, by simp [intOf]; omega⟩
        · have g1 := f1.out
          have g2 := f2.out
          have d7 : IntKind.i64.wrap ((k : Int) + t.size) = k + t.size := IntWalk.i64_in _ (by omega)
          have d8 : (0 : Int) ≤ k + t.size := by omega
          have d9 : ((k : Int) + t.size).toNat = k + t.size := by omega
          have b1 : (0 : Int) ≤ (k : Int) := by omega
          have b2 : (k : Int) ≤ (y.size : Int) := by omega
          have b3 : (k : Int) ≤ (x.size : Int) := by omega
          have b4 : (0 : Int) ≤ (c : Int) := by omega
          have b5 : (c : Int) ≤ (x.size : Int) := by omega
          by_cases hjx2 : j < x.size
          all_goals
            go_wp2_with fail
            go_region_held3 (fun w' => w'.cell? ⟨w.heap.size, 0, none⟩ = some (.int .i64 k) ∧ w'.cell? ⟨w.heap.size, 1, none⟩ = some (.int .i64 c) ∧ w'.cell? ⟨w.heap.size, 2, none⟩ = some (.string t) ∧ w.heap.size < w'.heap.size ∧ Below w.heap.size w w')
              (first | assumption | exact ⟨hc0, hc1, hc2, hz4, L4'.out.drew⟩ | exact EdBelow (by assumption) hb)
              (first | (go_at_call 16; refine (alive_any _).mono ?_; rintro _ w' ⟨rfl, hb⟩))
            all_goals
              have H := (heldEd (by assumption)).2
              have H' := Lib.hid H; clear H
              go_wp2
              go_ret
              exact ⟨rfl, H'.out⟩
theorem keeps_walk (x : ByteArray) (s e : Int) (t : ByteArray) (w : World) (ht : t.size ≤ 9223372036854775807) (hx : x.size ≤ 9223372036854775807) :
    Calls Try.prog 9 #[.string x, ed s e t] w fun r w' => r = .returned (.bool true) ∧ Below w.heap.size w w' := by
  by_cases h' : checkZ x.size s e t ≠ 0
  · exact keeps_bad x s e t w ht hx h'
  have h : checkZ x.size s e t = 0 := by simpa using h'
  obtain ⟨n1, n2, n3, n4, n5⟩ := fits h
  obtain ⟨a, rfl⟩ : ∃ a : Nat, s = a := ⟨s.toNat, by omega⟩
  obtain ⟨c, rfl⟩ : ∃ c : Nat, e = c := ⟨e.toNat, by omega⟩
  have sy := splice_size x a c t (by omega)
  have lx : x.data.toList.length = x.size := by simp
  have lt : t.data.toList.length = t.size := by simp
  have l1 : (x.data.toList.take a ++ t.data.toList).length = a + t.size := by rw [List.length_append, List.length_take, lt]; omega
  have la : (x.data.toList.take a).length = a := by rw [List.length_take]; omega
  have get : ∀ (z : ByteArray) (i : Nat) (h : i < z.size), z.data.toList[i]? = some z[i] := fun z i h => by
    rw [List.getElem?_eq_getElem (by simpa using h)]; rfl
  refine keeps_good x a c t w (by omega) (by omega) n4 (by omega) (splice x a c t) (Lib.hid fun w => ?_) (Lib.hid fun k hk w => ?_) (Lib.hid fun k hk h1 h2 => ?_) (Lib.hid fun i h1 h2 h3 => ⟨i - (c - a) + t.size, fun w => ?_, by omega, h2, ?_⟩) (Lib.hid fun w => ?_) (Lib.hid ?_) (Lib.hid ?_) ?_ (by omega) (by omega) (splice_extract x a c t (by omega))
  · have k := apply_ok x a c t w ht hx h
    rwa [Int.toNat_natCast, Int.toNat_natCast] at k
  · have q := at_any a c t k w ht
    rwa [at_good (by omega) (by omega) (by omega) (by omega) (by omega) (by omega), if_pos (by omega)] at q
  · have q1 := get (splice x a c t) k h1
    rw [splice_list, List.append_assoc, List.getElem?_append_left (by omega), List.getElem?_take_of_lt hk, get x k h2] at q1
    exact (Option.some.inj q1).symm
  · have q := at_any a c t i w ht
    rw [at_good (by omega) (by omega) (by omega) (by omega) (by omega) (by omega), if_neg (by omega), if_pos (by omega)] at q
    rwa [show ((i : Int) - (c - a) + t.size) = ((i - (c - a) + t.size : Nat) : Int) by omega] at q
  · have q1 := get (splice x a c t) (i - (c - a) + t.size) (by omega)
    rw [splice_list, List.getElem?_append_right (by omega), l1, List.getElem?_drop, show c + (i - (c - a) + t.size - (a + t.size)) = i by omega, get x i h2] at q1
    exact (Option.some.inj q1).symm
  · have q := at_any a c t a w ht
    rwa [at_good (by omega) (by omega) (by omega) (by omega) (by omega) (by omega), if_pos (by omega)] at q
  · apply ba_ext
    rw [Lib.extract_data, Lib.extract_data, splice_list, List.append_assoc]
    simp only [List.drop_zero, Nat.sub_zero]
    rw [take_at _ _ _ la]
  · apply ba_ext
    rw [Lib.extract_to_end, Lib.extract_to_end, splice_list, drop_at _ _ _ l1]
  · simp
    omega
end Go.Proofs.Ytejllankcgcclaa
