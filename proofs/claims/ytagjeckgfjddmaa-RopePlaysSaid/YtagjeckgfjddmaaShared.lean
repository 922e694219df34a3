/- Shared: how many leaves two ropes have in common, from the beginnings and from the ends. -/
import Derived.Test.YtagjeckgfjddmaaLeaves
import Derived.LaidEqlPtr
namespace Go.Proofs.Ytagjeckgfjddmaa
set_option linter.unusedSimpArgs false
set_option linter.unusedVariables false
open Go.RowKit

def pre : List Nat → List Nat → Nat
  | a :: l, b :: m => if a = b then pre l m + 1 else 0
  | _, _ => 0
theorem pre_is : ∀ (l m : List Nat) (k : Nat), k ≤ l.length → k ≤ m.length → l.take k = m.take k → (k = l.length ∨ k = m.length ∨ l[k]? ≠ m[k]?) → pre l m = k := by
  intro l
  induction l with
  | nil => intro m k h1 _ _ _; simp at h1; subst h1; simp [pre]
  | cons a l ih =>
    intro m k h1 h2 h3 h4
    cases m with
    | nil => simp at h2; subst h2; simp [pre]
    | cons b m =>
      cases k with
      | zero =>
        rcases h4 with h4 | h4 | h4
        · simp at h4
        · simp at h4
        · simp at h4; simp [pre, h4]
      | succ k =>
        simp at h1 h2 h3
        rw [pre, if_pos h3.1, ih m k h1 h2 h3.2 (by simpa using h4)]
theorem pre_le (l m : List Nat) : pre l m ≤ l.length ∧ pre l m ≤ m.length := by
  induction l generalizing m with
  | nil => simp [pre]
  | cons a l ih =>
    cases m with
    | nil => simp [pre]
    | cons b m =>
      rw [pre]
      split
      · have := ih m; simp; omega
      · simp
def blks (l : List Lf) : List Nat := l.map (·.1)
def shr (l m : List Nat) : Nat := pre l m + pre (l.drop (pre l m)).reverse (m.drop (pre l m)).reverse
theorem ptrs_get {l : List Lf} {k : Nat} {u : Value} (h : (ptrs l)[k]? = some u) : ∃ b, u = ptr b ∧ (blks l)[k]? = some b := by
  unfold ptrs at h
  rw [List.getElem?_map] at h
  cases e : l[k]? with
  | none => rw [e] at h; cases h
  | some x => rw [e] at h; refine ⟨x.1, (Option.some.inj h).symm, by simp [blks, e]⟩

theorem info83 : (Try.prog.info? 83).map (fun i => i.size) = some 7 := by kernel_rfl
theorem info83' : ∃ j, Try.prog.info? 83 = some j ∧ j.size ≠ 0 := by
  have h := info83
  cases e : Try.prog.info? 83 with
  | none => rw [e] at h; cases h
  | some j => rw [e] at h; exact ⟨j, rfl, by have := Option.some.inj h; simp only at this; omega⟩
theorem eq_same (b : Nat) (w : World) : (binOp .eql 60 (ptr b) (ptr b)).run Try.prog w = .ok (.bool true) w := by
  obtain ⟨j, h1, h2⟩ := info83'
  exact run_eql_ptr_same w _ Try.underlying60 h1
theorem eq_other (b c : Nat) (w : World) (hne : b ≠ c) (hb : Lives b w) (hc : Lives c w) : (binOp .eql 60 (ptr b) (ptr c)).run Try.prog w = .ok (.bool false) w := by
  obtain ⟨j, h1, h2⟩ := info83'
  obtain ⟨cs, h3⟩ := hb
  obtain ⟨ds, h4⟩ := hc
  exact run_eql_ptr_other w Try.underlying60 h1 h2 (by intro e; injection e; contradiction) h3 h4
theorem Lives.drewN {b : Nat} {w : World} (h : Lives b w) (n : Nat) : Lives b (w.drewN n) := h
theorem RepO.lives {w : World} {o : Option T} (h : RepO w o) {k b : Nat} (hb : (blks (lvs o))[k]? = some b) : Lives b w := by
  cases o with
  | none => simp [lvs, blks] at hb
  | some t =>
    have hm := List.mem_of_getElem? hb
    obtain ⟨x, hx, rfl⟩ := List.mem_map.1 hm
    exact (Rep.leafOf h hx).2
theorem owns_cap {w : World} {base : Nat} {e : TypeId} {size : Nat} {A : Option Addr} {n c : Nat} {xs : List Value} (h : w.ownsRow base e size (.slice A n c) n xs) : n ≤ c := by
  rcases h.2 with ⟨h0, h1⟩ | ⟨g, cap, cur, hv, _, _, hc, _⟩
  · injection h0 with _ e1 e2; omega
  · injection hv with _ e1 e2; omega

set_option maxHeartbeats 2000000 in
set_option maxRecDepth 100000 in
theorem shared_made (ba bb : Nat) (oa ob : Option T) (w : World) (hra : RopeAt w ba oa) (hrb : RopeAt w bb ob) (ha : (lvs oa).length ≤ 100000) (hb : (lvs ob).length ≤ 100000) :
    Calls Try.prog 33 #[ptr ba, ptr bb] w fun e w' => e = .returned (.int .i64 (shr (blks (lvs oa)) (blks (lvs ob)))) ∧ Below w.heap.size w w' := by
  have t1 := Lib.hid (top_made ba oa w hra)
  have t2 := Lib.hid (fun wz (h : Below w.heap.size w wz) => top_made bb ob wz (hrb.below h))
  have l1 := Lib.hid (leaves_any oa w hra.2.2.2 (by omega))
  have l2 := Lib.hid (fun wz (h : Below w.heap.size w wz) => leaves_any ob wz (hrb.below h).2.2.2 (by omega))
  have v1' := Lib.hid (fun wz (h : Below w.heap.size w wz) (k b : Nat) (hb : (blks (lvs oa))[k]? = some b) => (hra.below h).2.2.2.lives hb)
  have v2' := Lib.hid (fun wz (h : Below w.heap.size w wz) (k b : Nat) (hb : (blks (lvs ob))[k]? = some b) => (hrb.below h).2.2.2.lives hb)
  generalize lvs oa = la at *
  generalize lvs ob = lb at *
  clear hra hrb
  go_enter Try.func33, Try.ntmps33
  go_wp2_with fail
  refine t1.out.mono ?_
  rintro _ _ ⟨rfl, rfl⟩
  go_wp2_with fail
  refine l1.out.mono ?_
  rintro _ w1 ⟨v1, rfl, hq1⟩
  have hq1' := Lib.hid hq1
  clear hq1
  go_wp2_with fail
  refine (t2.out _ hq1'.out.2).mono ?_
  rintro _ _ ⟨rfl, rfl⟩
  go_wp2_with fail
  refine (l2.out _ hq1'.out.2).mono ?_
  rintro _ w2 ⟨v2, rfl, hq2⟩
  have hq2' := Lib.hid hq2
  clear hq2
  have hL := Lib.hid (hq1'.out.2.trans (hq2'.out.2.mono hq1'.out.2.size))
  have o1 := owns_below hq1'.out.1 hq2'.out.2
  have o2 := hq2'.out.1
  obtain ⟨A, c, rfl⟩ := owns_slice o1
  obtain ⟨D, d, rfl⟩ := owns_slice o2
  have r1 := Lib.hid (Reads.of_own o1)
  have r2 := Lib.hid (Reads.of_own o2)
  obtain ⟨n, hn⟩ : ∃ n, la.length = n := ⟨_, rfl⟩
  obtain ⟨m, hm⟩ : ∃ m, lb.length = m := ⟨_, rfl⟩
  rw [hn] at ha r1 ⊢
  rw [hm] at hb r2 ⊢
  have hn' := Lib.hid hn
  have hm' := Lib.hid hm
  have hc1 := owns_cap o1
  have hc2 := owns_cap o2
  rw [hn] at hc1
  rw [hm] at hc2
  clear o1 o2 hn hm
  go_wp2_with fail
  go_loopw [7] (fun i wr => ∃ k q : Nat, k ≤ n ∧ k ≤ m ∧ i = .int .i64 k ∧ wr = w2.drewN q ∧ (blks la).take k = (blks lb).take k) (fun i _ => n - (intOf i).toNat)
  case atStart => exact ⟨0, 0, by omega, by omega, rfl, rfl, rfl⟩
  case round =>
    obtain ⟨k, q, hk1, hk2, rfl, rfl, hpre⟩ := hrel
    have hpre' := Lib.hid hpre
    clear hpre
    obtain ⟨mn, hmn⟩ : ∃ mn : Nat, min (n : Int) (m : Int) = mn := ⟨(min n m), by omega⟩
    by_cases hkn : k < n ∧ k < m
    · obtain ⟨hkn, hkm⟩ := hkn
      obtain ⟨p1, u1, e1, _, hu1, hc1'⟩ := r1.out.at_ hkn
      obtain ⟨p2, u2, e2, _, hu2, hc2'⟩ := r2.out.at_ hkm
      obtain ⟨b1, rfl, hb1⟩ := ptrs_get hu1
      obtain ⟨b2, rfl, hb2⟩ := ptrs_get hu2
      subst e1 e2
      have i1 : (k : Int) < (n : Int) := by omega
      have i2 : (k : Int) < (m : Int) := by omega
      have d1 : decide (k < mn) = true := by simp; omega
      have hb1' := Lib.hid hb1
      have hb2' := Lib.hid hb2
      have hmn' := Lib.hid hmn
      clear hu1 hu2 hb1 hb2 hmn
      by_cases he : b1 = b2
      · subst he
        have hq := eq_same b1
        go_wp2_with fail
        have e3 := hmn'.out
        go_quiet (fail)
        clear e3 hq
        go_wp2
        exact ⟨⟨k + 1, q + nq, by omega, by omega, by go_num, rfl, by rw [List.take_add_one, List.take_add_one, hpre'.out, hb1'.out, hb2'.out]⟩, by simp [intOf]; omega⟩
      · have hq := fun n => eq_other b1 b2 (w2.drewN n) he ((v1'.out _ hL.out _ _ hb1'.out).drewN n) ((v2'.out _ hL.out _ _ hb2'.out).drewN n)
        have he' := Lib.hid he
        clear he
        go_wp2_with fail
        have e3 := hmn'.out
        go_quiet (fail)
        clear e3 hq
        have hpe := Lib.hid (pre_is (blks la) (blks lb) k (by rw [blks, List.length_map, hn'.out]; omega) (by rw [blks, List.length_map, hm'.out]; omega) hpre'.out (.inr (.inr (by rw [hb1'.out, hb2'.out]; intro e; exact he'.out (Option.some.inj e)))))
        clear hb1' hb2' he' hc1' hc2' d1 i1 i2 hmn' hpre'
        go_wp2_with fail
        simp only [World.drewN_drewN]
        have j0 : (0 : Int) ≤ (k : Int) := by omega
        have j1 : (k : Int) ≤ (n : Int) := by omega
        have j2 : (k : Int) ≤ (m : Int) := by omega
        go_quiet (fail)
        clear j0 j1 j2
        have r3 := r1.out.cut hk1 hc1
        have r4 := r2.out.cut hk2 hc2
        simp only [Nat.mul_one, Option.map_some] at r3 r4
        rw [if_neg (by omega)] at r3 r4
        obtain ⟨A3, hA3⟩ : ∃ A3, some (p1.add k) = A3 := ⟨_, rfl⟩
        obtain ⟨D3, hD3⟩ : ∃ D3, some (p2.add k) = D3 := ⟨_, rfl⟩
        rw [hA3] at r3
        rw [hD3] at r4
        simp only [hA3, hD3]
        obtain ⟨N, hN⟩ : ∃ N, n - k = N := ⟨_, rfl⟩
        obtain ⟨M, hM⟩ : ∃ M, m - k = M := ⟨_, rfl⟩
        rw [hN] at r3
        rw [hM] at r4
        simp only [hN, hM]
        have r3' := Lib.hid r3
        have r4' := Lib.hid r4
        have hN' := Lib.hid hN
        have hM' := Lib.hid hM
        have hNb : N ≤ 100000 := by omega
        have hMb : M ≤ 100000 := by omega
        clear r3 r4 hA3 hD3 hN hM
        simp only [World.drewN_drewN]
        go_wp2_with fail
        go_loopw [8] (fun i wr => ∃ k2 q2 : Nat, k2 ≤ N ∧ k2 ≤ M ∧ i = .int .i64 k2 ∧ wr = w2.drewN q2 ∧ ((blks la).drop k).reverse.take k2 = ((blks lb).drop k).reverse.take k2) (fun i _ => N - (intOf i).toNat)
        case atStart => exact ⟨0, _, by omega, by omega, rfl, rfl, rfl⟩
        case round =>
          obtain ⟨k2, q2, hk3, hk4, rfl, rfl, hpre2⟩ := hrel
          have hpre2' := Lib.hid hpre2
          clear hpre2
          obtain ⟨mn2, hmn2⟩ : ∃ mn2 : Nat, min (N : Int) (M : Int) = mn2 := ⟨(min N M), by omega⟩
          have hmn2' := Lib.hid hmn2
          by_cases hkn2 : k2 < N ∧ k2 < M
          · obtain ⟨hkn2, hkm2⟩ := hkn2
            have f1 : IntKind.i64.wrap ((N : Int) - 1) = (N : Int) - 1 := IntWalk.i64_in _ (by omega)
            have f2 : IntKind.i64.wrap ((M : Int) - 1) = (M : Int) - 1 := IntWalk.i64_in _ (by omega)
            obtain ⟨J, hJ⟩ : ∃ J, N - 1 - k2 = J := ⟨_, rfl⟩
            obtain ⟨I, hI⟩ : ∃ I, M - 1 - k2 = I := ⟨_, rfl⟩
            have f3 : IntKind.i64.wrap ((N : Int) - 1 - (k2 : Int)) = (J : Int) := by rw [IntWalk.i64_in _ (by omega)]; omega
            have f4 : IntKind.i64.wrap ((M : Int) - 1 - (k2 : Int)) = (I : Int) := by rw [IntWalk.i64_in _ (by omega)]; omega
            have hJN : J < N := by omega
            have hIM : I < M := by omega
            obtain ⟨s1, x1, e1, _, hx1, hs1⟩ := r3'.out.at_ hJN
            obtain ⟨s2, x2, e2, _, hx2, hs2⟩ := r4'.out.at_ hIM
            rw [List.getElem?_drop] at hx1 hx2
            obtain ⟨z1, rfl, hz1⟩ := ptrs_get hx1
            obtain ⟨z2, rfl, hz2⟩ := ptrs_get hx2
            have g1 : ((blks la).drop k).reverse[k2]? = some z1 := by
              rw [List.getElem?_reverse (by rw [List.length_drop, blks, List.length_map, hn'.out, hN'.out]; omega), List.getElem?_drop, ← hz1]
              congr 2
              rw [List.length_drop, blks, List.length_map, hn'.out, hN'.out]; omega
            have g2 : ((blks lb).drop k).reverse[k2]? = some z2 := by
              rw [List.getElem?_reverse (by rw [List.length_drop, blks, List.length_map, hm'.out, hM'.out]; omega), List.getElem?_drop, ← hz2]
              congr 2
              rw [List.length_drop, blks, List.length_map, hm'.out, hM'.out]; omega
            have hv1 := Lib.hid (v1'.out _ hL.out _ _ hz1)
            have hv2 := Lib.hid (v2'.out _ hL.out _ _ hz2)
            subst e1 e2
            have i1 : (J : Int) < (N : Int) := by omega
            have i2 : (I : Int) < (M : Int) := by omega
            have i3 : (0 : Int) ≤ (J : Int) := by omega
            have i4 : (0 : Int) ≤ (I : Int) := by omega
            have d1 : decide (k2 < mn2) = true := by simp; omega
            have g1' := Lib.hid g1
            have g2' := Lib.hid g2
            have f1' := Lib.hid f1
            have f2' := Lib.hid f2
            have f3' := Lib.hid f3
            have f4' := Lib.hid f4
            have hJ' := Lib.hid hJ
            have hI' := Lib.hid hI
            clear hx1 hx2 hz1 hz2 g1 g2 hmn2 f1 f2 f3 f4 hJ hI
            by_cases he : z1 = z2
            · subst he
              have hq := eq_same z1
              go_wp2_with fail
              have e3 := hmn2'.out
              have f1 := f1'.out
              have f2 := f2'.out
              have f3 := f3'.out
              have f4 := f4'.out
              go_quiet (fail)
              clear e3 hq f1 f2 f3 f4
              go_wp2
              exact ⟨⟨k2 + 1, q2 + nq, by omega, by omega, by go_num, rfl, by rw [List.take_add_one, List.take_add_one, hpre2'.out, g1'.out, g2'.out]⟩, by simp [intOf]; omega⟩
            · have hq := fun n => eq_other z1 z2 (w2.drewN n) he (hv1.out.drewN n) (hv2.out.drewN n)
              have he2 := Lib.hid he
              clear he
              go_wp2_with fail
              have e3 := hmn2'.out
              have f1 := f1'.out
              have f2 := f2'.out
              have f3 := f3'.out
              have f4 := f4'.out
              go_quiet (fail)
              clear e3 hq f1 f2 f3 f4
              go_wp2
              go_ret
              have hp2 := pre_is ((blks la).drop k).reverse ((blks lb).drop k).reverse k2 (by rw [List.length_reverse, List.length_drop, blks, List.length_map, hn'.out, hN'.out]; omega) (by rw [List.length_reverse, List.length_drop, blks, List.length_map, hm'.out, hM'.out]; omega) hpre2'.out (.inr (.inr (by rw [g1'.out, g2'.out]; intro e; exact he2.out (Option.some.inj e))))
              exact ⟨ret_int (by rw [shr, hpe.out, hp2]; omega), below_drewN hL.out _⟩
          · have d1 : decide (k2 < mn2) = false := by simp; omega
            clear hmn2
            go_wp2_with fail
            have e3 := hmn2'.out
            go_quiet (fail)
            clear e3
            go_wp2
            go_ret
            have hp2 := pre_is ((blks la).drop k).reverse ((blks lb).drop k).reverse k2 (by rw [List.length_reverse, List.length_drop, blks, List.length_map, hn'.out, hN'.out]; omega) (by rw [List.length_reverse, List.length_drop, blks, List.length_map, hm'.out, hM'.out]; omega) hpre2'.out (by rw [List.length_reverse, List.length_drop, blks, List.length_map, hn'.out, hN'.out, List.length_reverse, List.length_drop, blks, List.length_map, hm'.out, hM'.out]; omega)
            exact ⟨ret_int (by rw [shr, hpe.out, hp2]; omega), below_drewN hL.out _⟩
    · have hpe := Lib.hid (pre_is (blks la) (blks lb) k (by rw [blks, List.length_map, hn'.out]; omega) (by rw [blks, List.length_map, hm'.out]; omega) hpre'.out (by rw [blks, List.length_map, hn'.out, blks, List.length_map, hm'.out]; omega))
      have d1 : decide (k < mn) = false := by simp; omega
      have hmn' := Lib.hid hmn
      clear hmn
      go_wp2_with fail
      have e3 := hmn'.out
      go_quiet (fail)
      clear e3 d1 hkn hmn' hpre'
      go_wp2_with fail
      simp only [World.drewN_drewN]
      have j0 : (0 : Int) ≤ (k : Int) := by omega
      have j1 : (k : Int) ≤ (n : Int) := by omega
      have j2 : (k : Int) ≤ (m : Int) := by omega
      go_quiet (fail)
      clear j0 j1 j2
      have r3 := r1.out.cut hk1 hc1
      have r4 := r2.out.cut hk2 hc2
      simp only [Nat.mul_one, Option.map_some] at r3 r4
      skip
      obtain ⟨A3, hA3⟩ : ∃ A3, (if c = k then A else Option.map (fun x => x.add k) A) = A3 := ⟨_, rfl⟩
      obtain ⟨D3, hD3⟩ : ∃ D3, (if d = k then D else Option.map (fun x => x.add k) D) = D3 := ⟨_, rfl⟩
      rw [hA3] at r3
      rw [hD3] at r4
      simp only [hA3, hD3]
      obtain ⟨N, hN⟩ : ∃ N, n - k = N := ⟨_, rfl⟩
      obtain ⟨M, hM⟩ : ∃ M, m - k = M := ⟨_, rfl⟩
      rw [hN] at r3
      rw [hM] at r4
      simp only [hN, hM]
      have r3' := Lib.hid r3
      have r4' := Lib.hid r4
      have hN' := Lib.hid hN
      have hM' := Lib.hid hM
      have hNb : N ≤ 100000 := by omega
      have hMb : M ≤ 100000 := by omega
      clear r3 r4 hA3 hD3 hN hM
      simp only [World.drewN_drewN]
      go_wp2_with fail
      go_loopw [8] (fun i wr => ∃ k2 q2 : Nat, k2 ≤ N ∧ k2 ≤ M ∧ i = .int .i64 k2 ∧ wr = w2.drewN q2 ∧ ((blks la).drop k).reverse.take k2 = ((blks lb).drop k).reverse.take k2) (fun i _ => N - (intOf i).toNat)
      case atStart => exact ⟨0, _, by omega, by omega, rfl, rfl, rfl⟩
      case round =>
        obtain ⟨k2, q2, hk3, hk4, rfl, rfl, hpre2⟩ := hrel
        have hpre2' := Lib.hid hpre2
        clear hpre2
        obtain ⟨mn2, hmn2⟩ : ∃ mn2 : Nat, min (N : Int) (M : Int) = mn2 := ⟨(min N M), by omega⟩
        have hmn2' := Lib.hid hmn2
        by_cases hkn2 : k2 < N ∧ k2 < M
        · obtain ⟨hkn2, hkm2⟩ := hkn2
          have f1 : IntKind.i64.wrap ((N : Int) - 1) = (N : Int) - 1 := IntWalk.i64_in _ (by omega)
          have f2 : IntKind.i64.wrap ((M : Int) - 1) = (M : Int) - 1 := IntWalk.i64_in _ (by omega)
          obtain ⟨J, hJ⟩ : ∃ J, N - 1 - k2 = J := ⟨_, rfl⟩
          obtain ⟨I, hI⟩ : ∃ I, M - 1 - k2 = I := ⟨_, rfl⟩
          have f3 : IntKind.i64.wrap ((N : Int) - 1 - (k2 : Int)) = (J : Int) := by rw [IntWalk.i64_in _ (by omega)]; omega
          have f4 : IntKind.i64.wrap ((M : Int) - 1 - (k2 : Int)) = (I : Int) := by rw [IntWalk.i64_in _ (by omega)]; omega
          have hJN : J < N := by omega
          have hIM : I < M := by omega
          obtain ⟨s1, x1, e1, _, hx1, hs1⟩ := r3'.out.at_ hJN
          obtain ⟨s2, x2, e2, _, hx2, hs2⟩ := r4'.out.at_ hIM
          rw [List.getElem?_drop] at hx1 hx2
          obtain ⟨z1, rfl, hz1⟩ := ptrs_get hx1
          obtain ⟨z2, rfl, hz2⟩ := ptrs_get hx2
          have g1 : ((blks la).drop k).reverse[k2]? = some z1 := by
            rw [List.getElem?_reverse (by rw [List.length_drop, blks, List.length_map, hn'.out, hN'.out]; omega), List.getElem?_drop, ← hz1]
            congr 2
            rw [List.length_drop, blks, List.length_map, hn'.out, hN'.out]; omega
          have g2 : ((blks lb).drop k).reverse[k2]? = some z2 := by
            rw [List.getElem?_reverse (by rw [List.length_drop, blks, List.length_map, hm'.out, hM'.out]; omega), List.getElem?_drop, ← hz2]
            congr 2
            rw [List.length_drop, blks, List.length_map, hm'.out, hM'.out]; omega
          have hv1 := Lib.hid (v1'.out _ hL.out _ _ hz1)
          have hv2 := Lib.hid (v2'.out _ hL.out _ _ hz2)
          subst e1 e2
          have i1 : (J : Int) < (N : Int) := by omega
          have i2 : (I : Int) < (M : Int) := by omega
          have i3 : (0 : Int) ≤ (J : Int) := by omega
          have i4 : (0 : Int) ≤ (I : Int) := by omega
          have d1 : decide (k2 < mn2) = true := by simp; omega
          have g1' := Lib.hid g1
          have g2' := Lib.hid g2
          have f1' := Lib.hid f1
          have f2' := Lib.hid f2
          have f3' := Lib.hid f3
          have f4' := Lib.hid f4
          have hJ' := Lib.hid hJ
          have hI' := Lib.hid hI
          clear hx1 hx2 hz1 hz2 g1 g2 hmn2 f1 f2 f3 f4 hJ hI
          by_cases he : z1 = z2
          · subst he
            have hq := eq_same z1
            go_wp2_with fail
            have e3 := hmn2'.out
            have f1 := f1'.out
            have f2 := f2'.out
            have f3 := f3'.out
            have f4 := f4'.out
            go_quiet (fail)
            clear e3 hq f1 f2 f3 f4
            go_wp2
            exact ⟨⟨k2 + 1, q2 + nq, by omega, by omega, by go_num, rfl, by rw [List.take_add_one, List.take_add_one, hpre2'.out, g1'.out, g2'.out]⟩, by simp [intOf]; omega⟩
          · have hq := fun n => eq_other z1 z2 (w2.drewN n) he (hv1.out.drewN n) (hv2.out.drewN n)
            have he2 := Lib.hid he
            clear he
            go_wp2_with fail
            have e3 := hmn2'.out
            have f1 := f1'.out
            have f2 := f2'.out
            have f3 := f3'.out
            have f4 := f4'.out
            go_quiet (fail)
            clear e3 hq f1 f2 f3 f4
            go_wp2
            go_ret
            have hp2 := pre_is ((blks la).drop k).reverse ((blks lb).drop k).reverse k2 (by rw [List.length_reverse, List.length_drop, blks, List.length_map, hn'.out, hN'.out]; omega) (by rw [List.length_reverse, List.length_drop, blks, List.length_map, hm'.out, hM'.out]; omega) hpre2'.out (.inr (.inr (by rw [g1'.out, g2'.out]; intro e; exact he2.out (Option.some.inj e))))
            exact ⟨ret_int (by rw [shr, hpe.out, hp2]; omega), below_drewN hL.out _⟩
        · have d1 : decide (k2 < mn2) = false := by simp; omega
          clear hmn2
          go_wp2_with fail
          have e3 := hmn2'.out
          go_quiet (fail)
          clear e3
          go_wp2
          go_ret
          have hp2 := pre_is ((blks la).drop k).reverse ((blks lb).drop k).reverse k2 (by rw [List.length_reverse, List.length_drop, blks, List.length_map, hn'.out, hN'.out]; omega) (by rw [List.length_reverse, List.length_drop, blks, List.length_map, hm'.out, hM'.out]; omega) hpre2'.out (by rw [List.length_reverse, List.length_drop, blks, List.length_map, hn'.out, hN'.out, List.length_reverse, List.length_drop, blks, List.length_map, hm'.out, hM'.out]; omega)
          exact ⟨ret_int (by rw [shr, hpe.out, hp2]; omega), below_drewN hL.out _⟩
end Go.Proofs.Ytagjeckgfjddmaa
