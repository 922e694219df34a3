/- SetsPut: the walk. -/
import Derived.Test.YtennflnfjjhgpaaProg
import Derived.Test.YtennflnfjjhgpaaTw
import Derived.Test.YtennflnfjjhgpaaRF
import Derived.Test.YtennflnfjjhgpaaRS
import Derived.Test.YtennflnfjjhgpaaAl
import Derived.Test.YtennflnfjjhgpaaL1
import Derived.Test.YtennflnfjjhgpaaQw
import Derived.WalkKit
import Derived.WalkLawsBesides
import Derived.WalkSpells
import Derived.Outline
import Derived.Lib.Walk
import Derived.Lib.Hide
import Derived.RegionTactic
import Derived.LoopTactic
import Derived.Below
import Derived.IntWalk
import Derived.Deep.RegionHeld3
import Derived.RegionCalls
import Derived.Deep.RegionWith
import Derived.Lib.Slices
import Derived.Laws.NewBlocks
import Derived.BigQuiet
import Derived.Deep.Light
namespace Go.Proofs.Ytennflnfjjhgpaa
set_option linter.unusedSimpArgs false
set_option linter.unusedVariables false
open Go.RowKit

theorem Sb.three {w0 w : World} {L : List (Nat × Obj)} {b1 b2 b3 : Nat} {a1 a2 a3 : Array Value} {t : TypeId} (h : Sb w0 w ((b3, .cells a3 t (0, 0)) :: (b2, .cells a2 t (0, 0)) :: (b1, .cells a1 t (0, 0)) :: L)) (i : Nat) (v1 v2 v3 : Value)
    (n1 : b1 ≠ b2) (n2 : b1 ≠ b3) (n3 : b2 ≠ b3) (hL : ∀ c ∈ L, c.1 ≠ b1 ∧ c.1 ≠ b2 ∧ c.1 ≠ b3) :
    Sb w0 (((w.setCell ⟨b1, i, none⟩ v1).setCell ⟨b2, i, none⟩ v2).setCell ⟨b3, i, none⟩ v3) ((b3, .cells (a3.setIfInBounds i v3) t (0, 0)) :: (b2, .cells (a2.setIfInBounds i v2) t (0, 0)) :: (b1, .cells (a1.setIfInBounds i v1) t (0, 0)) :: L) := by
  have h1 := (h.sub (M := (b1, .cells a1 t (0, 0)) :: (b2, .cells a2 t (0, 0)) :: (b3, .cells a3 t (0, 0)) :: L) (fun c hc => by simp only [List.mem_cons] at hc ⊢; rcases hc with h | h | h | h <;> simp [h])).set (i := i) v1 (fun c hc => by
    simp only [List.mem_cons] at hc
    rcases hc with rfl | rfl | hc
    · exact n1.symm
    · exact n2.symm
    · exact (hL c hc).1)
  have h2 := (h1.sub (M := (b2, .cells a2 t (0, 0)) :: (b1, .cells (a1.setIfInBounds i v1) t (0, 0)) :: (b3, .cells a3 t (0, 0)) :: L) (fun c hc => by simp only [List.mem_cons] at hc ⊢; rcases hc with h | h | h | h <;> simp [h])).set (i := i) v2 (fun c hc => by
    simp only [List.mem_cons] at hc
    rcases hc with rfl | rfl | hc
    · exact n1
    · exact n3.symm
    · exact (hL c hc).2.1)
  have h3 := (h2.sub (M := (b3, .cells a3 t (0, 0)) :: (b2, .cells (a2.setIfInBounds i v2) t (0, 0)) :: (b1, .cells (a1.setIfInBounds i v1) t (0, 0)) :: L) (fun c hc => by simp only [List.mem_cons] at hc ⊢; rcases hc with h | h | h | h <;> simp [h])).set (i := i) v3 (fun c hc => by
    simp only [List.mem_cons] at hc
    rcases hc with rfl | rfl | hc
    · exact n3
    · exact n2
    · exact (hL c hc).2.2)
  exact h3
theorem i24v (u : Nat → Int) : (Try.prog.info? 24).map (·.size) = some (vc u).size := by
  rw [show (vc u).size = 4 from rfl]; kernel_rfl
set_option maxHeartbeats 4000000 in
set_option maxRecDepth 100000 in
theorem put_abs (f g : Nat → Bool) (u v o n m : Nat → Int) (hF : Hid (∀ w, Calls Try.prog 11 #[vv u] w fun e w' => e = .returned (.agg (fl f)) ∧ Below w.heap.size w w')) (hG : Hid (∀ w, Calls Try.prog 11 #[vv v] w fun e w' => e = .returned (.agg (fl g)) ∧ Below w.heap.size w w'))
    (hU : Hid (∀ w, Calls Try.prog 21 #[vv u, vv v] w fun e w' => e = .returned (vv o) ∧ Below w.heap.size w w')) (hM : Hid (∀ w, Calls Try.prog 22 #[vv u, vv v] w fun e w' => e = .returned (vv n) ∧ Below w.heap.size w w')) (hN : Hid (∀ w, Calls Try.prog 23 #[vv u] w fun e w' => e = .returned (vv m) ∧ Below w.heap.size w w'))
    (hRO : Hid (∀ w, Calls Try.prog 18 #[.agg (fl fun j => f j || g j)] w fun e w' => e = .returned (vv o) ∧ Below w.heap.size w w')) (hRA : Hid (∀ w, Calls Try.prog 18 #[.agg (fl fun j => f j && g j)] w fun e w' => e = .returned (vv n) ∧ Below w.heap.size w w')) (hRN : Hid (∀ w, Calls Try.prog 18 #[.agg (fl fun j => !f j)] w fun e w' => e = .returned (vv m) ∧ Below w.heap.size w w')) (w : World) :
    Calls Try.prog 4 #[vv u, vv v] w fun e w' => e = .returned (.bool true) ∧ Below w.heap.size w w' := by
  have S0 := Lib.hid (((Sb.start w).alloc (.cells (vc u) 24)).alloc (.cells (vc v) 24))
  have hsz1 : (w.alloc (.cells (vc u) 24)).heap.size = w.heap.size + 1 := by simp
  rw [hsz1] at S0
  clear hsz1
  have hz := zero27
  have hal := Lib.hid alive_any
  go_enter Try.func4, Try.ntmps4
  go_wp2_with fail
  refine wp_region_owed (fun l a w1 => ∃ x11 x12 x13 x14 x5 x6 : Value, a = ⟨(List.toArray (vv u :: vv v :: .pointer (some ⟨w.heap.size, 0, none⟩) :: .pointer (some ⟨w.heap.size + 1, 0, none⟩) :: .bool false :: x5 :: x6 :: undef :: undef :: undef :: undef :: x11 :: x12 :: x13 :: x14 :: undef :: undef :: undef :: undef :: undef :: undef :: undef :: undef :: undef :: undef :: undef :: undef :: undef :: undef :: undef :: undef :: undef :: undef :: undef :: undef :: undef :: undef :: undef :: undef :: undef :: undef :: undef :: undef :: undef :: undef :: undef :: undef :: undef :: undef :: undef :: undef :: undef :: undef :: undef :: undef :: undef :: undef :: undef :: undef :: undef :: undef :: undef :: undef :: undef :: undef :: undef :: undef :: undef :: undef :: [])), []⟩ ∧ (l 0 = true → x11 = .agg (vc u)) ∧ (l 1 = true → x12 = .agg (fl f)) ∧ (l 2 = true → x13 = .agg (vc v)) ∧ (l 3 = true → x14 = .agg (fl g)) ∧ Two w w1 [(w.heap.size + 1, .cells (vc v) 24), (w.heap.size, .cells (vc u) 24)] 27 (l 4) (l 6) (l 5) (l 7) x5 x6 (fl fun _ => false) (fl f) (fl g)) (by kernel_rfl) (by kernel_rfl) ⟨undef, undef, undef, undef, undef, undef, rfl, fun h => (by cases h), fun h => (by cases h), fun h => (by cases h), fun h => (by cases h), Two.start S0.out.drew⟩ ?st ?fin
  case st =>
    refine Owed.next (n := 0) (o := ?o0) ?ho0 ?h0 ?hs0
    case ho0 => rfl
    case h0 =>
     intro l a w1 hw hl hI K hK
     obtain ⟨x11, x12, x13, x14, x5, x6, rfl, e0, e1, e2, e3, hT⟩ := hI
     rw [if_pos (by rfl)]
     refine wp_load_row 24 (.tmp 2) rfl w.heap.size rfl 24 (vc u) (0, 0) _ hT.1.tl.heap Try.underlying24 rfl (i24v u) ?_
     exact hK.out _ _ ⟨.agg (vc u), x12, x13, x14, x5, x6, rfl, fun _ => rfl, fun h => e1 h, fun h => e2 h, fun h => e3 h, hT⟩
    refine Owed.next (n := 1) (o := ?o1) ?ho1 ?h1 ?hs1
    case ho1 => rfl
    case h1 =>
     intro l a w1 hw hl hI K hK
     obtain ⟨x11, x12, x13, x14, x5, x6, rfl, e0, e1, e2, e3, hT⟩ := hI
     rw [if_pos (by rfl)]
     obtain rfl := e0 (hw 0 (by kernel_rfl))
     go_wp2_with fail
     refine (hF.out _).mono ?_
     rintro _ w2 ⟨rfl, hb⟩
     exact hK.out _ _ ⟨.agg (vc u), .agg (fl f), x13, x14, x5, x6, rfl, fun _ => rfl, fun _ => rfl, fun h => e2 h, fun h => e3 h, hT.up hb⟩
    refine Owed.next (n := 2) (o := ?o2) ?ho2 ?h2 ?hs2
    case ho2 => rfl
    case h2 =>
     intro l a w1 hw hl hI K hK
     obtain ⟨x11, x12, x13, x14, x5, x6, rfl, e0, e1, e2, e3, hT⟩ := hI
     rw [if_pos (by rfl)]
     refine wp_load_row 24 (.tmp 3) rfl (w.heap.size + 1) rfl 24 (vc v) (0, 0) _ hT.1.heap Try.underlying24 rfl (i24v v) ?_
     exact hK.out _ _ ⟨x11, x12, .agg (vc v), x14, x5, x6, rfl, fun h => e0 h, fun h => e1 h, fun _ => rfl, fun h => e3 h, hT⟩
    refine Owed.next (n := 3) (o := ?o3) ?ho3 ?h3 ?hs3
    case ho3 => rfl
    case h3 =>
     intro l a w1 hw hl hI K hK
     obtain ⟨x11, x12, x13, x14, x5, x6, rfl, e0, e1, e2, e3, hT⟩ := hI
     rw [if_pos (by rfl)]
     obtain rfl := e2 (hw 2 (by kernel_rfl))
     go_wp2_with fail
     refine (hG.out _).mono ?_
     rintro _ w2 ⟨rfl, hb⟩
     exact hK.out _ _ ⟨x11, x12, .agg (vc v), .agg (fl g), x5, x6, rfl, fun h => e0 h, fun h => e1 h, fun _ => rfl, fun _ => rfl, hT.up hb⟩
    refine Owed.next (n := 4) (o := ?o4) ?ho4 ?h4 ?hs4
    case ho4 => rfl
    case h4 =>
     intro l a w1 hw hl hI K hK
     obtain ⟨x11, x12, x13, x14, x5, x6, rfl, e0, e1, e2, e3, hT⟩ := hI
     rw [if_pos (by rfl)]
     rw [hl] at hT
     go_wp2_with fail
     exact hK.out _ _ ⟨x11, x12, x13, x14, .pointer (some ⟨w1.heap.size, 0, none⟩), x6, rfl, fun h => e0 h, fun h => e1 h, fun h => e2 h, fun h => e3 h, hT.newL⟩
    refine Owed.next (n := 5) (o := ?o5) ?ho5 ?h5 ?hs5
    case ho5 => rfl
    case h5 =>
     intro l a w1 hw hl hI K hK
     obtain ⟨x11, x12, x13, x14, x5, x6, rfl, e0, e1, e2, e3, hT⟩ := hI
     rw [if_pos (by rfl)]
     rw [hl] at hT
     go_wp2_with fail
     exact hK.out _ _ ⟨x11, x12, x13, x14, x5, .pointer (some ⟨w1.heap.size, 0, none⟩), rfl, fun h => e0 h, fun h => e1 h, fun h => e2 h, fun h => e3 h, hT.newR⟩
    refine Owed.next (n := 6) (o := ?o6) ?ho6 ?h6 ?hs6
    case ho6 => rfl
    case h6 =>
     intro l a w1 hw hl hI K hK
     obtain ⟨x11, x12, x13, x14, x5, x6, rfl, e0, e1, e2, e3, hT⟩ := hI
     rw [if_pos (by rfl)]
     obtain rfl := e1 (hw 1 (by kernel_rfl))
     rw [hl, hw 4 (by kernel_rfl)] at hT
     obtain ⟨b, rfl⟩ := hT.2.1.ptr
     refine wp_store_row 27 (.tmp 5) (.tmp 12) rfl b (fl f) rfl rfl 27 _ hT.2.1.old (fsize27 f) (by rw [fl_size, fl_size]) (fl_one f) ?_
     exact hK.out _ _ ⟨x11, .agg (fl f), x13, x14, .pointer (some ⟨b, 0, none⟩), x6, rfl, fun h => e0 h, fun _ => rfl, fun h => e2 h, fun h => e3 h, by have h4 := hw 4 (by kernel_rfl); simpa [h4] using hT.putL⟩
    refine Owed.next (n := 7) (o := ?o7) ?ho7 ?h7 ?hs7
    case ho7 => rfl
    case h7 =>
     intro l a w1 hw hl hI K hK
     obtain ⟨x11, x12, x13, x14, x5, x6, rfl, e0, e1, e2, e3, hT⟩ := hI
     rw [if_pos (by rfl)]
     obtain rfl := e3 (hw 3 (by kernel_rfl))
     rw [hl, hw 5 (by kernel_rfl)] at hT
     obtain ⟨b, rfl⟩ := hT.2.2.1.ptr
     refine wp_store_row 27 (.tmp 6) (.tmp 14) rfl b (fl g) rfl rfl 27 _ hT.2.2.1.old (fsize27 g) (by rw [fl_size, fl_size]) (fl_one g) ?_
     exact hK.out _ _ ⟨x11, x12, x13, .agg (fl g), x5, .pointer (some ⟨b, 0, none⟩), rfl, fun h => e0 h, fun h => e1 h, fun h => e2 h, fun _ => rfl, by have h5 := hw 5 (by kernel_rfl); simpa [h5] using hT.putR⟩
    exact Owed.last rfl
  case fin =>
    intro l a w1 hl hI
    obtain ⟨x11, x12, x13, x14, x5, x6, rfl, e0, e1, e2, e3, hT⟩ := hI
    obtain rfl := e0 (hl 0 (by kernel_rfl))
    obtain rfl := e1 (hl 1 (by kernel_rfl))
    obtain rfl := e2 (hl 2 (by kernel_rfl))
    obtain rfl := e3 (hl 3 (by kernel_rfl))
    rw [hl 4 (by kernel_rfl), hl 5 (by kernel_rfl), hl 6 (by kernel_rfl), hl 7 (by kernel_rfl)] at hT
    obtain ⟨b, c, rfl, rfl, hbc, hS, hLb, hLc⟩ := hT.done
    clear hT hl e0 e1 e2 e3
    have hB := hS.lt
    have hB' := hS.tl.lt
    have hb2 := hLb (w.heap.size + 1, .cells (vc v) 24) (by simp)
    have hb1 := hLb (w.heap.size, .cells (vc u) 24) (by simp)
    have hc2 := hLc (w.heap.size + 1, .cells (vc v) 24) (by simp)
    have hc1 := hLc (w.heap.size, .cells (vc u) 24) (by simp)
    simp only at hb1 hb2 hc1 hc2
    have hw2 := hS.tl.tl.lt
    have HS0 := Lib.hid (((hS.alloc (.cells (fl fun _ => false) 27)).alloc (.cells (fl fun _ => false) 27)).alloc (.cells (fl fun _ => false) 27))
    have hsz1 : (w1.alloc (.cells (fl fun _ => false) 27)).heap.size = w1.heap.size + 1 := by simp
    have hsz2 : ((w1.alloc (.cells (fl fun _ => false) 27)).alloc (.cells (fl fun _ => false) 27)).heap.size = w1.heap.size + 1 + 1 := by simp
    rw [hsz1, hsz2] at HS0
    clear hsz1 hsz2 hS S0 hLb hLc
    go_wp2_with fail
    generalize w1.heap.size = B at *
    go_loopw [10] (fun i wr => ∃ k : Nat, k ≤ 256 ∧ i = .int .i64 k ∧ Sb w wr [(B + 1 + 1, .cells (fl (lowF (fun j => !f j) k)) 27), (B + 1, .cells (fl (lowF (fun j => f j && g j) k)) 27), (B, .cells (fl (lowF (fun j => f j || g j) k)) 27), (c, .cells (fl g) 27), (b, .cells (fl f) 27), (w.heap.size + 1, .cells (vc v) 24), (w.heap.size, .cells (vc u) 24)]) (fun i _ => 256 - (intOf i).toNat)
    case atStart => exact ⟨0, by omega, rfl, by simpa [lowF_zero] using HS0.out⟩
    case round =>
      obtain ⟨k, hk, rfl, hS⟩ := hrel
      have HS := Lib.hid hS
      clear hS HS0
      by_cases hlt : k < 256
      · have hlt' : (k : Int) < 256 := by omega
        have o1 := Lib.hid (lowF_set (fun j => f j || g j) k)
        have o2 := Lib.hid (lowF_set (fun j => f j && g j) k)
        have o3 := Lib.hid (lowF_set (fun j => !f j) k)
        have c1 := HS.out.tl.tl.tl.tl.flag k hlt
        have c2 := HS.out.tl.tl.tl.flag k hlt
        have d1 := HS.out.tl.tl.flag k hlt
        have d2 := HS.out.tl.flag k hlt
        have d3 := HS.out.flag k hlt
        have g1 := HS.out.tl.tl.free k
        have g2 := HS.out.tl.free k
        have g3 := HS.out.free k
        have z1 := HS.out.lt
        have e1 : b ≠ B := by omega
        have e2 : b ≠ B + 1 := by omega
        have e3 : b ≠ B + 1 + 1 := by omega
        have e4 : c ≠ B := by omega
        have e5 : c ≠ B + 1 := by omega
        have e6 : c ≠ B + 1 + 1 := by omega
        cases hu : f k <;> cases hv : g k <;> simp only [hu, hv, Bool.or_true, Bool.or_false, Bool.and_true, Bool.and_false, Bool.not_true, Bool.not_false] at c1 c2 o1 o2 o3
        all_goals
          clear hu hv
          go_wp2_with fail
          go_roundw
          case rel => exact ⟨k + 1, by omega, by go_num, by rw [← o1.out, ← o2.out, ← o3.out]; exact HS.out.three k _ _ _ (by omega) (by omega) (by omega) (by simp; omega)⟩
          case measure => simp [intOf]; omega
      · obtain rfl : k = 256 := by omega
        clear hlt hk
        rw [lowF_all, lowF_all, lowF_all] at HS
        go_wp2_with fail
        have hinf := size27
        refine wp_region_owed (fun l a w1 => ∃ X : Nat → Value, a = ⟨(List.toArray (vv u :: vv v :: .pointer (some ⟨w.heap.size, 0, none⟩) :: .pointer (some ⟨w.heap.size + 1, 0, none⟩) :: X 24 :: .pointer (some ⟨b, 0, none⟩) :: .pointer (some ⟨c, 0, none⟩) :: .pointer (some ⟨B, 0, none⟩) :: .pointer (some ⟨B + 1, 0, none⟩) :: .pointer (some ⟨B + 1 + 1, 0, none⟩) :: .int .i64 ((256 : Nat) : Int) :: .agg (vc u) :: .agg (fl f) :: .agg (vc v) :: .agg (fl g) :: .int .i64 ((256 : Nat) : Int) :: .bool false :: u17 :: u18 :: u19 :: u20 :: u21 :: u22 :: u23 :: u24 :: u25 :: u26 :: u27 :: u28 :: u29 :: u30 :: u31 :: u32 :: u33 :: u34 :: u35 :: u36 :: u37 :: u38 :: u39 :: u40 :: u41 :: u42 :: u43 :: u44 :: X 0 :: X 1 :: X 2 :: X 3 :: X 4 :: X 5 :: X 6 :: X 7 :: X 8 :: X 9 :: X 10 :: X 11 :: X 12 :: X 13 :: X 14 :: X 15 :: X 16 :: X 17 :: X 18 :: X 19 :: X 20 :: X 21 :: X 22 :: X 23 :: [])), []⟩ ∧ (∀ i, l i = true → X i = (fun i => ([.agg (vc u), .agg (vc v), vv o, .agg (fl (fun j => f j || g j)), vv o, .bool true, .bool true, .agg (vc u), .agg (vc v), vv n, .agg (fl (fun j => f j && g j)), vv n, .bool true, .bool true, .bool true, .agg (vc u), vv m, .agg (fl (fun j => !f j)), vv m, .bool true, .bool true, .bool true, .bool true, .bool true, .bool true] : List Value).getD i undef) i) ∧ Sb w w1 [(B + 1 + 1, .cells (fl (fun j => !f j)) 27), (B + 1, .cells (fl (fun j => f j && g j)) 27), (B, .cells (fl (fun j => f j || g j)) 27), (c, .cells (fl g) 27), (b, .cells (fl f) 27), (w.heap.size + 1, .cells (vc v) 24), (w.heap.size, .cells (vc u) 24)]) (by kernel_rfl) (by kernel_rfl) ⟨(fun i => ([undef, undef, undef, undef, undef, undef, undef, undef, undef, undef, undef, undef, undef, undef, undef, undef, undef, undef, undef, undef, undef, undef, undef, undef, .bool false] : List Value).getD i undef), rfl, (fun i h => by cases h), HS.out.drew⟩ ?str ?finr
        case str =>
          go_light
          refine Owed.next (n := 0) (o := ?or0) ?hor0 ?hr0 ?hsr0
          case hor0 => rfl
          case hr0 =>
            intro l a w1 hw hl hI K hK
            obtain ⟨X, rfl, hX, hT⟩ := hI
            have HX := Lib.hid (packs 0 hX [] (fun _ h => nomatch h))
            clear hX
            rw [if_pos (by rfl)]
            refine wp_load_row 24 _ rfl (w.heap.size) rfl 24 (vc u) (0, 0) _ hT.tl.tl.tl.tl.tl.tl.heap Try.underlying24 rfl (i24v u) ?_
            exact hK.out _ _ ⟨fun j => bif (0 :: []).contains j then (fun i => ([.agg (vc u), .agg (vc v), vv o, .agg (fl (fun j => f j || g j)), vv o, .bool true, .bool true, .agg (vc u), .agg (vc v), vv n, .agg (fl (fun j => f j && g j)), vv n, .bool true, .bool true, .bool true, .agg (vc u), vv m, .agg (fl (fun j => !f j)), vv m, .bool true, .bool true, .bool true, .bool true, .bool true, .bool true] : List Value).getD i undef) j else X j, rfl, HX.out, hT⟩
          refine Owed.next (n := 1) (o := ?or1) ?hor1 ?hr1 ?hsr1
          case hor1 => rfl
          case hr1 =>
            intro l a w1 hw hl hI K hK
            obtain ⟨X, rfl, hX, hT⟩ := hI
            have HX := Lib.hid (packs 1 hX [] (fun _ h => nomatch h))
            clear hX
            rw [if_pos (by rfl)]
            refine wp_load_row 24 _ rfl (w.heap.size + 1) rfl 24 (vc v) (0, 0) _ hT.tl.tl.tl.tl.tl.heap Try.underlying24 rfl (i24v v) ?_
            exact hK.out _ _ ⟨fun j => bif (1 :: []).contains j then (fun i => ([.agg (vc u), .agg (vc v), vv o, .agg (fl (fun j => f j || g j)), vv o, .bool true, .bool true, .agg (vc u), .agg (vc v), vv n, .agg (fl (fun j => f j && g j)), vv n, .bool true, .bool true, .bool true, .agg (vc u), vv m, .agg (fl (fun j => !f j)), vv m, .bool true, .bool true, .bool true, .bool true, .bool true, .bool true] : List Value).getD i undef) j else X j, rfl, HX.out, hT⟩
          refine Owed.next (n := 2) (o := ?or2) ?hor2 ?hr2 ?hsr2
          case hor2 => rfl
          case hr2 =>
            intro l a w1 hw hl hI K hK
            obtain ⟨X, rfl, hX, hT⟩ := hI
            have h0 : X 0 = .agg (vc u) := hX 0 (hw 0 (by kernel_rfl))
            have h1 : X 1 = .agg (vc v) := hX 1 (hw 1 (by kernel_rfl))
            have HX := Lib.hid (packs 2 hX [0, 1] (List.forall_mem_cons.2 ⟨hw 0 (by kernel_rfl), (List.forall_mem_cons.2 ⟨hw 1 (by kernel_rfl), (fun _ h => nomatch h)⟩)⟩))
            clear hX
            rw [h0, h1]
            clear h0 h1
            rw [if_pos (by rfl)]
            go_wp2_with fail
            refine (hU.out _).mono ?_
            rintro _ w2 ⟨rfl, hb⟩
            exact hK.out _ _ ⟨fun j => bif (2 :: [0, 1]).contains j then (fun i => ([.agg (vc u), .agg (vc v), vv o, .agg (fl (fun j => f j || g j)), vv o, .bool true, .bool true, .agg (vc u), .agg (vc v), vv n, .agg (fl (fun j => f j && g j)), vv n, .bool true, .bool true, .bool true, .agg (vc u), vv m, .agg (fl (fun j => !f j)), vv m, .bool true, .bool true, .bool true, .bool true, .bool true, .bool true] : List Value).getD i undef) j else X j, rfl, HX.out, hT.up hb⟩
          refine Owed.next (n := 3) (o := ?or3) ?hor3 ?hr3 ?hsr3
          case hor3 => rfl
          case hr3 =>
            intro l a w1 hw hl hI K hK
            obtain ⟨X, rfl, hX, hT⟩ := hI
            have HX := Lib.hid (packs 3 hX [] (fun _ h => nomatch h))
            clear hX
            rw [if_pos (by rfl)]
            refine wp_load_row 27 _ rfl (B) rfl 27 (fl (fun j => f j || g j)) (0, 0) _ hT.tl.tl.heap Try.underlying27 rfl (fsize27 (fun j => f j || g j)) ?_
            exact hK.out _ _ ⟨fun j => bif (3 :: []).contains j then (fun i => ([.agg (vc u), .agg (vc v), vv o, .agg (fl (fun j => f j || g j)), vv o, .bool true, .bool true, .agg (vc u), .agg (vc v), vv n, .agg (fl (fun j => f j && g j)), vv n, .bool true, .bool true, .bool true, .agg (vc u), vv m, .agg (fl (fun j => !f j)), vv m, .bool true, .bool true, .bool true, .bool true, .bool true, .bool true] : List Value).getD i undef) j else X j, rfl, HX.out, hT⟩
          refine Owed.next (n := 4) (o := ?or4) ?hor4 ?hr4 ?hsr4
          case hor4 => rfl
          case hr4 =>
            intro l a w1 hw hl hI K hK
            obtain ⟨X, rfl, hX, hT⟩ := hI
            have h3 : X 3 = .agg (fl (fun j => f j || g j)) := hX 3 (hw 3 (by kernel_rfl))
            have HX := Lib.hid (packs 4 hX [3] (List.forall_mem_cons.2 ⟨hw 3 (by kernel_rfl), (fun _ h => nomatch h)⟩))
            clear hX
            rw [h3]
            clear h3
            rw [if_pos (by rfl)]
            go_wp2_with fail
            refine (hRO.out _).mono ?_
            rintro _ w2 ⟨rfl, hb⟩
            exact hK.out _ _ ⟨fun j => bif (4 :: [3]).contains j then (fun i => ([.agg (vc u), .agg (vc v), vv o, .agg (fl (fun j => f j || g j)), vv o, .bool true, .bool true, .agg (vc u), .agg (vc v), vv n, .agg (fl (fun j => f j && g j)), vv n, .bool true, .bool true, .bool true, .agg (vc u), vv m, .agg (fl (fun j => !f j)), vv m, .bool true, .bool true, .bool true, .bool true, .bool true, .bool true] : List Value).getD i undef) j else X j, rfl, HX.out, hT.up hb⟩
          refine Owed.next (n := 5) (o := ?or5) ?hor5 ?hr5 ?hsr5
          case hor5 => rfl
          case hr5 =>
            intro l a w1 hw hl hI K hK
            obtain ⟨X, rfl, hX, hT⟩ := hI
            have h2 : X 2 = vv o := hX 2 (hw 2 (by kernel_rfl))
            have h4 : X 4 = vv o := hX 4 (hw 4 (by kernel_rfl))
            have HX := Lib.hid (packs 5 hX [2, 4] (List.forall_mem_cons.2 ⟨hw 2 (by kernel_rfl), (List.forall_mem_cons.2 ⟨hw 4 (by kernel_rfl), (fun _ h => nomatch h)⟩)⟩))
            clear hX
            rw [h2, h4]
            clear h2 h4
            rw [if_pos (by rfl)]
            refine wp_eql24 _ _ _ rfl _ _ _ _ rfl rfl ?_
            exact hK.out _ _ ⟨fun j => bif (5 :: [2, 4]).contains j then (fun i => ([.agg (vc u), .agg (vc v), vv o, .agg (fl (fun j => f j || g j)), vv o, .bool true, .bool true, .agg (vc u), .agg (vc v), vv n, .agg (fl (fun j => f j && g j)), vv n, .bool true, .bool true, .bool true, .agg (vc u), vv m, .agg (fl (fun j => !f j)), vv m, .bool true, .bool true, .bool true, .bool true, .bool true, .bool true] : List Value).getD i undef) j else X j, rfl, HX.out, hT⟩
          refine Owed.next (n := 6) (o := ?or6) ?hor6 ?hr6 ?hsr6
          case hor6 => rfl
          case hr6 =>
            intro l a w1 hw hl hI K hK
            obtain ⟨X, rfl, hX, hT⟩ := hI
            have h5 : X 5 = .bool true := hX 5 (hw 5 (by kernel_rfl))
            have HX := Lib.hid (packs 6 hX [5] (List.forall_mem_cons.2 ⟨hw 5 (by kernel_rfl), (fun _ h => nomatch h)⟩))
            clear hX
            rw [h5]
            clear h5
            rw [if_pos (by rfl)]
            go_wp2_with fail
            exact hK.out _ _ ⟨fun j => bif (6 :: [5]).contains j then (fun i => ([.agg (vc u), .agg (vc v), vv o, .agg (fl (fun j => f j || g j)), vv o, .bool true, .bool true, .agg (vc u), .agg (vc v), vv n, .agg (fl (fun j => f j && g j)), vv n, .bool true, .bool true, .bool true, .agg (vc u), vv m, .agg (fl (fun j => !f j)), vv m, .bool true, .bool true, .bool true, .bool true, .bool true, .bool true] : List Value).getD i undef) j else X j, rfl, HX.out, hT⟩
          refine Owed.next (n := 7) (o := ?or7) ?hor7 ?hr7 ?hsr7
          case hor7 => rfl
          case hr7 =>
            intro l a w1 hw hl hI K hK
            obtain ⟨X, rfl, hX, hT⟩ := hI
            have h6 : X 6 = .bool true := hX 6 (hw 6 (by kernel_rfl))
            have HX := Lib.hid (packs 7 hX [6] (List.forall_mem_cons.2 ⟨hw 6 (by kernel_rfl), (fun _ h => nomatch h)⟩))
            clear hX
            rw [h6]
            clear h6
            rw [if_pos (by rfl)]
            refine wp_load_row 24 _ rfl (w.heap.size) rfl 24 (vc u) (0, 0) _ hT.tl.tl.tl.tl.tl.tl.heap Try.underlying24 rfl (i24v u) ?_
            exact hK.out _ _ ⟨fun j => bif (7 :: [6]).contains j then (fun i => ([.agg (vc u), .agg (vc v), vv o, .agg (fl (fun j => f j || g j)), vv o, .bool true, .bool true, .agg (vc u), .agg (vc v), vv n, .agg (fl (fun j => f j && g j)), vv n, .bool true, .bool true, .bool true, .agg (vc u), vv m, .agg (fl (fun j => !f j)), vv m, .bool true, .bool true, .bool true, .bool true, .bool true, .bool true] : List Value).getD i undef) j else X j, rfl, HX.out, hT⟩
          refine Owed.next (n := 8) (o := ?or8) ?hor8 ?hr8 ?hsr8
          case hor8 => rfl
          case hr8 =>
            intro l a w1 hw hl hI K hK
            obtain ⟨X, rfl, hX, hT⟩ := hI
            have h6 : X 6 = .bool true := hX 6 (hw 6 (by kernel_rfl))
            have HX := Lib.hid (packs 8 hX [6] (List.forall_mem_cons.2 ⟨hw 6 (by kernel_rfl), (fun _ h => nomatch h)⟩))
            clear hX
            rw [h6]
            clear h6
            rw [if_pos (by rfl)]
            refine wp_load_row 24 _ rfl (w.heap.size + 1) rfl 24 (vc v) (0, 0) _ hT.tl.tl.tl.tl.tl.heap Try.underlying24 rfl (i24v v) ?_
            exact hK.out _ _ ⟨fun j => bif (8 :: [6]).contains j then (fun i => ([.agg (vc u), .agg (vc v), vv o, .agg (fl (fun j => f j || g j)), vv o, .bool true, .bool true, .agg (vc u), .agg (vc v), vv n, .agg (fl (fun j => f j && g j)), vv n, .bool true, .bool true, .bool true, .agg (vc u), vv m, .agg (fl (fun j => !f j)), vv m, .bool true, .bool true, .bool true, .bool true, .bool true, .bool true] : List Value).getD i undef) j else X j, rfl, HX.out, hT⟩
          refine Owed.next (n := 9) (o := ?or9) ?hor9 ?hr9 ?hsr9
          case hor9 => rfl
          case hr9 =>
            intro l a w1 hw hl hI K hK
            obtain ⟨X, rfl, hX, hT⟩ := hI
            have h6 : X 6 = .bool true := hX 6 (hw 6 (by kernel_rfl))
            have h7 : X 7 = .agg (vc u) := hX 7 (hw 7 (by kernel_rfl))
            have h8 : X 8 = .agg (vc v) := hX 8 (hw 8 (by kernel_rfl))
            have HX := Lib.hid (packs 9 hX [6, 7, 8] (List.forall_mem_cons.2 ⟨hw 6 (by kernel_rfl), (List.forall_mem_cons.2 ⟨hw 7 (by kernel_rfl), (List.forall_mem_cons.2 ⟨hw 8 (by kernel_rfl), (fun _ h => nomatch h)⟩)⟩)⟩))
            clear hX
            rw [h6, h7, h8]
            clear h6 h7 h8
            rw [if_pos (by rfl)]
            go_wp2_with fail
            refine (hM.out _).mono ?_
            rintro _ w2 ⟨rfl, hb⟩
            exact hK.out _ _ ⟨fun j => bif (9 :: [6, 7, 8]).contains j then (fun i => ([.agg (vc u), .agg (vc v), vv o, .agg (fl (fun j => f j || g j)), vv o, .bool true, .bool true, .agg (vc u), .agg (vc v), vv n, .agg (fl (fun j => f j && g j)), vv n, .bool true, .bool true, .bool true, .agg (vc u), vv m, .agg (fl (fun j => !f j)), vv m, .bool true, .bool true, .bool true, .bool true, .bool true, .bool true] : List Value).getD i undef) j else X j, rfl, HX.out, hT.up hb⟩
          refine Owed.next (n := 10) (o := ?or10) ?hor10 ?hr10 ?hsr10
          case hor10 => rfl
          case hr10 =>
            intro l a w1 hw hl hI K hK
            obtain ⟨X, rfl, hX, hT⟩ := hI
            have h6 : X 6 = .bool true := hX 6 (hw 6 (by kernel_rfl))
            have HX := Lib.hid (packs 10 hX [6] (List.forall_mem_cons.2 ⟨hw 6 (by kernel_rfl), (fun _ h => nomatch h)⟩))
            clear hX
            rw [h6]
            clear h6
            rw [if_pos (by rfl)]
            refine wp_load_row 27 _ rfl (B + 1) rfl 27 (fl (fun j => f j && g j)) (0, 0) _ hT.tl.heap Try.underlying27 rfl (fsize27 (fun j => f j && g j)) ?_
            exact hK.out _ _ ⟨fun j => bif (10 :: [6]).contains j then (fun i => ([.agg (vc u), .agg (vc v), vv o, .agg (fl (fun j => f j || g j)), vv o, .bool true, .bool true, .agg (vc u), .agg (vc v), vv n, .agg (fl (fun j => f j && g j)), vv n, .bool true, .bool true, .bool true, .agg (vc u), vv m, .agg (fl (fun j => !f j)), vv m, .bool true, .bool true, .bool true, .bool true, .bool true, .bool true] : List Value).getD i undef) j else X j, rfl, HX.out, hT⟩
          refine Owed.next (n := 11) (o := ?or11) ?hor11 ?hr11 ?hsr11
          case hor11 => rfl
          case hr11 =>
            intro l a w1 hw hl hI K hK
            obtain ⟨X, rfl, hX, hT⟩ := hI
            have h6 : X 6 = .bool true := hX 6 (hw 6 (by kernel_rfl))
            have h10 : X 10 = .agg (fl (fun j => f j && g j)) := hX 10 (hw 10 (by kernel_rfl))
            have HX := Lib.hid (packs 11 hX [6, 10] (List.forall_mem_cons.2 ⟨hw 6 (by kernel_rfl), (List.forall_mem_cons.2 ⟨hw 10 (by kernel_rfl), (fun _ h => nomatch h)⟩)⟩))
            clear hX
            rw [h6, h10]
            clear h6 h10
            rw [if_pos (by rfl)]
            go_wp2_with fail
            refine (hRA.out _).mono ?_
            rintro _ w2 ⟨rfl, hb⟩
            exact hK.out _ _ ⟨fun j => bif (11 :: [6, 10]).contains j then (fun i => ([.agg (vc u), .agg (vc v), vv o, .agg (fl (fun j => f j || g j)), vv o, .bool true, .bool true, .agg (vc u), .agg (vc v), vv n, .agg (fl (fun j => f j && g j)), vv n, .bool true, .bool true, .bool true, .agg (vc u), vv m, .agg (fl (fun j => !f j)), vv m, .bool true, .bool true, .bool true, .bool true, .bool true, .bool true] : List Value).getD i undef) j else X j, rfl, HX.out, hT.up hb⟩
          refine Owed.next (n := 12) (o := ?or12) ?hor12 ?hr12 ?hsr12
          case hor12 => rfl
          case hr12 =>
            intro l a w1 hw hl hI K hK
            obtain ⟨X, rfl, hX, hT⟩ := hI
            have h6 : X 6 = .bool true := hX 6 (hw 6 (by kernel_rfl))
            have h9 : X 9 = vv n := hX 9 (hw 9 (by kernel_rfl))
            have h11 : X 11 = vv n := hX 11 (hw 11 (by kernel_rfl))
            have HX := Lib.hid (packs 12 hX [6, 9, 11] (List.forall_mem_cons.2 ⟨hw 6 (by kernel_rfl), (List.forall_mem_cons.2 ⟨hw 9 (by kernel_rfl), (List.forall_mem_cons.2 ⟨hw 11 (by kernel_rfl), (fun _ h => nomatch h)⟩)⟩)⟩))
            clear hX
            rw [h6, h9, h11]
            clear h6 h9 h11
            rw [if_pos (by rfl)]
            refine wp_eql24 _ _ _ rfl _ _ _ _ rfl rfl ?_
            exact hK.out _ _ ⟨fun j => bif (12 :: [6, 9, 11]).contains j then (fun i => ([.agg (vc u), .agg (vc v), vv o, .agg (fl (fun j => f j || g j)), vv o, .bool true, .bool true, .agg (vc u), .agg (vc v), vv n, .agg (fl (fun j => f j && g j)), vv n, .bool true, .bool true, .bool true, .agg (vc u), vv m, .agg (fl (fun j => !f j)), vv m, .bool true, .bool true, .bool true, .bool true, .bool true, .bool true] : List Value).getD i undef) j else X j, rfl, HX.out, hT⟩
          refine Owed.next (n := 13) (o := ?or13) ?hor13 ?hr13 ?hsr13
          case hor13 => rfl
          case hr13 =>
            intro l a w1 hw hl hI K hK
            obtain ⟨X, rfl, hX, hT⟩ := hI
            have h6 : X 6 = .bool true := hX 6 (hw 6 (by kernel_rfl))
            have h12 : X 12 = .bool true := hX 12 (hw 12 (by kernel_rfl))
            have HX := Lib.hid (packs 13 hX [6, 12] (List.forall_mem_cons.2 ⟨hw 6 (by kernel_rfl), (List.forall_mem_cons.2 ⟨hw 12 (by kernel_rfl), (fun _ h => nomatch h)⟩)⟩))
            clear hX
            rw [h6, h12]
            clear h6 h12
            rw [if_pos (by rfl)]
            go_wp2_with fail
            exact hK.out _ _ ⟨fun j => bif (13 :: [6, 12]).contains j then (fun i => ([.agg (vc u), .agg (vc v), vv o, .agg (fl (fun j => f j || g j)), vv o, .bool true, .bool true, .agg (vc u), .agg (vc v), vv n, .agg (fl (fun j => f j && g j)), vv n, .bool true, .bool true, .bool true, .agg (vc u), vv m, .agg (fl (fun j => !f j)), vv m, .bool true, .bool true, .bool true, .bool true, .bool true, .bool true] : List Value).getD i undef) j else X j, rfl, HX.out, hT⟩
          refine Owed.next (n := 14) (o := ?or14) ?hor14 ?hr14 ?hsr14
          case hor14 => rfl
          case hr14 =>
            intro l a w1 hw hl hI K hK
            obtain ⟨X, rfl, hX, hT⟩ := hI
            have h13 : X 13 = .bool true := hX 13 (hw 13 (by kernel_rfl))
            have HX := Lib.hid (packs 14 hX [13] (List.forall_mem_cons.2 ⟨hw 13 (by kernel_rfl), (fun _ h => nomatch h)⟩))
            clear hX
            rw [h13]
            clear h13
            rw [if_pos (by rfl)]
            go_wp2_with fail
            exact hK.out _ _ ⟨fun j => bif (14 :: [13]).contains j then (fun i => ([.agg (vc u), .agg (vc v), vv o, .agg (fl (fun j => f j || g j)), vv o, .bool true, .bool true, .agg (vc u), .agg (vc v), vv n, .agg (fl (fun j => f j && g j)), vv n, .bool true, .bool true, .bool true, .agg (vc u), vv m, .agg (fl (fun j => !f j)), vv m, .bool true, .bool true, .bool true, .bool true, .bool true, .bool true] : List Value).getD i undef) j else X j, rfl, HX.out, hT⟩
          refine Owed.next (n := 15) (o := ?or15) ?hor15 ?hr15 ?hsr15
          case hor15 => rfl
          case hr15 =>
            intro l a w1 hw hl hI K hK
            obtain ⟨X, rfl, hX, hT⟩ := hI
            have h14 : X 14 = .bool true := hX 14 (hw 14 (by kernel_rfl))
            have HX := Lib.hid (packs 15 hX [14] (List.forall_mem_cons.2 ⟨hw 14 (by kernel_rfl), (fun _ h => nomatch h)⟩))
            clear hX
            rw [h14]
            clear h14
            rw [if_pos (by rfl)]
            refine wp_load_row 24 _ rfl (w.heap.size) rfl 24 (vc u) (0, 0) _ hT.tl.tl.tl.tl.tl.tl.heap Try.underlying24 rfl (i24v u) ?_
            exact hK.out _ _ ⟨fun j => bif (15 :: [14]).contains j then (fun i => ([.agg (vc u), .agg (vc v), vv o, .agg (fl (fun j => f j || g j)), vv o, .bool true, .bool true, .agg (vc u), .agg (vc v), vv n, .agg (fl (fun j => f j && g j)), vv n, .bool true, .bool true, .bool true, .agg (vc u), vv m, .agg (fl (fun j => !f j)), vv m, .bool true, .bool true, .bool true, .bool true, .bool true, .bool true] : List Value).getD i undef) j else X j, rfl, HX.out, hT⟩
          refine Owed.next (n := 16) (o := ?or16) ?hor16 ?hr16 ?hsr16
          case hor16 => rfl
          case hr16 =>
            intro l a w1 hw hl hI K hK
            obtain ⟨X, rfl, hX, hT⟩ := hI
            have h14 : X 14 = .bool true := hX 14 (hw 14 (by kernel_rfl))
            have h15 : X 15 = .agg (vc u) := hX 15 (hw 15 (by kernel_rfl))
            have HX := Lib.hid (packs 16 hX [14, 15] (List.forall_mem_cons.2 ⟨hw 14 (by kernel_rfl), (List.forall_mem_cons.2 ⟨hw 15 (by kernel_rfl), (fun _ h => nomatch h)⟩)⟩))
            clear hX
            rw [h14, h15]
            clear h14 h15
            rw [if_pos (by rfl)]
            go_wp2_with fail
            refine (hN.out _).mono ?_
            rintro _ w2 ⟨rfl, hb⟩
            exact hK.out _ _ ⟨fun j => bif (16 :: [14, 15]).contains j then (fun i => ([.agg (vc u), .agg (vc v), vv o, .agg (fl (fun j => f j || g j)), vv o, .bool true, .bool true, .agg (vc u), .agg (vc v), vv n, .agg (fl (fun j => f j && g j)), vv n, .bool true, .bool true, .bool true, .agg (vc u), vv m, .agg (fl (fun j => !f j)), vv m, .bool true, .bool true, .bool true, .bool true, .bool true, .bool true] : List Value).getD i undef) j else X j, rfl, HX.out, hT.up hb⟩
          refine Owed.next (n := 17) (o := ?or17) ?hor17 ?hr17 ?hsr17
          case hor17 => rfl
          case hr17 =>
            intro l a w1 hw hl hI K hK
            obtain ⟨X, rfl, hX, hT⟩ := hI
            have h14 : X 14 = .bool true := hX 14 (hw 14 (by kernel_rfl))
            have HX := Lib.hid (packs 17 hX [14] (List.forall_mem_cons.2 ⟨hw 14 (by kernel_rfl), (fun _ h => nomatch h)⟩))
            clear hX
            rw [h14]
            clear h14
            rw [if_pos (by rfl)]
            refine wp_load_row 27 _ rfl (B + 1 + 1) rfl 27 (fl (fun j => !f j)) (0, 0) _ hT.heap Try.underlying27 rfl (fsize27 (fun j => !f j)) ?_
            exact hK.out _ _ ⟨fun j => bif (17 :: [14]).contains j then (fun i => ([.agg (vc u), .agg (vc v), vv o, .agg (fl (fun j => f j || g j)), vv o, .bool true, .bool true, .agg (vc u), .agg (vc v), vv n, .agg (fl (fun j => f j && g j)), vv n, .bool true, .bool true, .bool true, .agg (vc u), vv m, .agg (fl (fun j => !f j)), vv m, .bool true, .bool true, .bool true, .bool true, .bool true, .bool true] : List Value).getD i undef) j else X j, rfl, HX.out, hT⟩
          refine Owed.next (n := 18) (o := ?or18) ?hor18 ?hr18 ?hsr18
          case hor18 => rfl
          case hr18 =>
            intro l a w1 hw hl hI K hK
            obtain ⟨X, rfl, hX, hT⟩ := hI
            have h14 : X 14 = .bool true := hX 14 (hw 14 (by kernel_rfl))
            have h17 : X 17 = .agg (fl (fun j => !f j)) := hX 17 (hw 17 (by kernel_rfl))
            have HX := Lib.hid (packs 18 hX [14, 17] (List.forall_mem_cons.2 ⟨hw 14 (by kernel_rfl), (List.forall_mem_cons.2 ⟨hw 17 (by kernel_rfl), (fun _ h => nomatch h)⟩)⟩))
            clear hX
            rw [h14, h17]
            clear h14 h17
            rw [if_pos (by rfl)]
            go_wp2_with fail
            refine (hRN.out _).mono ?_
            rintro _ w2 ⟨rfl, hb⟩
            exact hK.out _ _ ⟨fun j => bif (18 :: [14, 17]).contains j then (fun i => ([.agg (vc u), .agg (vc v), vv o, .agg (fl (fun j => f j || g j)), vv o, .bool true, .bool true, .agg (vc u), .agg (vc v), vv n, .agg (fl (fun j => f j && g j)), vv n, .bool true, .bool true, .bool true, .agg (vc u), vv m, .agg (fl (fun j => !f j)), vv m, .bool true, .bool true, .bool true, .bool true, .bool true, .bool true] : List Value).getD i undef) j else X j, rfl, HX.out, hT.up hb⟩
          refine Owed.next (n := 19) (o := ?or19) ?hor19 ?hr19 ?hsr19
          case hor19 => rfl
          case hr19 =>
            intro l a w1 hw hl hI K hK
            obtain ⟨X, rfl, hX, hT⟩ := hI
            have h14 : X 14 = .bool true := hX 14 (hw 14 (by kernel_rfl))
            have h16 : X 16 = vv m := hX 16 (hw 16 (by kernel_rfl))
            have h18 : X 18 = vv m := hX 18 (hw 18 (by kernel_rfl))
            have HX := Lib.hid (packs 19 hX [14, 16, 18] (List.forall_mem_cons.2 ⟨hw 14 (by kernel_rfl), (List.forall_mem_cons.2 ⟨hw 16 (by kernel_rfl), (List.forall_mem_cons.2 ⟨hw 18 (by kernel_rfl), (fun _ h => nomatch h)⟩)⟩)⟩))
            clear hX
            rw [h14, h16, h18]
            clear h14 h16 h18
            rw [if_pos (by rfl)]
            refine wp_eql24 _ _ _ rfl _ _ _ _ rfl rfl ?_
            exact hK.out _ _ ⟨fun j => bif (19 :: [14, 16, 18]).contains j then (fun i => ([.agg (vc u), .agg (vc v), vv o, .agg (fl (fun j => f j || g j)), vv o, .bool true, .bool true, .agg (vc u), .agg (vc v), vv n, .agg (fl (fun j => f j && g j)), vv n, .bool true, .bool true, .bool true, .agg (vc u), vv m, .agg (fl (fun j => !f j)), vv m, .bool true, .bool true, .bool true, .bool true, .bool true, .bool true] : List Value).getD i undef) j else X j, rfl, HX.out, hT⟩
          refine Owed.next (n := 20) (o := ?or20) ?hor20 ?hr20 ?hsr20
          case hor20 => rfl
          case hr20 =>
            intro l a w1 hw hl hI K hK
            obtain ⟨X, rfl, hX, hT⟩ := hI
            have h14 : X 14 = .bool true := hX 14 (hw 14 (by kernel_rfl))
            have h19 : X 19 = .bool true := hX 19 (hw 19 (by kernel_rfl))
            have HX := Lib.hid (packs 20 hX [14, 19] (List.forall_mem_cons.2 ⟨hw 14 (by kernel_rfl), (List.forall_mem_cons.2 ⟨hw 19 (by kernel_rfl), (fun _ h => nomatch h)⟩)⟩))
            clear hX
            rw [h14, h19]
            clear h14 h19
            rw [if_pos (by rfl)]
            go_wp2_with fail
            exact hK.out _ _ ⟨fun j => bif (20 :: [14, 19]).contains j then (fun i => ([.agg (vc u), .agg (vc v), vv o, .agg (fl (fun j => f j || g j)), vv o, .bool true, .bool true, .agg (vc u), .agg (vc v), vv n, .agg (fl (fun j => f j && g j)), vv n, .bool true, .bool true, .bool true, .agg (vc u), vv m, .agg (fl (fun j => !f j)), vv m, .bool true, .bool true, .bool true, .bool true, .bool true, .bool true] : List Value).getD i undef) j else X j, rfl, HX.out, hT⟩
          refine Owed.next (n := 21) (o := ?or21) ?hor21 ?hr21 ?hsr21
          case hor21 => rfl
          case hr21 =>
            intro l a w1 hw hl hI K hK
            obtain ⟨X, rfl, hX, hT⟩ := hI
            have h20 : X 20 = .bool true := hX 20 (hw 20 (by kernel_rfl))
            have HX := Lib.hid (packs 21 hX [20] (List.forall_mem_cons.2 ⟨hw 20 (by kernel_rfl), (fun _ h => nomatch h)⟩))
            clear hX
            rw [h20]
            clear h20
            rw [if_pos (by rfl)]
            go_wp2_with fail
            exact hK.out _ _ ⟨fun j => bif (21 :: [20]).contains j then (fun i => ([.agg (vc u), .agg (vc v), vv o, .agg (fl (fun j => f j || g j)), vv o, .bool true, .bool true, .agg (vc u), .agg (vc v), vv n, .agg (fl (fun j => f j && g j)), vv n, .bool true, .bool true, .bool true, .agg (vc u), vv m, .agg (fl (fun j => !f j)), vv m, .bool true, .bool true, .bool true, .bool true, .bool true, .bool true] : List Value).getD i undef) j else X j, rfl, HX.out, hT⟩
          refine Owed.next (n := 22) (o := ?or22) ?hor22 ?hr22 ?hsr22
          case hor22 => rfl
          case hr22 =>
            intro l a w1 hw hl hI K hK
            obtain ⟨X, rfl, hX, hT⟩ := hI
            have h21 : X 21 = .bool true := hX 21 (hw 21 (by kernel_rfl))
            have HX := Lib.hid (packs 22 hX [21] (List.forall_mem_cons.2 ⟨hw 21 (by kernel_rfl), (fun _ h => nomatch h)⟩))
            clear hX
            rw [h21]
            clear h21
            rw [if_pos (by rfl)]
            go_wp2_with fail
            refine (hal.out _).mono ?_
            rintro _ w2 ⟨rfl, hb⟩
            exact hK.out _ _ ⟨fun j => bif (22 :: [21]).contains j then (fun i => ([.agg (vc u), .agg (vc v), vv o, .agg (fl (fun j => f j || g j)), vv o, .bool true, .bool true, .agg (vc u), .agg (vc v), vv n, .agg (fl (fun j => f j && g j)), vv n, .bool true, .bool true, .bool true, .agg (vc u), vv m, .agg (fl (fun j => !f j)), vv m, .bool true, .bool true, .bool true, .bool true, .bool true, .bool true] : List Value).getD i undef) j else X j, rfl, HX.out, hT.up hb⟩
          refine Owed.next (n := 23) (o := ?or23) ?hor23 ?hr23 ?hsr23
          case hor23 => rfl
          case hr23 =>
            intro l a w1 hw hl hI K hK
            obtain ⟨X, rfl, hX, hT⟩ := hI
            have h21 : X 21 = .bool true := hX 21 (hw 21 (by kernel_rfl))
            have h22 : X 22 = .bool true := hX 22 (hw 22 (by kernel_rfl))
            have HX := Lib.hid (packs 23 hX [21, 22] (List.forall_mem_cons.2 ⟨hw 21 (by kernel_rfl), (List.forall_mem_cons.2 ⟨hw 22 (by kernel_rfl), (fun _ h => nomatch h)⟩)⟩))
            clear hX
            rw [h21, h22]
            clear h21 h22
            rw [if_pos (by rfl)]
            go_wp2_with fail
            exact hK.out _ _ ⟨fun j => bif (23 :: [21, 22]).contains j then (fun i => ([.agg (vc u), .agg (vc v), vv o, .agg (fl (fun j => f j || g j)), vv o, .bool true, .bool true, .agg (vc u), .agg (vc v), vv n, .agg (fl (fun j => f j && g j)), vv n, .bool true, .bool true, .bool true, .agg (vc u), vv m, .agg (fl (fun j => !f j)), vv m, .bool true, .bool true, .bool true, .bool true, .bool true, .bool true] : List Value).getD i undef) j else X j, rfl, HX.out, hT⟩
          refine Owed.next (n := 24) (o := ?or24) ?hor24 ?hr24 ?hsr24
          case hor24 => rfl
          case hr24 =>
            intro l a w1 hw hl hI K hK
            obtain ⟨X, rfl, hX, hT⟩ := hI
            have h23 : X 23 = .bool true := hX 23 (hw 23 (by kernel_rfl))
            have HX := Lib.hid (packs 24 hX [23] (List.forall_mem_cons.2 ⟨hw 23 (by kernel_rfl), (fun _ h => nomatch h)⟩))
            clear hX
            rw [h23]
            clear h23
            rw [if_pos (by rfl)]
            go_wp2_with fail
            exact hK.out _ _ ⟨fun j => bif (24 :: [23]).contains j then (fun i => ([.agg (vc u), .agg (vc v), vv o, .agg (fl (fun j => f j || g j)), vv o, .bool true, .bool true, .agg (vc u), .agg (vc v), vv n, .agg (fl (fun j => f j && g j)), vv n, .bool true, .bool true, .bool true, .agg (vc u), vv m, .agg (fl (fun j => !f j)), vv m, .bool true, .bool true, .bool true, .bool true, .bool true, .bool true] : List Value).getD i undef) j else X j, rfl, HX.out, hT⟩
          exact Owed.last rfl
        case finr =>
          intro l a w1 hl hI
          obtain ⟨X, rfl, hX, hT⟩ := hI
          have h0 : X 0 = .agg (vc u) := hX 0 (hl 0 (by kernel_rfl))
          have h1 : X 1 = .agg (vc v) := hX 1 (hl 1 (by kernel_rfl))
          have h2 : X 2 = vv o := hX 2 (hl 2 (by kernel_rfl))
          have h3 : X 3 = .agg (fl (fun j => f j || g j)) := hX 3 (hl 3 (by kernel_rfl))
          have h4 : X 4 = vv o := hX 4 (hl 4 (by kernel_rfl))
          have h5 : X 5 = .bool true := hX 5 (hl 5 (by kernel_rfl))
          have h6 : X 6 = .bool true := hX 6 (hl 6 (by kernel_rfl))
          have h7 : X 7 = .agg (vc u) := hX 7 (hl 7 (by kernel_rfl))
          have h8 : X 8 = .agg (vc v) := hX 8 (hl 8 (by kernel_rfl))
          have h9 : X 9 = vv n := hX 9 (hl 9 (by kernel_rfl))
          have h10 : X 10 = .agg (fl (fun j => f j && g j)) := hX 10 (hl 10 (by kernel_rfl))
          have h11 : X 11 = vv n := hX 11 (hl 11 (by kernel_rfl))
          have h12 : X 12 = .bool true := hX 12 (hl 12 (by kernel_rfl))
          have h13 : X 13 = .bool true := hX 13 (hl 13 (by kernel_rfl))
          have h14 : X 14 = .bool true := hX 14 (hl 14 (by kernel_rfl))
          have h15 : X 15 = .agg (vc u) := hX 15 (hl 15 (by kernel_rfl))
          have h16 : X 16 = vv m := hX 16 (hl 16 (by kernel_rfl))
          have h17 : X 17 = .agg (fl (fun j => !f j)) := hX 17 (hl 17 (by kernel_rfl))
          have h18 : X 18 = vv m := hX 18 (hl 18 (by kernel_rfl))
          have h19 : X 19 = .bool true := hX 19 (hl 19 (by kernel_rfl))
          have h20 : X 20 = .bool true := hX 20 (hl 20 (by kernel_rfl))
          have h21 : X 21 = .bool true := hX 21 (hl 21 (by kernel_rfl))
          have h22 : X 22 = .bool true := hX 22 (hl 22 (by kernel_rfl))
          have h23 : X 23 = .bool true := hX 23 (hl 23 (by kernel_rfl))
          have h24 : X 24 = .bool true := hX 24 (hl 24 (by kernel_rfl))
          rw [h0, h1, h2, h3, h4, h5, h6, h7, h8, h9, h10, h11, h12, h13, h14, h15, h16, h17, h18, h19, h20, h21, h22, h23, h24]
          clear h0 h1 h2 h3 h4 h5 h6 h7 h8 h9 h10 h11 h12 h13 h14 h15 h16 h17 h18 h19 h20 h21 h22 h23 h24 hX
          go_wp2
          go_ret
          exact ⟨rfl, hT.1⟩
end Go.Proofs.Ytennflnfjjhgpaa
