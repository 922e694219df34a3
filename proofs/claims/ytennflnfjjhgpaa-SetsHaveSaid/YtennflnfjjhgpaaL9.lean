/- SetsHave: the walk. -/
import Derived.Test.YtennflnfjjhgpaaProg
import Derived.Test.YtennflnfjjhgpaaTw
import Derived.Test.YtennflnfjjhgpaaRF
import Derived.Test.YtennflnfjjhgpaaRS
import Derived.Test.YtennflnfjjhgpaaAl
import Derived.Test.YtennflnfjjhgpaaL1
import Derived.Test.YtennflnfjjhgpaaQw
import Derived.Test.YtennflnfjjhgpaaL7
import Derived.Deep.QuietTactic
import Derived.WalkKit
import Derived.WalkLawsBesides
import Derived.WalkSpells
import Derived.Outline
import Derived.Lib.Walk
import Derived.Lib.Hide
import Derived.RegionTactic
import Derived.LoopTactic
import Derived.Below
import Derived.IntWalk
import Derived.Deep.RegionHeld3
import Derived.RegionCalls
import Derived.Deep.RegionWith
import Derived.Lib.Slices
import Derived.Laws.NewBlocks
import Derived.BigQuiet
import Derived.Deep.Light
namespace Go.Proofs.Ytennflnfjjhgpaa
set_option linter.unusedSimpArgs false
set_option linter.unusedVariables false
open Go.RowKit

theorem fl_or (f : Nat → Bool) (n : Nat) : (fl f).setIfInBounds n (.bool true) = fl (fun b => f b || b == n) :=
  fl_set f (fun b => f b || b == n) n true fun j _ => by
    by_cases h : j = n
    · subst h; simp
    · simp [h]
set_option maxHeartbeats 4000000 in
set_option maxRecDepth 100000 in
theorem have_abs (f : Nat → Bool) (u o n : Nat → Int) (p : Nat) (M : ByteArray) (s : ByteArray) (hs : s.size ≤ 9223372036854775807) (b c : Nat) (hbb : b < 256) (hcc : c < 256) (v : Bool) (hv : Hid (f b = v))
    (hF : Hid (∀ w, Calls Try.prog 11 #[vv u] w fun e w' => e = .returned (.agg (fl f)) ∧ Below w.heap.size w w')) (hH : Hid (∀ w, Calls Try.prog 12 #[vv u, .int .u8 b] w fun e w' => e = .returned (.bool v) ∧ Below w.heap.size w w'))
    (hC : Hid (∀ w, Calls Try.prog 13 #[vv u] w fun e w' => e = .returned (.int .i64 p) ∧ Below w.heap.size w w')) (hRC : Hid (∀ w, Calls Try.prog 14 #[.agg (fl f)] w fun e w' => e = .returned (.int .i64 p) ∧ Below w.heap.size w w'))
    (hM : Hid (∀ w, Calls Try.prog 15 #[vv u] w fun e w' => e = .returned (.string M) ∧ Below w.heap.size w w')) (hRM : Hid (∀ w, Calls Try.prog 16 #[.agg (fl f)] w fun e w' => e = .returned (.string M) ∧ Below w.heap.size w w'))
    (hO : Hid (∀ w, Calls Try.prog 17 #[.string s] w fun e w' => e = .returned (vv o) ∧ Below w.heap.size w w')) (hRO : Hid (∀ w, Calls Try.prog 18 #[.agg (fl (ofL s.data.toList))] w fun e w' => e = .returned (vv o) ∧ Below w.heap.size w w'))
    (hR : Hid (∀ w, Calls Try.prog 19 #[.int .u8 b, .int .u8 c] w fun e w' => e = .returned (vv n) ∧ Below w.heap.size w w')) (hRR : Hid (∀ w, Calls Try.prog 18 #[.agg (fl (rangeF b (c + 1 - b)))] w fun e w' => e = .returned (vv n) ∧ Below w.heap.size w w')) (w : World) :
    Calls Try.prog 3 #[vv u, .agg #[.int .u8 b, .int .u8 c, .string s]] w fun e w' => e = .returned (.bool true) ∧ Below w.heap.size w w' := by
  have S0 := Lib.hid (((Sb.start w).alloc (.cells (vc u) 24)).alloc (.cells #[.int .u8 b, .int .u8 c, .string s] 26))
  have hsz1 : (w.alloc (.cells (vc u) 24)).heap.size = w.heap.size + 1 := by simp
  rw [hsz1] at S0
  clear hsz1
  have hz := zero27
  have hal := Lib.hid alive_any
  have hlen : s.data.toList.length = s.size := by simp
  have hlen' := Lib.hid hlen
  clear hlen
  go_enter Try.func3, Try.ntmps3
  go_wp2_with fail
  go_quiet (fail)
  go_wp2_with fail
  generalize hw9 : World.drewN _ nq = w9 at *
  have HS9 : Hid (Sb w w9 [(w.heap.size + 1, .cells #[.int .u8 b, .int .u8 c, .string s] 26), (w.heap.size, .cells (vc u) 24)]) := by rw [← hw9]; exact Lib.hid (S0.out.drewN nq)
  have c0 := HS9.out.tl.vw 0 (by omega)
  have c1 := HS9.out.tl.vw 1 (by omega)
  have c2 := HS9.out.tl.vw 2 (by omega)
  have c3 := HS9.out.tl.vw 3 (by omega)
  clear hw9
  refine (hF.out _).mono ?_
  rintro _ w2 ⟨rfl, hb⟩
  have HS2 := Lib.hid (HS9.out.up hb)
  have HS3 := Lib.hid ((HS2.out.alloc (.cells (fl fun _ => false) 27)).setRow (cs' := fl f) (by have h1 := HS2.out.lt; have h2 := HS2.out.tl.lt; simp; omega))
  clear hb c0 c1 c2 c3 HS9 S0
  have zz := HS2.out.lt
  go_wp2_with (refine wpList_store_row rfl 27 (.tmp 8) (.tmp 20) rfl w2.heap.size (fl f) rfl rfl 27 _ (heap_alloc_last w2 _) (fsize27 f) (by rw [fl_size, fl_size]) (fl_one f) ?_)
  have HS4 := Lib.hid ((HS3.out.alloc (.cells (fl fun _ => false) 27)).alloc (.cells (fl fun _ => false) 27))
  have hsz1 : ((w2.alloc (.cells (fl fun _ => false) 27)).setRow w2.heap.size (fl f)).heap.size = w2.heap.size + 1 := by simp
  have hsz2 : (((w2.alloc (.cells (fl fun _ => false) 27)).setRow w2.heap.size (fl f)).alloc (.cells (fl fun _ => false) 27)).heap.size = w2.heap.size + 1 + 1 := by simp
  rw [hsz1, hsz2] at HS4
  clear hsz1 hsz2 HS3 HS2
  generalize w2.heap.size = B at *
  go_loopw [11] (fun i wr => ∃ k : Nat, k ≤ s.size ∧ i = .int .i64 k ∧ Sb w wr [(B + 1 + 1, .cells (fl fun _ => false) 27), (B + 1, .cells (fl (ofL (s.data.toList.take k))) 27), (B, .cells (fl f) 27), (w.heap.size + 1, .cells #[.int .u8 b, .int .u8 c, .string s] 26), (w.heap.size, .cells (vc u) 24)]) (fun i _ => s.size - (intOf i).toNat)
  case atStart => exact ⟨0, by omega, rfl, HS4.out⟩
  case round =>
    obtain ⟨k, hk, rfl, hS⟩ := hrel
    have HS := Lib.hid hS
    clear hS HS4
    by_cases hlt : k < s.size
    · have hjl : k < s.data.toList.length := by rw [hlen'.out]; exact hlt
      have ht : s.data.toList.take (k + 1) = s.data.toList.take k ++ [s[k]] := by rw [List.take_succ_eq_append_getElem hjl]; rfl
      have hn := s[k].toNat_lt
      have hT := Lib.hid (congrArg ofL ht)
      rw [ofL_snoc] at hT
      clear ht
      have hset := Lib.hid (fl_or (ofL (s.data.toList.take k)) s[k].toNat)
      have d1 := HS.out.tl.flag s[k].toNat hn
      have g1 := HS.out.tl.free s[k].toNat
      generalize ofL (s.data.toList.take k) s[k].toNat = vv1 at d1
      have z1 := HS.out.lt
      go_wp2_with fail
      go_roundw
      case rel => exact ⟨k + 1, by omega, by go_num, by rw [hT.out, ← hset.out]; exact (((HS.out.sub (M := [(B + 1, .cells (fl (ofL (s.data.toList.take k))) 27), (B + 1 + 1, .cells (fl fun _ => false) 27), (B, .cells (fl f) 27), (w.heap.size + 1, .cells #[.int .u8 b, .int .u8 c, .string s] 26), (w.heap.size, .cells (vc u) 24)]) (by simp)).set (i := s[k].toNat) (.bool true) (by simp; omega)).sub (by simp))⟩
      case measure => simp [intOf]; omega
    · obtain rfl : k = s.size := by omega
      rw [← hlen'.out, List.take_length] at HS
      obtain ⟨wo, rfl⟩ : ∃ wo : World, wo = wr := ⟨_, rfl⟩
      go_wp2_with fail
      go_loopw [12] (fun i wr => ∃ j : Nat, j ≤ c + 1 - b ∧ i = .int .i64 ((b + j : Nat) : Int) ∧ Sb w wr [(B + 1 + 1, .cells (fl (rangeF b j)) 27), (B + 1, .cells (fl (ofL s.data.toList)) 27), (B, .cells (fl f) 27), (w.heap.size + 1, .cells #[.int .u8 b, .int .u8 c, .string s] 26), (w.heap.size, .cells (vc u) 24)]) (fun i _ => c + 1 - (intOf i).toNat)
      case atStart => exact ⟨0, by omega, rfl, by rw [rangeF_zero]; exact HS.out⟩
      case round =>
        obtain ⟨j, hj, rfl, hS⟩ := hrel
        have HR := Lib.hid hS
        clear hS HS
        by_cases hlj : j < c + 1 - b
        · have hl1 : ((b + j : Nat) : Int) ≤ (c : Int) := by omega
          have hset : Hid ((fl (rangeF b j)).setIfInBounds (b + j) (.bool true) = fl (rangeF b (j + 1))) := Lib.hid (by rw [fl_or, rangeF_succ])
          have hlt2 : b + j < 256 := by omega
          have d1 := HR.out.flag (b + j) hlt2
          have g1 := HR.out.free (b + j)
          generalize rangeF b j (b + j) = vv1 at d1
          have z1 := HR.out.lt
          generalize hq : b + j = q at *
          go_wp2_with fail
          go_roundw
          case rel => exact ⟨j + 1, by omega, by rw [← hq]; go_num, by rw [← hset.out]; exact HR.out.set _ (by simp; omega)⟩
          case measure => simp [intOf]; omega
        · obtain rfl : j = c + 1 - b := by omega
          have hl1 : (c : Int) < ((b + (c + 1 - b) : Nat) : Int) := by omega
          have hl2 : decide (b + (c + 1 - b) ≤ c) = false := by simp; omega
          generalize hq : b + (c + 1 - b) = q at *
          go_wp2_with fail
          have hinf := size27
          have hbi : (b : Int) < 256 := by omega
          refine wp_region_owed (fun l a w1 => ∃ X : Nat → Value, a = ⟨(List.toArray (vv u :: .agg #[.int .u8 b, .int .u8 c, .string s] :: .pointer (some ⟨w.heap.size, 0, none⟩) :: .pointer (some ⟨w.heap.size + 1, 0, none⟩) :: X 39 :: .int .u8 b :: .int .u8 c :: .string s :: .pointer (some ⟨B, 0, none⟩) :: .pointer (some ⟨B + 1, 0, none⟩) :: .pointer (some ⟨B + 1 + 1, 0, none⟩) :: .int .i64 s.size :: .int .i64 q :: .pointer (some ⟨w.heap.size + 1, 0, none⟩) :: .int .u8 b :: .pointer (some ⟨w.heap.size + 1, 1, none⟩) :: .int .u8 c :: .pointer (some ⟨w.heap.size + 1, 2, none⟩) :: .string s :: .agg #[.int .u64 (u 0), .int .u64 (u 1), .int .u64 (u 2), .int .u64 (u 3)] :: .agg (fl f) :: .int .i64 s.size :: .string s :: .int .i64 s.size :: .bool false :: u25 :: u26 :: u27 :: u28 :: u29 :: u30 :: .int .u8 b :: .int .i64 b :: .int .i64 q :: .int .u8 c :: .int .i64 c :: .bool false :: u37 :: u38 :: u39 :: u40 :: X 0 :: X 1 :: X 2 :: X 3 :: X 4 :: X 5 :: X 6 :: X 7 :: X 8 :: X 9 :: X 10 :: X 11 :: X 12 :: X 13 :: X 14 :: X 15 :: X 16 :: X 17 :: X 18 :: X 19 :: X 20 :: X 21 :: X 22 :: X 23 :: X 24 :: X 25 :: X 26 :: X 27 :: X 28 :: X 29 :: X 30 :: X 31 :: X 32 :: X 33 :: X 34 :: X 35 :: X 36 :: X 37 :: X 38 :: [])), []⟩ ∧ (∀ i, l i = true → X i = (fun i => ([.agg (vc u), .int .u8 b, .bool v, .int .u8 b, .pointer (some ⟨B, b, none⟩), .bool v, .bool true, .bool true, .agg (vc u), .int .i64 p, .agg (fl f), .int .i64 p, .bool true, .bool true, .bool true, .agg (vc u), .string M, .agg (fl f), .string M, .bool true, .bool true, .bool true, .string s, vv o, .agg (fl (ofL s.data.toList)), vv o, .bool true, .bool true, .bool true, .int .u8 b, .int .u8 c, vv n, .agg (fl (rangeF b (c + 1 - b))), vv n, .bool true, .bool true, .bool true, .bool true, .bool true, .bool true] : List Value).getD i undef) i) ∧ Sb w w1 [(B + 1 + 1, .cells (fl (rangeF b (c + 1 - b))) 27), (B + 1, .cells (fl (ofL s.data.toList)) 27), (B, .cells (fl f) 27), (w.heap.size + 1, .cells #[.int .u8 b, .int .u8 c, .string s] 26), (w.heap.size, .cells (vc u) 24)]) (by kernel_rfl) (by kernel_rfl) ⟨(fun i => ([undef, undef, undef, undef, undef, undef, undef, undef, undef, undef, undef, undef, undef, undef, undef, undef, undef, undef, undef, undef, undef, undef, undef, undef, undef, undef, undef, undef, undef, undef, undef, undef, undef, undef, undef, undef, undef, undef, undef, .bool false] : List Value).getD i undef), rfl, (fun i h => by cases h), HR.out.drew⟩ ?str ?finr
          case str =>
            go_light
            refine Owed.next (n := 0) (o := ?or0) ?hor0 ?hr0 ?hsr0
            case hor0 => rfl
            case hr0 =>
              intro l a w1 hw hl hI K hK
              obtain ⟨X, rfl, hX, hT⟩ := hI
              have HX := Lib.hid (packs 0 hX [] (fun _ h => nomatch h))
              clear hX
              rw [if_pos (by rfl)]
              refine wp_load_row 24 _ rfl (w.heap.size) rfl 24 (vc u) (0, 0) _ hT.tl.tl.tl.tl.heap Try.underlying24 rfl (i24v u) ?_
              exact hK.out _ _ ⟨fun j => bif (0 :: []).contains j then (fun i => ([.agg (vc u), .int .u8 b, .bool v, .int .u8 b, .pointer (some ⟨B, b, none⟩), .bool v, .bool true, .bool true, .agg (vc u), .int .i64 p, .agg (fl f), .int .i64 p, .bool true, .bool true, .bool true, .agg (vc u), .string M, .agg (fl f), .string M, .bool true, .bool true, .bool true, .string s, vv o, .agg (fl (ofL s.data.toList)), vv o, .bool true, .bool true, .bool true, .int .u8 b, .int .u8 c, vv n, .agg (fl (rangeF b (c + 1 - b))), vv n, .bool true, .bool true, .bool true, .bool true, .bool true, .bool true] : List Value).getD i undef) j else X j, rfl, HX.out, hT⟩
            refine Owed.next (n := 1) (o := ?or1) ?hor1 ?hr1 ?hsr1
            case hor1 => rfl
            case hr1 =>
              intro l a w1 hw hl hI K hK
              obtain ⟨X, rfl, hX, hT⟩ := hI
              have HX := Lib.hid (packs 1 hX [] (fun _ h => nomatch h))
              clear hX
              rw [if_pos (by rfl)]
              go_wp2_with fail
              exact hK.out _ _ ⟨fun j => bif (1 :: []).contains j then (fun i => ([.agg (vc u), .int .u8 b, .bool v, .int .u8 b, .pointer (some ⟨B, b, none⟩), .bool v, .bool true, .bool true, .agg (vc u), .int .i64 p, .agg (fl f), .int .i64 p, .bool true, .bool true, .bool true, .agg (vc u), .string M, .agg (fl f), .string M, .bool true, .bool true, .bool true, .string s, vv o, .agg (fl (ofL s.data.toList)), vv o, .bool true, .bool true, .bool true, .int .u8 b, .int .u8 c, vv n, .agg (fl (rangeF b (c + 1 - b))), vv n, .bool true, .bool true, .bool true, .bool true, .bool true, .bool true] : List Value).getD i undef) j else X j, rfl, HX.out, hT⟩
            refine Owed.next (n := 2) (o := ?or2) ?hor2 ?hr2 ?hsr2
            case hor2 => rfl
            case hr2 =>
              intro l a w1 hw hl hI K hK
              obtain ⟨X, rfl, hX, hT⟩ := hI
              have h0 : X 0 = .agg (vc u) := hX 0 (hw 0 (by kernel_rfl))
              have h1 : X 1 = .int .u8 b := hX 1 (hw 1 (by kernel_rfl))
              have HX := Lib.hid (packs 2 hX [0, 1] (List.forall_mem_cons.2 ⟨hw 0 (by kernel_rfl), (List.forall_mem_cons.2 ⟨hw 1 (by kernel_rfl), (fun _ h => nomatch h)⟩)⟩))
              clear hX
              rw [h0, h1]
              clear h0 h1
              rw [if_pos (by rfl)]
              go_wp2_with fail
              refine (hH.out _).mono ?_
              rintro _ w2 ⟨rfl, hb⟩
              exact hK.out _ _ ⟨fun j => bif (2 :: [0, 1]).contains j then (fun i => ([.agg (vc u), .int .u8 b, .bool v, .int .u8 b, .pointer (some ⟨B, b, none⟩), .bool v, .bool true, .bool true, .agg (vc u), .int .i64 p, .agg (fl f), .int .i64 p, .bool true, .bool true, .bool true, .agg (vc u), .string M, .agg (fl f), .string M, .bool true, .bool true, .bool true, .string s, vv o, .agg (fl (ofL s.data.toList)), vv o, .bool true, .bool true, .bool true, .int .u8 b, .int .u8 c, vv n, .agg (fl (rangeF b (c + 1 - b))), vv n, .bool true, .bool true, .bool true, .bool true, .bool true, .bool true] : List Value).getD i undef) j else X j, rfl, HX.out, hT.up hb⟩
            refine Owed.next (n := 3) (o := ?or3) ?hor3 ?hr3 ?hsr3
            case hor3 => rfl
            case hr3 =>
              intro l a w1 hw hl hI K hK
              obtain ⟨X, rfl, hX, hT⟩ := hI
              have HX := Lib.hid (packs 3 hX [] (fun _ h => nomatch h))
              clear hX
              rw [if_pos (by rfl)]
              go_wp2_with fail
              exact hK.out _ _ ⟨fun j => bif (3 :: []).contains j then (fun i => ([.agg (vc u), .int .u8 b, .bool v, .int .u8 b, .pointer (some ⟨B, b, none⟩), .bool v, .bool true, .bool true, .agg (vc u), .int .i64 p, .agg (fl f), .int .i64 p, .bool true, .bool true, .bool true, .agg (vc u), .string M, .agg (fl f), .string M, .bool true, .bool true, .bool true, .string s, vv o, .agg (fl (ofL s.data.toList)), vv o, .bool true, .bool true, .bool true, .int .u8 b, .int .u8 c, vv n, .agg (fl (rangeF b (c + 1 - b))), vv n, .bool true, .bool true, .bool true, .bool true, .bool true, .bool true] : List Value).getD i undef) j else X j, rfl, HX.out, hT⟩
            refine Owed.next (n := 4) (o := ?or4) ?hor4 ?hr4 ?hsr4
            case hor4 => rfl
            case hr4 =>
              intro l a w1 hw hl hI K hK
              obtain ⟨X, rfl, hX, hT⟩ := hI
              have h3 : X 3 = .int .u8 b := hX 3 (hw 3 (by kernel_rfl))
              have HX := Lib.hid (packs 4 hX [3] (List.forall_mem_cons.2 ⟨hw 3 (by kernel_rfl), (fun _ h => nomatch h)⟩))
              clear hX
              rw [h3]
              clear h3
              rw [if_pos (by rfl)]
              go_wp2_with fail
              exact hK.out _ _ ⟨fun j => bif (4 :: [3]).contains j then (fun i => ([.agg (vc u), .int .u8 b, .bool v, .int .u8 b, .pointer (some ⟨B, b, none⟩), .bool v, .bool true, .bool true, .agg (vc u), .int .i64 p, .agg (fl f), .int .i64 p, .bool true, .bool true, .bool true, .agg (vc u), .string M, .agg (fl f), .string M, .bool true, .bool true, .bool true, .string s, vv o, .agg (fl (ofL s.data.toList)), vv o, .bool true, .bool true, .bool true, .int .u8 b, .int .u8 c, vv n, .agg (fl (rangeF b (c + 1 - b))), vv n, .bool true, .bool true, .bool true, .bool true, .bool true, .bool true] : List Value).getD i undef) j else X j, rfl, HX.out, hT⟩
            refine Owed.next (n := 5) (o := ?or5) ?hor5 ?hr5 ?hsr5
            case hor5 => rfl
            case hr5 =>
              intro l a w1 hw hl hI K hK
              obtain ⟨X, rfl, hX, hT⟩ := hI
              have h4 : X 4 = .pointer (some ⟨B, b, none⟩) := hX 4 (hw 4 (by kernel_rfl))
              have HX := Lib.hid (packs 5 hX [4] (List.forall_mem_cons.2 ⟨hw 4 (by kernel_rfl), (fun _ h => nomatch h)⟩))
              clear hX
              have c0 : w1.cell? ⟨B, b, none⟩ = some (.bool v) := by rw [← hv.out]; exact hT.tl.tl.flag b hbb
              rw [h4]
              clear h4
              rw [if_pos (by rfl)]
              go_wp2_with fail
              exact hK.out _ _ ⟨fun j => bif (5 :: [4]).contains j then (fun i => ([.agg (vc u), .int .u8 b, .bool v, .int .u8 b, .pointer (some ⟨B, b, none⟩), .bool v, .bool true, .bool true, .agg (vc u), .int .i64 p, .agg (fl f), .int .i64 p, .bool true, .bool true, .bool true, .agg (vc u), .string M, .agg (fl f), .string M, .bool true, .bool true, .bool true, .string s, vv o, .agg (fl (ofL s.data.toList)), vv o, .bool true, .bool true, .bool true, .int .u8 b, .int .u8 c, vv n, .agg (fl (rangeF b (c + 1 - b))), vv n, .bool true, .bool true, .bool true, .bool true, .bool true, .bool true] : List Value).getD i undef) j else X j, rfl, HX.out, hT⟩
            refine Owed.next (n := 6) (o := ?or6) ?hor6 ?hr6 ?hsr6
            case hor6 => rfl
            case hr6 =>
              intro l a w1 hw hl hI K hK
              obtain ⟨X, rfl, hX, hT⟩ := hI
              have h2 : X 2 = .bool v := hX 2 (hw 2 (by kernel_rfl))
              have h5 : X 5 = .bool v := hX 5 (hw 5 (by kernel_rfl))
              have HX := Lib.hid (packs 6 hX [2, 5] (List.forall_mem_cons.2 ⟨hw 2 (by kernel_rfl), (List.forall_mem_cons.2 ⟨hw 5 (by kernel_rfl), (fun _ h => nomatch h)⟩)⟩))
              clear hX
              rw [h2, h5]
              clear h2 h5
              rw [if_pos (by rfl)]
              go_wp2_with fail
              exact hK.out _ _ ⟨fun j => bif (6 :: [2, 5]).contains j then (fun i => ([.agg (vc u), .int .u8 b, .bool v, .int .u8 b, .pointer (some ⟨B, b, none⟩), .bool v, .bool true, .bool true, .agg (vc u), .int .i64 p, .agg (fl f), .int .i64 p, .bool true, .bool true, .bool true, .agg (vc u), .string M, .agg (fl f), .string M, .bool true, .bool true, .bool true, .string s, vv o, .agg (fl (ofL s.data.toList)), vv o, .bool true, .bool true, .bool true, .int .u8 b, .int .u8 c, vv n, .agg (fl (rangeF b (c + 1 - b))), vv n, .bool true, .bool true, .bool true, .bool true, .bool true, .bool true] : List Value).getD i undef) j else X j, rfl, HX.out, hT⟩
            refine Owed.next (n := 7) (o := ?or7) ?hor7 ?hr7 ?hsr7
            case hor7 => rfl
            case hr7 =>
              intro l a w1 hw hl hI K hK
              obtain ⟨X, rfl, hX, hT⟩ := hI
              have h6 : X 6 = .bool true := hX 6 (hw 6 (by kernel_rfl))
              have HX := Lib.hid (packs 7 hX [6] (List.forall_mem_cons.2 ⟨hw 6 (by kernel_rfl), (fun _ h => nomatch h)⟩))
              clear hX
              rw [h6]
              clear h6
              rw [if_pos (by rfl)]
              go_wp2_with fail
              exact hK.out _ _ ⟨fun j => bif (7 :: [6]).contains j then (fun i => ([.agg (vc u), .int .u8 b, .bool v, .int .u8 b, .pointer (some ⟨B, b, none⟩), .bool v, .bool true, .bool true, .agg (vc u), .int .i64 p, .agg (fl f), .int .i64 p, .bool true, .bool true, .bool true, .agg (vc u), .string M, .agg (fl f), .string M, .bool true, .bool true, .bool true, .string s, vv o, .agg (fl (ofL s.data.toList)), vv o, .bool true, .bool true, .bool true, .int .u8 b, .int .u8 c, vv n, .agg (fl (rangeF b (c + 1 - b))), vv n, .bool true, .bool true, .bool true, .bool true, .bool true, .bool true] : List Value).getD i undef) j else X j, rfl, HX.out, hT⟩
            refine Owed.next (n := 8) (o := ?or8) ?hor8 ?hr8 ?hsr8
            case hor8 => rfl
            case hr8 =>
              intro l a w1 hw hl hI K hK
              obtain ⟨X, rfl, hX, hT⟩ := hI
              have h7 : X 7 = .bool true := hX 7 (hw 7 (by kernel_rfl))
              have HX := Lib.hid (packs 8 hX [7] (List.forall_mem_cons.2 ⟨hw 7 (by kernel_rfl), (fun _ h => nomatch h)⟩))
              clear hX
              rw [h7]
              clear h7
              rw [if_pos (by rfl)]
              refine wp_load_row 24 _ rfl (w.heap.size) rfl 24 (vc u) (0, 0) _ hT.tl.tl.tl.tl.heap Try.underlying24 rfl (i24v u) ?_
              exact hK.out _ _ ⟨fun j => bif (8 :: [7]).contains j then (fun i => ([.agg (vc u), .int .u8 b, .bool v, .int .u8 b, .pointer (some ⟨B, b, none⟩), .bool v, .bool true, .bool true, .agg (vc u), .int .i64 p, .agg (fl f), .int .i64 p, .bool true, .bool true, .bool true, .agg (vc u), .string M, .agg (fl f), .string M, .bool true, .bool true, .bool true, .string s, vv o, .agg (fl (ofL s.data.toList)), vv o, .bool true, .bool true, .bool true, .int .u8 b, .int .u8 c, vv n, .agg (fl (rangeF b (c + 1 - b))), vv n, .bool true, .bool true, .bool true, .bool true, .bool true, .bool true] : List Value).getD i undef) j else X j, rfl, HX.out, hT⟩
            refine Owed.next (n := 9) (o := ?or9) ?hor9 ?hr9 ?hsr9
            case hor9 => rfl
            case hr9 =>
              intro l a w1 hw hl hI K hK
              obtain ⟨X, rfl, hX, hT⟩ := hI
              have h7 : X 7 = .bool true := hX 7 (hw 7 (by kernel_rfl))
              have h8 : X 8 = .agg (vc u) := hX 8 (hw 8 (by kernel_rfl))
              have HX := Lib.hid (packs 9 hX [7, 8] (List.forall_mem_cons.2 ⟨hw 7 (by kernel_rfl), (List.forall_mem_cons.2 ⟨hw 8 (by kernel_rfl), (fun _ h => nomatch h)⟩)⟩))
              clear hX
              rw [h7, h8]
              clear h7 h8
              rw [if_pos (by rfl)]
              go_wp2_with fail
              refine (hC.out _).mono ?_
              rintro _ w2 ⟨rfl, hb⟩
              exact hK.out _ _ ⟨fun j => bif (9 :: [7, 8]).contains j then (fun i => ([.agg (vc u), .int .u8 b, .bool v, .int .u8 b, .pointer (some ⟨B, b, none⟩), .bool v, .bool true, .bool true, .agg (vc u), .int .i64 p, .agg (fl f), .int .i64 p, .bool true, .bool true, .bool true, .agg (vc u), .string M, .agg (fl f), .string M, .bool true, .bool true, .bool true, .string s, vv o, .agg (fl (ofL s.data.toList)), vv o, .bool true, .bool true, .bool true, .int .u8 b, .int .u8 c, vv n, .agg (fl (rangeF b (c + 1 - b))), vv n, .bool true, .bool true, .bool true, .bool true, .bool true, .bool true] : List Value).getD i undef) j else X j, rfl, HX.out, hT.up hb⟩
            refine Owed.next (n := 10) (o := ?or10) ?hor10 ?hr10 ?hsr10
            case hor10 => rfl
            case hr10 =>
              intro l a w1 hw hl hI K hK
              obtain ⟨X, rfl, hX, hT⟩ := hI
              have h7 : X 7 = .bool true := hX 7 (hw 7 (by kernel_rfl))
              have HX := Lib.hid (packs 10 hX [7] (List.forall_mem_cons.2 ⟨hw 7 (by kernel_rfl), (fun _ h => nomatch h)⟩))
              clear hX
              rw [h7]
              clear h7
              rw [if_pos (by rfl)]
              refine wp_load_row 27 _ rfl (B) rfl 27 (fl f) (0, 0) _ hT.tl.tl.heap Try.underlying27 rfl (fsize27 f) ?_
              exact hK.out _ _ ⟨fun j => bif (10 :: [7]).contains j then (fun i => ([.agg (vc u), .int .u8 b, .bool v, .int .u8 b, .pointer (some ⟨B, b, none⟩), .bool v, .bool true, .bool true, .agg (vc u), .int .i64 p, .agg (fl f), .int .i64 p, .bool true, .bool true, .bool true, .agg (vc u), .string M, .agg (fl f), .string M, .bool true, .bool true, .bool true, .string s, vv o, .agg (fl (ofL s.data.toList)), vv o, .bool true, .bool true, .bool true, .int .u8 b, .int .u8 c, vv n, .agg (fl (rangeF b (c + 1 - b))), vv n, .bool true, .bool true, .bool true, .bool true, .bool true, .bool true] : List Value).getD i undef) j else X j, rfl, HX.out, hT⟩
            refine Owed.next (n := 11) (o := ?or11) ?hor11 ?hr11 ?hsr11
            case hor11 => rfl
            case hr11 =>
              intro l a w1 hw hl hI K hK
              obtain ⟨X, rfl, hX, hT⟩ := hI
              have h7 : X 7 = .bool true := hX 7 (hw 7 (by kernel_rfl))
              have h10 : X 10 = .agg (fl f) := hX 10 (hw 10 (by kernel_rfl))
              have HX := Lib.hid (packs 11 hX [7, 10] (List.forall_mem_cons.2 ⟨hw 7 (by kernel_rfl), (List.forall_mem_cons.2 ⟨hw 10 (by kernel_rfl), (fun _ h => nomatch h)⟩)⟩))
              clear hX
              rw [h7, h10]
              clear h7 h10
              rw [if_pos (by rfl)]
              go_wp2_with fail
              refine (hRC.out _).mono ?_
              rintro _ w2 ⟨rfl, hb⟩
              exact hK.out _ _ ⟨fun j => bif (11 :: [7, 10]).contains j then (fun i => ([.agg (vc u), .int .u8 b, .bool v, .int .u8 b, .pointer (some ⟨B, b, none⟩), .bool v, .bool true, .bool true, .agg (vc u), .int .i64 p, .agg (fl f), .int .i64 p, .bool true, .bool true, .bool true, .agg (vc u), .string M, .agg (fl f), .string M, .bool true, .bool true, .bool true, .string s, vv o, .agg (fl (ofL s.data.toList)), vv o, .bool true, .bool true, .bool true, .int .u8 b, .int .u8 c, vv n, .agg (fl (rangeF b (c + 1 - b))), vv n, .bool true, .bool true, .bool true, .bool true, .bool true, .bool true] : List Value).getD i undef) j else X j, rfl, HX.out, hT.up hb⟩
            refine Owed.next (n := 12) (o := ?or12) ?hor12 ?hr12 ?hsr12
            case hor12 => rfl
            case hr12 =>
              intro l a w1 hw hl hI K hK
              obtain ⟨X, rfl, hX, hT⟩ := hI
              have h7 : X 7 = .bool true := hX 7 (hw 7 (by kernel_rfl))
              have h9 : X 9 = .int .i64 p := hX 9 (hw 9 (by kernel_rfl))
              have h11 : X 11 = .int .i64 p := hX 11 (hw 11 (by kernel_rfl))
              have HX := Lib.hid (packs 12 hX [7, 9, 11] (List.forall_mem_cons.2 ⟨hw 7 (by kernel_rfl), (List.forall_mem_cons.2 ⟨hw 9 (by kernel_rfl), (List.forall_mem_cons.2 ⟨hw 11 (by kernel_rfl), (fun _ h => nomatch h)⟩)⟩)⟩))
              clear hX
              rw [h7, h9, h11]
              clear h7 h9 h11
              rw [if_pos (by rfl)]
              go_wp2_with fail
              exact hK.out _ _ ⟨fun j => bif (12 :: [7, 9, 11]).contains j then (fun i => ([.agg (vc u), .int .u8 b, .bool v, .int .u8 b, .pointer (some ⟨B, b, none⟩), .bool v, .bool true, .bool true, .agg (vc u), .int .i64 p, .agg (fl f), .int .i64 p, .bool true, .bool true, .bool true, .agg (vc u), .string M, .agg (fl f), .string M, .bool true, .bool true, .bool true, .string s, vv o, .agg (fl (ofL s.data.toList)), vv o, .bool true, .bool true, .bool true, .int .u8 b, .int .u8 c, vv n, .agg (fl (rangeF b (c + 1 - b))), vv n, .bool true, .bool true, .bool true, .bool true, .bool true, .bool true] : List Value).getD i undef) j else X j, rfl, HX.out, hT⟩
            refine Owed.next (n := 13) (o := ?or13) ?hor13 ?hr13 ?hsr13
            case hor13 => rfl
            case hr13 =>
              intro l a w1 hw hl hI K hK
              obtain ⟨X, rfl, hX, hT⟩ := hI
              have h7 : X 7 = .bool true := hX 7 (hw 7 (by kernel_rfl))
              have h12 : X 12 = .bool true := hX 12 (hw 12 (by kernel_rfl))
              have HX := Lib.hid (packs 13 hX [7, 12] (List.forall_mem_cons.2 ⟨hw 7 (by kernel_rfl), (List.forall_mem_cons.2 ⟨hw 12 (by kernel_rfl), (fun _ h => nomatch h)⟩)⟩))
              clear hX
              rw [h7, h12]
              clear h7 h12
              rw [if_pos (by rfl)]
              go_wp2_with fail
              exact hK.out _ _ ⟨fun j => bif (13 :: [7, 12]).contains j then (fun i => ([.agg (vc u), .int .u8 b, .bool v, .int .u8 b, .pointer (some ⟨B, b, none⟩), .bool v, .bool true, .bool true, .agg (vc u), .int .i64 p, .agg (fl f), .int .i64 p, .bool true, .bool true, .bool true, .agg (vc u), .string M, .agg (fl f), .string M, .bool true, .bool true, .bool true, .string s, vv o, .agg (fl (ofL s.data.toList)), vv o, .bool true, .bool true, .bool true, .int .u8 b, .int .u8 c, vv n, .agg (fl (rangeF b (c + 1 - b))), vv n, .bool true, .bool true, .bool true, .bool true, .bool true, .bool true] : List Value).getD i undef) j else X j, rfl, HX.out, hT⟩
            refine Owed.next (n := 14) (o := ?or14) ?hor14 ?hr14 ?hsr14
            case hor14 => rfl
            case hr14 =>
              intro l a w1 hw hl hI K hK
              obtain ⟨X, rfl, hX, hT⟩ := hI
              have h13 : X 13 = .bool true := hX 13 (hw 13 (by kernel_rfl))
              have HX := Lib.hid (packs 14 hX [13] (List.forall_mem_cons.2 ⟨hw 13 (by kernel_rfl), (fun _ h => nomatch h)⟩))
              clear hX
              rw [h13]
              clear h13
              rw [if_pos (by rfl)]
              go_wp2_with fail
              exact hK.out _ _ ⟨fun j => bif (14 :: [13]).contains j then (fun i => ([.agg (vc u), .int .u8 b, .bool v, .int .u8 b, .pointer (some ⟨B, b, none⟩), .bool v, .bool true, .bool true, .agg (vc u), .int .i64 p, .agg (fl f), .int .i64 p, .bool true, .bool true, .bool true, .agg (vc u), .string M, .agg (fl f), .string M, .bool true, .bool true, .bool true, .string s, vv o, .agg (fl (ofL s.data.toList)), vv o, .bool true, .bool true, .bool true, .int .u8 b, .int .u8 c, vv n, .agg (fl (rangeF b (c + 1 - b))), vv n, .bool true, .bool true, .bool true, .bool true, .bool true, .bool true] : List Value).getD i undef) j else X j, rfl, HX.out, hT⟩
            refine Owed.next (n := 15) (o := ?or15) ?hor15 ?hr15 ?hsr15
            case hor15 => rfl
            case hr15 =>
              intro l a w1 hw hl hI K hK
              obtain ⟨X, rfl, hX, hT⟩ := hI
              have h14 : X 14 = .bool true := hX 14 (hw 14 (by kernel_rfl))
              have HX := Lib.hid (packs 15 hX [14] (List.forall_mem_cons.2 ⟨hw 14 (by kernel_rfl), (fun _ h => nomatch h)⟩))
              clear hX
              rw [h14]
              clear h14
              rw [if_pos (by rfl)]
              refine wp_load_row 24 _ rfl (w.heap.size) rfl 24 (vc u) (0, 0) _ hT.tl.tl.tl.tl.heap Try.underlying24 rfl (i24v u) ?_
              exact hK.out _ _ ⟨fun j => bif (15 :: [14]).contains j then (fun i => ([.agg (vc u), .int .u8 b, .bool v, .int .u8 b, .pointer (some ⟨B, b, none⟩), .bool v, .bool true, .bool true, .agg (vc u), .int .i64 p, .agg (fl f), .int .i64 p, .bool true, .bool true, .bool true, .agg (vc u), .string M, .agg (fl f), .string M, .bool true, .bool true, .bool true, .string s, vv o, .agg (fl (ofL s.data.toList)), vv o, .bool true, .bool true, .bool true, .int .u8 b, .int .u8 c, vv n, .agg (fl (rangeF b (c + 1 - b))), vv n, .bool true, .bool true, .bool true, .bool true, .bool true, .bool true] : List Value).getD i undef) j else X j, rfl, HX.out, hT⟩
            refine Owed.next (n := 16) (o := ?or16) ?hor16 ?hr16 ?hsr16
            case hor16 => rfl
            case hr16 =>
              intro l a w1 hw hl hI K hK
              obtain ⟨X, rfl, hX, hT⟩ := hI
              have h14 : X 14 = .bool true := hX 14 (hw 14 (by kernel_rfl))
              have h15 : X 15 = .agg (vc u) := hX 15 (hw 15 (by kernel_rfl))
              have HX := Lib.hid (packs 16 hX [14, 15] (List.forall_mem_cons.2 ⟨hw 14 (by kernel_rfl), (List.forall_mem_cons.2 ⟨hw 15 (by kernel_rfl), (fun _ h => nomatch h)⟩)⟩))
              clear hX
              rw [h14, h15]
              clear h14 h15
              rw [if_pos (by rfl)]
              go_wp2_with fail
              refine (hM.out _).mono ?_
              rintro _ w2 ⟨rfl, hb⟩
              exact hK.out _ _ ⟨fun j => bif (16 :: [14, 15]).contains j then (fun i => ([.agg (vc u), .int .u8 b, .bool v, .int .u8 b, .pointer (some ⟨B, b, none⟩), .bool v, .bool true, .bool true, .agg (vc u), .int .i64 p, .agg (fl f), .int .i64 p, .bool true, .bool true, .bool true, .agg (vc u), .string M, .agg (fl f), .string M, .bool true, .bool true, .bool true, .string s, vv o, .agg (fl (ofL s.data.toList)), vv o, .bool true, .bool true, .bool true, .int .u8 b, .int .u8 c, vv n, .agg (fl (rangeF b (c + 1 - b))), vv n, .bool true, .bool true, .bool true, .bool true, .bool true, .bool true] : List Value).getD i undef) j else X j, rfl, HX.out, hT.up hb⟩
            refine Owed.next (n := 17) (o := ?or17) ?hor17 ?hr17 ?hsr17
            case hor17 => rfl
            case hr17 =>
              intro l a w1 hw hl hI K hK
              obtain ⟨X, rfl, hX, hT⟩ := hI
              have h14 : X 14 = .bool true := hX 14 (hw 14 (by kernel_rfl))
              have HX := Lib.hid (packs 17 hX [14] (List.forall_mem_cons.2 ⟨hw 14 (by kernel_rfl), (fun _ h => nomatch h)⟩))
              clear hX
              rw [h14]
              clear h14
              rw [if_pos (by rfl)]
              refine wp_load_row 27 _ rfl (B) rfl 27 (fl f) (0, 0) _ hT.tl.tl.heap Try.underlying27 rfl (fsize27 f) ?_
              exact hK.out _ _ ⟨fun j => bif (17 :: [14]).contains j then (fun i => ([.agg (vc u), .int .u8 b, .bool v, .int .u8 b, .pointer (some ⟨B, b, none⟩), .bool v, .bool true, .bool true, .agg (vc u), .int .i64 p, .agg (fl f), .int .i64 p, .bool true, .bool true, .bool true, .agg (vc u), .string M, .agg (fl f), .string M, .bool true, .bool true, .bool true, .string s, vv o, .agg (fl (ofL s.data.toList)), vv o, .bool true, .bool true, .bool true, .int .u8 b, .int .u8 c, vv n, .agg (fl (rangeF b (c + 1 - b))), vv n, .bool true, .bool true, .bool true, .bool true, .bool true, .bool true] : List Value).getD i undef) j else X j, rfl, HX.out, hT⟩
            refine Owed.next (n := 18) (o := ?or18) ?hor18 ?hr18 ?hsr18
            case hor18 => rfl
            case hr18 =>
              intro l a w1 hw hl hI K hK
              obtain ⟨X, rfl, hX, hT⟩ := hI
              have h14 : X 14 = .bool true := hX 14 (hw 14 (by kernel_rfl))
              have h17 : X 17 = .agg (fl f) := hX 17 (hw 17 (by kernel_rfl))
              have HX := Lib.hid (packs 18 hX [14, 17] (List.forall_mem_cons.2 ⟨hw 14 (by kernel_rfl), (List.forall_mem_cons.2 ⟨hw 17 (by kernel_rfl), (fun _ h => nomatch h)⟩)⟩))
              clear hX
              rw [h14, h17]
              clear h14 h17
              rw [if_pos (by rfl)]
              go_wp2_with fail
              refine (hRM.out _).mono ?_
              rintro _ w2 ⟨rfl, hb⟩
              exact hK.out _ _ ⟨fun j => bif (18 :: [14, 17]).contains j then (fun i => ([.agg (vc u), .int .u8 b, .bool v, .int .u8 b, .pointer (some ⟨B, b, none⟩), .bool v, .bool true, .bool true, .agg (vc u), .int .i64 p, .agg (fl f), .int .i64 p, .bool true, .bool true, .bool true, .agg (vc u), .string M, .agg (fl f), .string M, .bool true, .bool true, .bool true, .string s, vv o, .agg (fl (ofL s.data.toList)), vv o, .bool true, .bool true, .bool true, .int .u8 b, .int .u8 c, vv n, .agg (fl (rangeF b (c + 1 - b))), vv n, .bool true, .bool true, .bool true, .bool true, .bool true, .bool true] : List Value).getD i undef) j else X j, rfl, HX.out, hT.up hb⟩
            refine Owed.next (n := 19) (o := ?or19) ?hor19 ?hr19 ?hsr19
            case hor19 => rfl
            case hr19 =>
              intro l a w1 hw hl hI K hK
              obtain ⟨X, rfl, hX, hT⟩ := hI
              have h14 : X 14 = .bool true := hX 14 (hw 14 (by kernel_rfl))
              have h16 : X 16 = .string M := hX 16 (hw 16 (by kernel_rfl))
              have h18 : X 18 = .string M := hX 18 (hw 18 (by kernel_rfl))
              have HX := Lib.hid (packs 19 hX [14, 16, 18] (List.forall_mem_cons.2 ⟨hw 14 (by kernel_rfl), (List.forall_mem_cons.2 ⟨hw 16 (by kernel_rfl), (List.forall_mem_cons.2 ⟨hw 18 (by kernel_rfl), (fun _ h => nomatch h)⟩)⟩)⟩))
              clear hX
              rw [h14, h16, h18]
              clear h14 h16 h18
              rw [if_pos (by rfl)]
              go_wp2_with fail
              exact hK.out _ _ ⟨fun j => bif (19 :: [14, 16, 18]).contains j then (fun i => ([.agg (vc u), .int .u8 b, .bool v, .int .u8 b, .pointer (some ⟨B, b, none⟩), .bool v, .bool true, .bool true, .agg (vc u), .int .i64 p, .agg (fl f), .int .i64 p, .bool true, .bool true, .bool true, .agg (vc u), .string M, .agg (fl f), .string M, .bool true, .bool true, .bool true, .string s, vv o, .agg (fl (ofL s.data.toList)), vv o, .bool true, .bool true, .bool true, .int .u8 b, .int .u8 c, vv n, .agg (fl (rangeF b (c + 1 - b))), vv n, .bool true, .bool true, .bool true, .bool true, .bool true, .bool true] : List Value).getD i undef) j else X j, rfl, HX.out, hT⟩
            refine Owed.next (n := 20) (o := ?or20) ?hor20 ?hr20 ?hsr20
            case hor20 => rfl
            case hr20 =>
              intro l a w1 hw hl hI K hK
              obtain ⟨X, rfl, hX, hT⟩ := hI
              have h14 : X 14 = .bool true := hX 14 (hw 14 (by kernel_rfl))
              have h19 : X 19 = .bool true := hX 19 (hw 19 (by kernel_rfl))
              have HX := Lib.hid (packs 20 hX [14, 19] (List.forall_mem_cons.2 ⟨hw 14 (by kernel_rfl), (List.forall_mem_cons.2 ⟨hw 19 (by kernel_rfl), (fun _ h => nomatch h)⟩)⟩))
              clear hX
              rw [h14, h19]
              clear h14 h19
              rw [if_pos (by rfl)]
              go_wp2_with fail
              exact hK.out _ _ ⟨fun j => bif (20 :: [14, 19]).contains j then (fun i => ([.agg (vc u), .int .u8 b, .bool v, .int .u8 b, .pointer (some ⟨B, b, none⟩), .bool v, .bool true, .bool true, .agg (vc u), .int .i64 p, .agg (fl f), .int .i64 p, .bool true, .bool true, .bool true, .agg (vc u), .string M, .agg (fl f), .string M, .bool true, .bool true, .bool true, .string s, vv o, .agg (fl (ofL s.data.toList)), vv o, .bool true, .bool true, .bool true, .int .u8 b, .int .u8 c, vv n, .agg (fl (rangeF b (c + 1 - b))), vv n, .bool true, .bool true, .bool true, .bool true, .bool true, .bool true] : List Value).getD i undef) j else X j, rfl, HX.out, hT⟩
            refine Owed.next (n := 21) (o := ?or21) ?hor21 ?hr21 ?hsr21
            case hor21 => rfl
            case hr21 =>
              intro l a w1 hw hl hI K hK
              obtain ⟨X, rfl, hX, hT⟩ := hI
              have h20 : X 20 = .bool true := hX 20 (hw 20 (by kernel_rfl))
              have HX := Lib.hid (packs 21 hX [20] (List.forall_mem_cons.2 ⟨hw 20 (by kernel_rfl), (fun _ h => nomatch h)⟩))
              clear hX
              rw [h20]
              clear h20
              rw [if_pos (by rfl)]
              go_wp2_with fail
              exact hK.out _ _ ⟨fun j => bif (21 :: [20]).contains j then (fun i => ([.agg (vc u), .int .u8 b, .bool v, .int .u8 b, .pointer (some ⟨B, b, none⟩), .bool v, .bool true, .bool true, .agg (vc u), .int .i64 p, .agg (fl f), .int .i64 p, .bool true, .bool true, .bool true, .agg (vc u), .string M, .agg (fl f), .string M, .bool true, .bool true, .bool true, .string s, vv o, .agg (fl (ofL s.data.toList)), vv o, .bool true, .bool true, .bool true, .int .u8 b, .int .u8 c, vv n, .agg (fl (rangeF b (c + 1 - b))), vv n, .bool true, .bool true, .bool true, .bool true, .bool true, .bool true] : List Value).getD i undef) j else X j, rfl, HX.out, hT⟩
            refine Owed.next (n := 22) (o := ?or22) ?hor22 ?hr22 ?hsr22
            case hor22 => rfl
            case hr22 =>
              intro l a w1 hw hl hI K hK
              obtain ⟨X, rfl, hX, hT⟩ := hI
              have h21 : X 21 = .bool true := hX 21 (hw 21 (by kernel_rfl))
              have HX := Lib.hid (packs 22 hX [21] (List.forall_mem_cons.2 ⟨hw 21 (by kernel_rfl), (fun _ h => nomatch h)⟩))
              clear hX
              rw [h21]
              clear h21
              rw [if_pos (by rfl)]
              go_wp2_with fail
              exact hK.out _ _ ⟨fun j => bif (22 :: [21]).contains j then (fun i => ([.agg (vc u), .int .u8 b, .bool v, .int .u8 b, .pointer (some ⟨B, b, none⟩), .bool v, .bool true, .bool true, .agg (vc u), .int .i64 p, .agg (fl f), .int .i64 p, .bool true, .bool true, .bool true, .agg (vc u), .string M, .agg (fl f), .string M, .bool true, .bool true, .bool true, .string s, vv o, .agg (fl (ofL s.data.toList)), vv o, .bool true, .bool true, .bool true, .int .u8 b, .int .u8 c, vv n, .agg (fl (rangeF b (c + 1 - b))), vv n, .bool true, .bool true, .bool true, .bool true, .bool true, .bool true] : List Value).getD i undef) j else X j, rfl, HX.out, hT⟩
            refine Owed.next (n := 23) (o := ?or23) ?hor23 ?hr23 ?hsr23
            case hor23 => rfl
            case hr23 =>
              intro l a w1 hw hl hI K hK
              obtain ⟨X, rfl, hX, hT⟩ := hI
              have h21 : X 21 = .bool true := hX 21 (hw 21 (by kernel_rfl))
              have h22 : X 22 = .string s := hX 22 (hw 22 (by kernel_rfl))
              have HX := Lib.hid (packs 23 hX [21, 22] (List.forall_mem_cons.2 ⟨hw 21 (by kernel_rfl), (List.forall_mem_cons.2 ⟨hw 22 (by kernel_rfl), (fun _ h => nomatch h)⟩)⟩))
              clear hX
              rw [h21, h22]
              clear h21 h22
              rw [if_pos (by rfl)]
              go_wp2_with fail
              refine (hO.out _).mono ?_
              rintro _ w2 ⟨rfl, hb⟩
              exact hK.out _ _ ⟨fun j => bif (23 :: [21, 22]).contains j then (fun i => ([.agg (vc u), .int .u8 b, .bool v, .int .u8 b, .pointer (some ⟨B, b, none⟩), .bool v, .bool true, .bool true, .agg (vc u), .int .i64 p, .agg (fl f), .int .i64 p, .bool true, .bool true, .bool true, .agg (vc u), .string M, .agg (fl f), .string M, .bool true, .bool true, .bool true, .string s, vv o, .agg (fl (ofL s.data.toList)), vv o, .bool true, .bool true, .bool true, .int .u8 b, .int .u8 c, vv n, .agg (fl (rangeF b (c + 1 - b))), vv n, .bool true, .bool true, .bool true, .bool true, .bool true, .bool true] : List Value).getD i undef) j else X j, rfl, HX.out, hT.up hb⟩
            refine Owed.next (n := 24) (o := ?or24) ?hor24 ?hr24 ?hsr24
            case hor24 => rfl
            case hr24 =>
              intro l a w1 hw hl hI K hK
              obtain ⟨X, rfl, hX, hT⟩ := hI
              have h21 : X 21 = .bool true := hX 21 (hw 21 (by kernel_rfl))
              have HX := Lib.hid (packs 24 hX [21] (List.forall_mem_cons.2 ⟨hw 21 (by kernel_rfl), (fun _ h => nomatch h)⟩))
              clear hX
              rw [h21]
              clear h21
              rw [if_pos (by rfl)]
              refine wp_load_row 27 _ rfl (B + 1) rfl 27 (fl (ofL s.data.toList)) (0, 0) _ hT.tl.heap Try.underlying27 rfl (fsize27 (ofL s.data.toList)) ?_
              exact hK.out _ _ ⟨fun j => bif (24 :: [21]).contains j then (fun i => ([.agg (vc u), .int .u8 b, .bool v, .int .u8 b, .pointer (some ⟨B, b, none⟩), .bool v, .bool true, .bool true, .agg (vc u), .int .i64 p, .agg (fl f), .int .i64 p, .bool true, .bool true, .bool true, .agg (vc u), .string M, .agg (fl f), .string M, .bool true, .bool true, .bool true, .string s, vv o, .agg (fl (ofL s.data.toList)), vv o, .bool true, .bool true, .bool true, .int .u8 b, .int .u8 c, vv n, .agg (fl (rangeF b (c + 1 - b))), vv n, .bool true, .bool true, .bool true, .bool true, .bool true, .bool true] : List Value).getD i undef) j else X j, rfl, HX.out, hT⟩
            refine Owed.next (n := 25) (o := ?or25) ?hor25 ?hr25 ?hsr25
            case hor25 => rfl
            case hr25 =>
              intro l a w1 hw hl hI K hK
              obtain ⟨X, rfl, hX, hT⟩ := hI
              have h21 : X 21 = .bool true := hX 21 (hw 21 (by kernel_rfl))
              have h24 : X 24 = .agg (fl (ofL s.data.toList)) := hX 24 (hw 24 (by kernel_rfl))
              have HX := Lib.hid (packs 25 hX [21, 24] (List.forall_mem_cons.2 ⟨hw 21 (by kernel_rfl), (List.forall_mem_cons.2 ⟨hw 24 (by kernel_rfl), (fun _ h => nomatch h)⟩)⟩))
              clear hX
              rw [h21, h24]
              clear h21 h24
              rw [if_pos (by rfl)]
              go_wp2_with fail
              refine (hRO.out _).mono ?_
              rintro _ w2 ⟨rfl, hb⟩
              exact hK.out _ _ ⟨fun j => bif (25 :: [21, 24]).contains j then (fun i => ([.agg (vc u), .int .u8 b, .bool v, .int .u8 b, .pointer (some ⟨B, b, none⟩), .bool v, .bool true, .bool true, .agg (vc u), .int .i64 p, .agg (fl f), .int .i64 p, .bool true, .bool true, .bool true, .agg (vc u), .string M, .agg (fl f), .string M, .bool true, .bool true, .bool true, .string s, vv o, .agg (fl (ofL s.data.toList)), vv o, .bool true, .bool true, .bool true, .int .u8 b, .int .u8 c, vv n, .agg (fl (rangeF b (c + 1 - b))), vv n, .bool true, .bool true, .bool true, .bool true, .bool true, .bool true] : List Value).getD i undef) j else X j, rfl, HX.out, hT.up hb⟩
            refine Owed.next (n := 26) (o := ?or26) ?hor26 ?hr26 ?hsr26
            case hor26 => rfl
            case hr26 =>
              intro l a w1 hw hl hI K hK
              obtain ⟨X, rfl, hX, hT⟩ := hI
              have h21 : X 21 = .bool true := hX 21 (hw 21 (by kernel_rfl))
              have h23 : X 23 = vv o := hX 23 (hw 23 (by kernel_rfl))
              have h25 : X 25 = vv o := hX 25 (hw 25 (by kernel_rfl))
              have HX := Lib.hid (packs 26 hX [21, 23, 25] (List.forall_mem_cons.2 ⟨hw 21 (by kernel_rfl), (List.forall_mem_cons.2 ⟨hw 23 (by kernel_rfl), (List.forall_mem_cons.2 ⟨hw 25 (by kernel_rfl), (fun _ h => nomatch h)⟩)⟩)⟩))
              clear hX
              rw [h21, h23, h25]
              clear h21 h23 h25
              rw [if_pos (by rfl)]
              refine wp_eql24 _ _ _ rfl _ _ _ _ rfl rfl ?_
              exact hK.out _ _ ⟨fun j => bif (26 :: [21, 23, 25]).contains j then (fun i => ([.agg (vc u), .int .u8 b, .bool v, .int .u8 b, .pointer (some ⟨B, b, none⟩), .bool v, .bool true, .bool true, .agg (vc u), .int .i64 p, .agg (fl f), .int .i64 p, .bool true, .bool true, .bool true, .agg (vc u), .string M, .agg (fl f), .string M, .bool true, .bool true, .bool true, .string s, vv o, .agg (fl (ofL s.data.toList)), vv o, .bool true, .bool true, .bool true, .int .u8 b, .int .u8 c, vv n, .agg (fl (rangeF b (c + 1 - b))), vv n, .bool true, .bool true, .bool true, .bool true, .bool true, .bool true] : List Value).getD i undef) j else X j, rfl, HX.out, hT⟩
            refine Owed.next (n := 27) (o := ?or27) ?hor27 ?hr27 ?hsr27
            case hor27 => rfl
            case hr27 =>
              intro l a w1 hw hl hI K hK
              obtain ⟨X, rfl, hX, hT⟩ := hI
              have h21 : X 21 = .bool true := hX 21 (hw 21 (by kernel_rfl))
              have h26 : X 26 = .bool true := hX 26 (hw 26 (by kernel_rfl))
              have HX := Lib.hid (packs 27 hX [21, 26] (List.forall_mem_cons.2 ⟨hw 21 (by kernel_rfl), (List.forall_mem_cons.2 ⟨hw 26 (by kernel_rfl), (fun _ h => nomatch h)⟩)⟩))
              clear hX
              rw [h21, h26]
              clear h21 h26
              rw [if_pos (by rfl)]
              go_wp2_with fail
              exact hK.out _ _ ⟨fun j => bif (27 :: [21, 26]).contains j then (fun i => ([.agg (vc u), .int .u8 b, .bool v, .int .u8 b, .pointer (some ⟨B, b, none⟩), .bool v, .bool true, .bool true, .agg (vc u), .int .i64 p, .agg (fl f), .int .i64 p, .bool true, .bool true, .bool true, .agg (vc u), .string M, .agg (fl f), .string M, .bool true, .bool true, .bool true, .string s, vv o, .agg (fl (ofL s.data.toList)), vv o, .bool true, .bool true, .bool true, .int .u8 b, .int .u8 c, vv n, .agg (fl (rangeF b (c + 1 - b))), vv n, .bool true, .bool true, .bool true, .bool true, .bool true, .bool true] : List Value).getD i undef) j else X j, rfl, HX.out, hT⟩
            refine Owed.next (n := 28) (o := ?or28) ?hor28 ?hr28 ?hsr28
            case hor28 => rfl
            case hr28 =>
              intro l a w1 hw hl hI K hK
              obtain ⟨X, rfl, hX, hT⟩ := hI
              have h27 : X 27 = .bool true := hX 27 (hw 27 (by kernel_rfl))
              have HX := Lib.hid (packs 28 hX [27] (List.forall_mem_cons.2 ⟨hw 27 (by kernel_rfl), (fun _ h => nomatch h)⟩))
              clear hX
              rw [h27]
              clear h27
              rw [if_pos (by rfl)]
              go_wp2_with fail
              exact hK.out _ _ ⟨fun j => bif (28 :: [27]).contains j then (fun i => ([.agg (vc u), .int .u8 b, .bool v, .int .u8 b, .pointer (some ⟨B, b, none⟩), .bool v, .bool true, .bool true, .agg (vc u), .int .i64 p, .agg (fl f), .int .i64 p, .bool true, .bool true, .bool true, .agg (vc u), .string M, .agg (fl f), .string M, .bool true, .bool true, .bool true, .string s, vv o, .agg (fl (ofL s.data.toList)), vv o, .bool true, .bool true, .bool true, .int .u8 b, .int .u8 c, vv n, .agg (fl (rangeF b (c + 1 - b))), vv n, .bool true, .bool true, .bool true, .bool true, .bool true, .bool true] : List Value).getD i undef) j else X j, rfl, HX.out, hT⟩
            refine Owed.next (n := 29) (o := ?or29) ?hor29 ?hr29 ?hsr29
            case hor29 => rfl
            case hr29 =>
              intro l a w1 hw hl hI K hK
              obtain ⟨X, rfl, hX, hT⟩ := hI
              have h28 : X 28 = .bool true := hX 28 (hw 28 (by kernel_rfl))
              have HX := Lib.hid (packs 29 hX [28] (List.forall_mem_cons.2 ⟨hw 28 (by kernel_rfl), (fun _ h => nomatch h)⟩))
              clear hX
              rw [h28]
              clear h28
              rw [if_pos (by rfl)]
              go_wp2_with fail
              exact hK.out _ _ ⟨fun j => bif (29 :: [28]).contains j then (fun i => ([.agg (vc u), .int .u8 b, .bool v, .int .u8 b, .pointer (some ⟨B, b, none⟩), .bool v, .bool true, .bool true, .agg (vc u), .int .i64 p, .agg (fl f), .int .i64 p, .bool true, .bool true, .bool true, .agg (vc u), .string M, .agg (fl f), .string M, .bool true, .bool true, .bool true, .string s, vv o, .agg (fl (ofL s.data.toList)), vv o, .bool true, .bool true, .bool true, .int .u8 b, .int .u8 c, vv n, .agg (fl (rangeF b (c + 1 - b))), vv n, .bool true, .bool true, .bool true, .bool true, .bool true, .bool true] : List Value).getD i undef) j else X j, rfl, HX.out, hT⟩
            refine Owed.next (n := 30) (o := ?or30) ?hor30 ?hr30 ?hsr30
            case hor30 => rfl
            case hr30 =>
              intro l a w1 hw hl hI K hK
              obtain ⟨X, rfl, hX, hT⟩ := hI
              have h28 : X 28 = .bool true := hX 28 (hw 28 (by kernel_rfl))
              have HX := Lib.hid (packs 30 hX [28] (List.forall_mem_cons.2 ⟨hw 28 (by kernel_rfl), (fun _ h => nomatch h)⟩))
              clear hX
              rw [h28]
              clear h28
              rw [if_pos (by rfl)]
              go_wp2_with fail
              exact hK.out _ _ ⟨fun j => bif (30 :: [28]).contains j then (fun i => ([.agg (vc u), .int .u8 b, .bool v, .int .u8 b, .pointer (some ⟨B, b, none⟩), .bool v, .bool true, .bool true, .agg (vc u), .int .i64 p, .agg (fl f), .int .i64 p, .bool true, .bool true, .bool true, .agg (vc u), .string M, .agg (fl f), .string M, .bool true, .bool true, .bool true, .string s, vv o, .agg (fl (ofL s.data.toList)), vv o, .bool true, .bool true, .bool true, .int .u8 b, .int .u8 c, vv n, .agg (fl (rangeF b (c + 1 - b))), vv n, .bool true, .bool true, .bool true, .bool true, .bool true, .bool true] : List Value).getD i undef) j else X j, rfl, HX.out, hT⟩
            refine Owed.next (n := 31) (o := ?or31) ?hor31 ?hr31 ?hsr31
            case hor31 => rfl
            case hr31 =>
              intro l a w1 hw hl hI K hK
              obtain ⟨X, rfl, hX, hT⟩ := hI
              have h28 : X 28 = .bool true := hX 28 (hw 28 (by kernel_rfl))
              have h29 : X 29 = .int .u8 b := hX 29 (hw 29 (by kernel_rfl))
              have h30 : X 30 = .int .u8 c := hX 30 (hw 30 (by kernel_rfl))
              have HX := Lib.hid (packs 31 hX [28, 29, 30] (List.forall_mem_cons.2 ⟨hw 28 (by kernel_rfl), (List.forall_mem_cons.2 ⟨hw 29 (by kernel_rfl), (List.forall_mem_cons.2 ⟨hw 30 (by kernel_rfl), (fun _ h => nomatch h)⟩)⟩)⟩))
              clear hX
              rw [h28, h29, h30]
              clear h28 h29 h30
              rw [if_pos (by rfl)]
              go_wp2_with fail
              refine (hR.out _).mono ?_
              rintro _ w2 ⟨rfl, hb⟩
              exact hK.out _ _ ⟨fun j => bif (31 :: [28, 29, 30]).contains j then (fun i => ([.agg (vc u), .int .u8 b, .bool v, .int .u8 b, .pointer (some ⟨B, b, none⟩), .bool v, .bool true, .bool true, .agg (vc u), .int .i64 p, .agg (fl f), .int .i64 p, .bool true, .bool true, .bool true, .agg (vc u), .string M, .agg (fl f), .string M, .bool true, .bool true, .bool true, .string s, vv o, .agg (fl (ofL s.data.toList)), vv o, .bool true, .bool true, .bool true, .int .u8 b, .int .u8 c, vv n, .agg (fl (rangeF b (c + 1 - b))), vv n, .bool true, .bool true, .bool true, .bool true, .bool true, .bool true] : List Value).getD i undef) j else X j, rfl, HX.out, hT.up hb⟩
            refine Owed.next (n := 32) (o := ?or32) ?hor32 ?hr32 ?hsr32
            case hor32 => rfl
            case hr32 =>
              intro l a w1 hw hl hI K hK
              obtain ⟨X, rfl, hX, hT⟩ := hI
              have h28 : X 28 = .bool true := hX 28 (hw 28 (by kernel_rfl))
              have HX := Lib.hid (packs 32 hX [28] (List.forall_mem_cons.2 ⟨hw 28 (by kernel_rfl), (fun _ h => nomatch h)⟩))
              clear hX
              rw [h28]
              clear h28
              rw [if_pos (by rfl)]
              refine wp_load_row 27 _ rfl (B + 1 + 1) rfl 27 (fl (rangeF b (c + 1 - b))) (0, 0) _ hT.heap Try.underlying27 rfl (fsize27 (rangeF b (c + 1 - b))) ?_
              exact hK.out _ _ ⟨fun j => bif (32 :: [28]).contains j then (fun i => ([.agg (vc u), .int .u8 b, .bool v, .int .u8 b, .pointer (some ⟨B, b, none⟩), .bool v, .bool true, .bool true, .agg (vc u), .int .i64 p, .agg (fl f), .int .i64 p, .bool true, .bool true, .bool true, .agg (vc u), .string M, .agg (fl f), .string M, .bool true, .bool true, .bool true, .string s, vv o, .agg (fl (ofL s.data.toList)), vv o, .bool true, .bool true, .bool true, .int .u8 b, .int .u8 c, vv n, .agg (fl (rangeF b (c + 1 - b))), vv n, .bool true, .bool true, .bool true, .bool true, .bool true, .bool true] : List Value).getD i undef) j else X j, rfl, HX.out, hT⟩
            refine Owed.next (n := 33) (o := ?or33) ?hor33 ?hr33 ?hsr33
            case hor33 => rfl
            case hr33 =>
              intro l a w1 hw hl hI K hK
              obtain ⟨X, rfl, hX, hT⟩ := hI
              have h28 : X 28 = .bool true := hX 28 (hw 28 (by kernel_rfl))
              have h32 : X 32 = .agg (fl (rangeF b (c + 1 - b))) := hX 32 (hw 32 (by kernel_rfl))
              have HX := Lib.hid (packs 33 hX [28, 32] (List.forall_mem_cons.2 ⟨hw 28 (by kernel_rfl), (List.forall_mem_cons.2 ⟨hw 32 (by kernel_rfl), (fun _ h => nomatch h)⟩)⟩))
              clear hX
              rw [h28, h32]
              clear h28 h32
              rw [if_pos (by rfl)]
              go_wp2_with fail
              refine (hRR.out _).mono ?_
              rintro _ w2 ⟨rfl, hb⟩
              exact hK.out _ _ ⟨fun j => bif (33 :: [28, 32]).contains j then (fun i => ([.agg (vc u), .int .u8 b, .bool v, .int .u8 b, .pointer (some ⟨B, b, none⟩), .bool v, .bool true, .bool true, .agg (vc u), .int .i64 p, .agg (fl f), .int .i64 p, .bool true, .bool true, .bool true, .agg (vc u), .string M, .agg (fl f), .string M, .bool true, .bool true, .bool true, .string s, vv o, .agg (fl (ofL s.data.toList)), vv o, .bool true, .bool true, .bool true, .int .u8 b, .int .u8 c, vv n, .agg (fl (rangeF b (c + 1 - b))), vv n, .bool true, .bool true, .bool true, .bool true, .bool true, .bool true] : List Value).getD i undef) j else X j, rfl, HX.out, hT.up hb⟩
            refine Owed.next (n := 34) (o := ?or34) ?hor34 ?hr34 ?hsr34
            case hor34 => rfl
            case hr34 =>
              intro l a w1 hw hl hI K hK
              obtain ⟨X, rfl, hX, hT⟩ := hI
              have h28 : X 28 = .bool true := hX 28 (hw 28 (by kernel_rfl))
              have h31 : X 31 = vv n := hX 31 (hw 31 (by kernel_rfl))
              have h33 : X 33 = vv n := hX 33 (hw 33 (by kernel_rfl))
              have HX := Lib.hid (packs 34 hX [28, 31, 33] (List.forall_mem_cons.2 ⟨hw 28 (by kernel_rfl), (List.forall_mem_cons.2 ⟨hw 31 (by kernel_rfl), (List.forall_mem_cons.2 ⟨hw 33 (by kernel_rfl), (fun _ h => nomatch h)⟩)⟩)⟩))
              clear hX
              rw [h28, h31, h33]
              clear h28 h31 h33
              rw [if_pos (by rfl)]
              refine wp_eql24 _ _ _ rfl _ _ _ _ rfl rfl ?_
              exact hK.out _ _ ⟨fun j => bif (34 :: [28, 31, 33]).contains j then (fun i => ([.agg (vc u), .int .u8 b, .bool v, .int .u8 b, .pointer (some ⟨B, b, none⟩), .bool v, .bool true, .bool true, .agg (vc u), .int .i64 p, .agg (fl f), .int .i64 p, .bool true, .bool true, .bool true, .agg (vc u), .string M, .agg (fl f), .string M, .bool true, .bool true, .bool true, .string s, vv o, .agg (fl (ofL s.data.toList)), vv o, .bool true, .bool true, .bool true, .int .u8 b, .int .u8 c, vv n, .agg (fl (rangeF b (c + 1 - b))), vv n, .bool true, .bool true, .bool true, .bool true, .bool true, .bool true] : List Value).getD i undef) j else X j, rfl, HX.out, hT⟩
            refine Owed.next (n := 35) (o := ?or35) ?hor35 ?hr35 ?hsr35
            case hor35 => rfl
            case hr35 =>
              intro l a w1 hw hl hI K hK
              obtain ⟨X, rfl, hX, hT⟩ := hI
              have h28 : X 28 = .bool true := hX 28 (hw 28 (by kernel_rfl))
              have h34 : X 34 = .bool true := hX 34 (hw 34 (by kernel_rfl))
              have HX := Lib.hid (packs 35 hX [28, 34] (List.forall_mem_cons.2 ⟨hw 28 (by kernel_rfl), (List.forall_mem_cons.2 ⟨hw 34 (by kernel_rfl), (fun _ h => nomatch h)⟩)⟩))
              clear hX
              rw [h28, h34]
              clear h28 h34
              rw [if_pos (by rfl)]
              go_wp2_with fail
              exact hK.out _ _ ⟨fun j => bif (35 :: [28, 34]).contains j then (fun i => ([.agg (vc u), .int .u8 b, .bool v, .int .u8 b, .pointer (some ⟨B, b, none⟩), .bool v, .bool true, .bool true, .agg (vc u), .int .i64 p, .agg (fl f), .int .i64 p, .bool true, .bool true, .bool true, .agg (vc u), .string M, .agg (fl f), .string M, .bool true, .bool true, .bool true, .string s, vv o, .agg (fl (ofL s.data.toList)), vv o, .bool true, .bool true, .bool true, .int .u8 b, .int .u8 c, vv n, .agg (fl (rangeF b (c + 1 - b))), vv n, .bool true, .bool true, .bool true, .bool true, .bool true, .bool true] : List Value).getD i undef) j else X j, rfl, HX.out, hT⟩
            refine Owed.next (n := 36) (o := ?or36) ?hor36 ?hr36 ?hsr36
            case hor36 => rfl
            case hr36 =>
              intro l a w1 hw hl hI K hK
              obtain ⟨X, rfl, hX, hT⟩ := hI
              have h35 : X 35 = .bool true := hX 35 (hw 35 (by kernel_rfl))
              have HX := Lib.hid (packs 36 hX [35] (List.forall_mem_cons.2 ⟨hw 35 (by kernel_rfl), (fun _ h => nomatch h)⟩))
              clear hX
              rw [h35]
              clear h35
              rw [if_pos (by rfl)]
              go_wp2_with fail
              exact hK.out _ _ ⟨fun j => bif (36 :: [35]).contains j then (fun i => ([.agg (vc u), .int .u8 b, .bool v, .int .u8 b, .pointer (some ⟨B, b, none⟩), .bool v, .bool true, .bool true, .agg (vc u), .int .i64 p, .agg (fl f), .int .i64 p, .bool true, .bool true, .bool true, .agg (vc u), .string M, .agg (fl f), .string M, .bool true, .bool true, .bool true, .string s, vv o, .agg (fl (ofL s.data.toList)), vv o, .bool true, .bool true, .bool true, .int .u8 b, .int .u8 c, vv n, .agg (fl (rangeF b (c + 1 - b))), vv n, .bool true, .bool true, .bool true, .bool true, .bool true, .bool true] : List Value).getD i undef) j else X j, rfl, HX.out, hT⟩
            refine Owed.next (n := 37) (o := ?or37) ?hor37 ?hr37 ?hsr37
            case hor37 => rfl
            case hr37 =>
              intro l a w1 hw hl hI K hK
              obtain ⟨X, rfl, hX, hT⟩ := hI
              have h36 : X 36 = .bool true := hX 36 (hw 36 (by kernel_rfl))
              have HX := Lib.hid (packs 37 hX [36] (List.forall_mem_cons.2 ⟨hw 36 (by kernel_rfl), (fun _ h => nomatch h)⟩))
              clear hX
              rw [h36]
              clear h36
              rw [if_pos (by rfl)]
              go_wp2_with fail
              refine (hal.out _).mono ?_
              rintro _ w2 ⟨rfl, hb⟩
              exact hK.out _ _ ⟨fun j => bif (37 :: [36]).contains j then (fun i => ([.agg (vc u), .int .u8 b, .bool v, .int .u8 b, .pointer (some ⟨B, b, none⟩), .bool v, .bool true, .bool true, .agg (vc u), .int .i64 p, .agg (fl f), .int .i64 p, .bool true, .bool true, .bool true, .agg (vc u), .string M, .agg (fl f), .string M, .bool true, .bool true, .bool true, .string s, vv o, .agg (fl (ofL s.data.toList)), vv o, .bool true, .bool true, .bool true, .int .u8 b, .int .u8 c, vv n, .agg (fl (rangeF b (c + 1 - b))), vv n, .bool true, .bool true, .bool true, .bool true, .bool true, .bool true] : List Value).getD i undef) j else X j, rfl, HX.out, hT.up hb⟩
            refine Owed.next (n := 38) (o := ?or38) ?hor38 ?hr38 ?hsr38
            case hor38 => rfl
            case hr38 =>
              intro l a w1 hw hl hI K hK
              obtain ⟨X, rfl, hX, hT⟩ := hI
              have h36 : X 36 = .bool true := hX 36 (hw 36 (by kernel_rfl))
              have h37 : X 37 = .bool true := hX 37 (hw 37 (by kernel_rfl))
              have HX := Lib.hid (packs 38 hX [36, 37] (List.forall_mem_cons.2 ⟨hw 36 (by kernel_rfl), (List.forall_mem_cons.2 ⟨hw 37 (by kernel_rfl), (fun _ h => nomatch h)⟩)⟩))
              clear hX
              rw [h36, h37]
              clear h36 h37
              rw [if_pos (by rfl)]
              go_wp2_with fail
              exact hK.out _ _ ⟨fun j => bif (38 :: [36, 37]).contains j then (fun i => ([.agg (vc u), .int .u8 b, .bool v, .int .u8 b, .pointer (some ⟨B, b, none⟩), .bool v, .bool true, .bool true, .agg (vc u), .int .i64 p, .agg (fl f), .int .i64 p, .bool true, .bool true, .bool true, .agg (vc u), .string M, .agg (fl f), .string M, .bool true, .bool true, .bool true, .string s, vv o, .agg (fl (ofL s.data.toList)), vv o, .bool true, .bool true, .bool true, .int .u8 b, .int .u8 c, vv n, .agg (fl (rangeF b (c + 1 - b))), vv n, .bool true, .bool true, .bool true, .bool true, .bool true, .bool true] : List Value).getD i undef) j else X j, rfl, HX.out, hT⟩
            refine Owed.next (n := 39) (o := ?or39) ?hor39 ?hr39 ?hsr39
            case hor39 => rfl
            case hr39 =>
              intro l a w1 hw hl hI K hK
              obtain ⟨X, rfl, hX, hT⟩ := hI
              have h38 : X 38 = .bool true := hX 38 (hw 38 (by kernel_rfl))
              have HX := Lib.hid (packs 39 hX [38] (List.forall_mem_cons.2 ⟨hw 38 (by kernel_rfl), (fun _ h => nomatch h)⟩))
              clear hX
              rw [h38]
              clear h38
              rw [if_pos (by rfl)]
              go_wp2_with fail
              exact hK.out _ _ ⟨fun j => bif (39 :: [38]).contains j then (fun i => ([.agg (vc u), .int .u8 b, .bool v, .int .u8 b, .pointer (some ⟨B, b, none⟩), .bool v, .bool true, .bool true, .agg (vc u), .int .i64 p, .agg (fl f), .int .i64 p, .bool true, .bool true, .bool true, .agg (vc u), .string M, .agg (fl f), .string M, .bool true, .bool true, .bool true, .string s, vv o, .agg (fl (ofL s.data.toList)), vv o, .bool true, .bool true, .bool true, .int .u8 b, .int .u8 c, vv n, .agg (fl (rangeF b (c + 1 - b))), vv n, .bool true, .bool true, .bool true, .bool true, .bool true, .bool true] : List Value).getD i undef) j else X j, rfl, HX.out, hT⟩
            exact Owed.last rfl
          case finr =>
            intro l a w1 hl hI
            obtain ⟨X, rfl, hX, hT⟩ := hI
            have h0 : X 0 = .agg (vc u) := hX 0 (hl 0 (by kernel_rfl))
            have h1 : X 1 = .int .u8 b := hX 1 (hl 1 (by kernel_rfl))
            have h2 : X 2 = .bool v := hX 2 (hl 2 (by kernel_rfl))
            have h3 : X 3 = .int .u8 b := hX 3 (hl 3 (by kernel_rfl))
            have h4 : X 4 = .pointer (some ⟨B, b, none⟩) := hX 4 (hl 4 (by kernel_rfl))
            have h5 : X 5 = .bool v := hX 5 (hl 5 (by kernel_rfl))
            have h6 : X 6 = .bool true := hX 6 (hl 6 (by kernel_rfl))
            have h7 : X 7 = .bool true := hX 7 (hl 7 (by kernel_rfl))
            have h8 : X 8 = .agg (vc u) := hX 8 (hl 8 (by kernel_rfl))
            have h9 : X 9 = .int .i64 p := hX 9 (hl 9 (by kernel_rfl))
            have h10 : X 10 = .agg (fl f) := hX 10 (hl 10 (by kernel_rfl))
            have h11 : X 11 = .int .i64 p := hX 11 (hl 11 (by kernel_rfl))
            have h12 : X 12 = .bool true := hX 12 (hl 12 (by kernel_rfl))
            have h13 : X 13 = .bool true := hX 13 (hl 13 (by kernel_rfl))
            have h14 : X 14 = .bool true := hX 14 (hl 14 (by kernel_rfl))
            have h15 : X 15 = .agg (vc u) := hX 15 (hl 15 (by kernel_rfl))
            have h16 : X 16 = .string M := hX 16 (hl 16 (by kernel_rfl))
            have h17 : X 17 = .agg (fl f) := hX 17 (hl 17 (by kernel_rfl))
            have h18 : X 18 = .string M := hX 18 (hl 18 (by kernel_rfl))
            have h19 : X 19 = .bool true := hX 19 (hl 19 (by kernel_rfl))
            have h20 : X 20 = .bool true := hX 20 (hl 20 (by kernel_rfl))
            have h21 : X 21 = .bool true := hX 21 (hl 21 (by kernel_rfl))
            have h22 : X 22 = .string s := hX 22 (hl 22 (by kernel_rfl))
            have h23 : X 23 = vv o := hX 23 (hl 23 (by kernel_rfl))
            have h24 : X 24 = .agg (fl (ofL s.data.toList)) := hX 24 (hl 24 (by kernel_rfl))
            have h25 : X 25 = vv o := hX 25 (hl 25 (by kernel_rfl))
            have h26 : X 26 = .bool true := hX 26 (hl 26 (by kernel_rfl))
            have h27 : X 27 = .bool true := hX 27 (hl 27 (by kernel_rfl))
            have h28 : X 28 = .bool true := hX 28 (hl 28 (by kernel_rfl))
            have h29 : X 29 = .int .u8 b := hX 29 (hl 29 (by kernel_rfl))
            have h30 : X 30 = .int .u8 c := hX 30 (hl 30 (by kernel_rfl))
            have h31 : X 31 = vv n := hX 31 (hl 31 (by kernel_rfl))
            have h32 : X 32 = .agg (fl (rangeF b (c + 1 - b))) := hX 32 (hl 32 (by kernel_rfl))
            have h33 : X 33 = vv n := hX 33 (hl 33 (by kernel_rfl))
            have h34 : X 34 = .bool true := hX 34 (hl 34 (by kernel_rfl))
            have h35 : X 35 = .bool true := hX 35 (hl 35 (by kernel_rfl))
            have h36 : X 36 = .bool true := hX 36 (hl 36 (by kernel_rfl))
            have h37 : X 37 = .bool true := hX 37 (hl 37 (by kernel_rfl))
            have h38 : X 38 = .bool true := hX 38 (hl 38 (by kernel_rfl))
            have h39 : X 39 = .bool true := hX 39 (hl 39 (by kernel_rfl))
            rw [h0, h1, h2, h3, h4, h5, h6, h7, h8, h9, h10, h11, h12, h13, h14, h15, h16, h17, h18, h19, h20, h21, h22, h23, h24, h25, h26, h27, h28, h29, h30, h31, h32, h33, h34, h35, h36, h37, h38, h39]
            clear h0 h1 h2 h3 h4 h5 h6 h7 h8 h9 h10 h11 h12 h13 h14 h15 h16 h17 h18 h19 h20 h21 h22 h23 h24 h25 h26 h27 h28 h29 h30 h31 h32 h33 h34 h35 h36 h37 h38 h39 hX
            go_wp2
            go_ret
            exact ⟨rfl, hT.1⟩
end Go.Proofs.Ytennflnfjjhgpaa
