/- Package relex. -/
import Derived.Test.YtemkppjdfjoipaaProg
import Derived.Test.YtemkppjdfjoipaaIo9
import Derived.Test.YtemkppjdfjoipaaIp
import Derived.Test.YtemkppjdfjoipaaIy
import Derived.Deep.SlicePairs
import Derived.Deep.Slices
import Derived.Laws.IdiomArrays
import Derived.OpenShut
import Derived.WideBlind
import Derived.Great.BuildSlice
import Derived.WalkKit
import Derived.Maps.OwnSet
import Derived.Maps.OwnOps
import Derived.Maps.Own
import Derived.DeepKeys5
import Derived.BigFrame
import Derived.WalkMore
import Derived.ScopeJumps
import Derived.StillTailTactics
import Derived.Stop.BytesEq
import Derived.WalkLawsBesides
import Derived.WalkSpells
import Derived.Outline
import Derived.Lib.Walk
import Derived.Lib.Hide
import Derived.Lib.Slices
import Derived.Lib.Strings
import Derived.RegionTactic
import Derived.LoopTactic
import Derived.Below
import Derived.IntWalk
import Derived.Deep.QuietTactic
import Derived.BigQuiet
import Derived.Deep.MidRow
import Derived.Maps.AppendAt
import Derived.Laws.Rows
import Derived.Laws.Tables
import Derived.Deep.WholeRow
import Derived.Deep.Cut
import Derived.Deep.CutRange
import Derived.Lib.SliceRun
import Derived.Laws.MakeOwn
import Derived.Deep.RegionLaw
import Derived.Deep.RegionLawGrows
import Derived.Deep.RegionHeld3
import Derived.RegionCalls
import Derived.Deep.RegionWith
import Derived.Deep.Light
import Derived.Laws.CopyOwn
import Derived.Laws.ResultCell
namespace Go.Proofs.Ytemkppjdfjoipaa.I1.X
set_option linter.unusedSimpArgs false
set_option linter.unusedVariables false
set_option maxRecDepth 100000
open Go.RowKit
/- TwinRaws, LeftRaws, HasInts; a row that is written over. -/
theorem Sep_wr {B g n cap sz : Nat} {e : TypeId} {w0 w : World} {xs : List Value} {L : List It} (h : Sep B w0 w (.row (.slice (some ⟨g, 0, none⟩) n cap) e sz n xs :: L)) {j : Nat} (hj : j < n * sz) (v : Value) : (∃ u, w.cell? ⟨g, j, none⟩ = some u) ∧ w.frozen? ⟨g, j, none⟩ = false ∧ ∃ xs', Sep B w0 (w.setCell ⟨g, j, none⟩ v) (.row (.slice (some ⟨g, 0, none⟩) n cap) e sz n xs' :: L) := by
  obtain ⟨hlen, hor⟩ := (h.at : World.ownsRow _ _ _ _ _ _ _)
  rcases hor with ⟨e, _⟩ | ⟨g', cap', cur, hv, h1, h2, h3, h4, h5, h6⟩
  · cases e
  · injection hv with e1 e2 e3
    injection e1 with e1
    injection e1 with e1 e4 e5
    subst e1 e3
    have hjc : j < cur.size := by rw [h5]; have := Nat.mul_le_mul_right sz h3; omega
    refine ⟨⟨cur[j], by rw [cell_of_row w g j _ e (0, 0) h2]; exact Array.getElem?_eq_getElem hjc⟩, frozen_of_row w g j _ e h2, (cur.setIfInBounds j v).toList.take (n * sz), ?_⟩
    refine h.rep (x' := .row (.slice (some ⟨g, 0, none⟩) n cap) e sz n ((cur.setIfInBounds j v).toList.take (n * sz))) ⟨rfl, rfl, rfl, by simp, fun k hk hne => heap_setCell_other w _ k _ (fun e => hne (by rw [e]; rfl))⟩ ?_ (fun b hb => .inl hb)
    refine ⟨?_, .inr ⟨g, cap, cur.setIfInBounds j v, rfl, h1, heap_setCell_same w g j cur e v h2, h3, h4, by simpa using h5, rfl⟩⟩
    rw [List.length_take]; simp only [Array.toList_setIfInBounds, List.length_set, Array.length_toList]; rw [h5]; have := Nat.mul_le_mul_right sz h3; omega
set_option maxHeartbeats 8000000 in
theorem has_any {B n : Nat} {w : World} {m : Nat} {v : Value} (hn : n ≤ 1000000000) (hl : m ≤ 1000000) (h : w.ownsRow B 3 1 v m (zi (mkn n m))) :
    Calls Try.prog 14 #[v, .int .i64 (n : Nat)] w fun e w' => e = .returned (.bool true) ∧ w' = w := by
  obtain ⟨p, c, rfl⟩ := row_form h
  have HC : Hid (∀ j, j < m → ∃ g, p = some ⟨g, 0, none⟩ ∧ w.cell? ⟨g, j, none⟩ = some (.int .i64 (-(n : Int) - (j : Int) - 1))) := Lib.hid fun j hj => by
    obtain ⟨g, cap, hv, -⟩ := row_own h (by omega)
    injection hv with e1 e2 e3
    subst e1
    have h1 := h.cells (g := g) rfl j (.int .i64 (-(n : Int) - (j : Int) - 1)) (by simp [zi, mkn, hj])
    rw [Addr.add_mid, Nat.zero_add] at h1
    exact ⟨g, rfl, h1⟩
  clear h
  go_enter Try.func14, Try.ntmps14
  go_wp2_with fail
  go_loopw [5] (fun i wr => ∃ j : Nat, i = .int .i64 (j : Nat) ∧ j ≤ m ∧ wr = w) (fun i _ => m - (intOf i).toNat)
  case atStart => exact ⟨0, rfl, by omega, rfl⟩
  case round =>
  obtain ⟨j, rfl, hj, rfl⟩ := hrel
  by_cases hlt : j < m
  · have hltI : (j : Int) < (m : Int) := by omega
    have hjI : ¬ (j : Int) < 0 := by omega
    obtain ⟨g, rfl, hc⟩ := HC.out j hlt
    have hne : ((-(n : Int) - (j : Int) - 1) != (-(n : Int) - (j : Int) - 1)) = false := by simp
    go_wp2_with fail
    go_roundw
    case rel => exact ⟨j + 1, by go_num, by omega, by first | rfl | trivial⟩
    case measure => simp [intOf]; omega
  · obtain rfl : j = m := by omega
    have hltI : ¬ (j : Int) < (j : Int) := by omega
    go_wp2_with fail
    go_ret
    exact ⟨rfl, rfl⟩
def mR (k : Nat) : List Rw := (List.range k).map fun i : Nat => (-7000 - (i : Int), 0, 0)
theorem mR_succ (k : Nat) : mR (k + 1) = mR k ++ [(-7000 - (k : Int), 0, 0)] := by simp [mR, List.range_succ]
theorem mR_len (k : Nat) : (mR k).length = k := by simp [mR]
theorem rwL_app (l m : List Rw) : rwL (l ++ m) = rwL l ++ rwL m := by simp [rwL]
abbrev rTR (g cap : Nat) (l : List Rw) : It := .row (.slice (some ⟨g, 0, none⟩) (l.length + 3) cap) 38 3 (l.length + 3) (rwL (l ++ mR 3))
/-- The loop behind the first append. -/
abbrev rTk (v : Value) (l : List Rw) (k : Nat) : It := .row v 38 3 (l.length + k) (rwL (l ++ mR k))
set_option maxHeartbeats 8000000 in
theorem twinraws_any {B : Nat} {D : Nat → Prop} {w0 w : World} {X : List It} {l : List Rw} {p : Option Addr} {c : Nat} (hl : l.length ≤ 1000000) (hD : ∀ b, D b → b < w.heap.size) (h : RW D w l (.slice p l.length c)) (hs : Sep B w0 w X) :
    Calls Try.prog 8 #[.slice p l.length c] w fun e w' => ∃ g cap, e = .returned (.slice (some ⟨g, 0, none⟩) l.length cap) ∧ Sep B w0 w' (rTR g cap l :: X) := by
  obtain ⟨i0, hi, hz0, hz1, hz2⟩ := info_parts info26z
  have HI := Lib.hid h
  have S0 := Lib.hid (Sep.empty (size := 3) (hs.alloc (.cells #[] 38)))
  have hw0 := (Below.refl w.heap.size w).alloc (Nat.le_refl _) (.cells #[] 38)
  clear h hs
  by_cases hne : l = []
  · subst hne
    clear HI hw0 hD
    go_enter Try.func8, Try.ntmps8
    go_wp2_with (at_builtin; refine wpList_append_zero _ rfl (.tmp 5) (.tmp 6) 22 rfl 38 i0 Try.underlying22 hi ⟨w.heap.size, 0, none⟩ 0 0 rfl p c rfl (Nat.le_refl _) ?_)
    have H1 : Hid (Sep B w0 (w.alloc (.cells #[] 38)) (rTk (.slice (some ⟨w.heap.size, 0, none⟩) 0 0) [] 0 :: X)) := Lib.hid S0.out
    clear S0
    go_wp2_with fail
    go_loopw [3, 4] (fun v i wr => ∃ k : Nat, k ≤ 3 ∧ i = .int .i64 (k : Nat) ∧ Hid (Sep B w0 wr (rTk v [] k :: X))) (fun _ i _ => 3 - (intOf i).toNat)
    case atStart => exact ⟨0, by omega, rfl, H1⟩
    case round =>
    clear H1
    obtain ⟨k, hk, rfl, HO⟩ := hrel
    by_cases hk3 : k < 3
    · have hk3I : (k : Int) < 3 := by omega
      have HO2 := Lib.hid (HO.out.alloc (.cells #[.int .i64 (-7000 - (k : Int)), .int .i64 0, .int .i64 0] 38))
      clear HO
      go_wp2_with (at_builtin; refine wpList_append_own_at _ rfl (.tmp 12) (.tmp 16) 22 rfl B 38 i0 _ 3 24 Try.underlying22 hi hz0 hz1 hz2 rfl (by decide) _ (0 + k) (rwL ([] ++ mR k)) rfl ?c0 ⟨wr.heap.size, 0, none⟩ 1 1 [.int .i64 (-7000 - (k : Int)), .int .i64 0, .int .i64 0] rfl rfl ?c1 ?c2 ?c3 ?c4 ?c5 ?_)
      case c0 => exact HO2.out.tl.at
      case c1 => intro j v hj; rw [Addr.add_mid, Nat.zero_add, HO2.out.boxAt j, ← hj]; simp
      case c2 => intro u hu; simp only [List.mem_cons, List.mem_nil_iff, or_false] at hu; rcases hu with rfl | rfl | rfl <;> rfl
      case c3 => unfold maxLen; omega
      case c4 => omega
      case c5 => have := HO2.out.sz; exact this
      intro v2 w2 hown2 hg2 _ hat2
      have HOE : Hid (Sep B w0 w2 (rTk v2 [] (k + 1) :: X)) := Lib.hid (by
        have h9 := HO2.out.tl.app hown2 hg2 (by rw [World.size_alloc]; exact hat2)
        rw [rTk, mR_succ, ← List.append_assoc, rwL_app ([] ++ mR k), ← Nat.add_assoc]
        first | exact h9 | (rw [show ([] : List Rw).length + k + 1 = k + 1 by simp, List.nil_append]; exact h9))
      clear hown2 hg2 HO2 hat2
      go_wp2_with fail
      go_roundw
      case rel => exact ⟨k + 1, by omega, by go_num, HOE⟩
      case measure => simp [intOf]; omega
    · obtain rfl : k = 3 := by omega
      obtain ⟨g, cap, rfl, hcap⟩ := row_own HO.out.at (by omega)
      have i1 : ((0 : Nat) : Int) ≤ (cap : Int) := by omega
      have i2 : 0 ≤ cap := by omega
      clear hcap
      go_wp2_with fail
      go_ret
      exact ⟨g, cap, rfl, HO.out⟩
  · obtain ⟨p', c', he, -, hh⟩ := HI.out
    injection he with e1 e2 e3
    subst e1 e3
    obtain ⟨b, o, rfl, hDb, hc⟩ := hh hne
    have hbw := hD b hDb
    have HC : Hid (∀ j v, (rwL l)[j]? = some v → (w.alloc (.cells #[] 38)).cell? ((⟨b, o, none⟩ : Addr).add j) = some v) := Lib.hid fun j v hj => by
      rw [Addr.add_mid, cell_same (hw0.block b hbw)]; exact hc j v hj
    have HZL : Hid ((rwL l).length = l.length * 3) := Lib.hid (rwL_len l)
    have HL := Lib.hid hl
    clear hh hc e2 HI hw0 hD
    go_enter Try.func8, Try.ntmps8
    go_wp2_with (at_builtin; refine wpList_append_own_at _ rfl (.tmp 5) (.tmp 6) 22 rfl B 38 i0 _ 3 24 Try.underlying22 hi hz0 hz1 hz2 rfl (by decide) (.slice (some ⟨w.heap.size, 0, none⟩) 0 0) 0 [] rfl ?c0 ⟨b, o, none⟩ l.length c (rwL l) rfl HZL.out ?c1 (rwL_one l) ?c3 ?c4 ?c5 ?_)
    case c0 => exact S0.out.at
    case c1 => exact HC.out
    case c3 => have := HL.out; unfold maxLen; omega
    case c4 => have := HL.out; omega
    case c5 => exact S0.out.sz
    intro v1 w1 hown1 hg1 _ hat1
    have H1 : Hid (Sep B w0 w1 (rTk v1 l 0 :: X)) := Lib.hid (by
      have h9 := S0.out.app hown1 hg1 (by rw [World.size_alloc]; exact hat1)
      rw [rTk, show l ++ mR 0 = l by simp [mR], Nat.add_zero]
      simpa using h9)
    clear hown1 hg1 hat1 S0 HC HZL
    go_wp2_with fail
    go_loopw [3, 4] (fun v i wr => ∃ k : Nat, k ≤ 3 ∧ i = .int .i64 (k : Nat) ∧ Hid (Sep B w0 wr (rTk v l k :: X))) (fun _ i _ => 3 - (intOf i).toNat)
    case atStart => exact ⟨0, by omega, rfl, H1⟩
    case round =>
    clear H1
    obtain ⟨k, hk, rfl, HO⟩ := hrel
    by_cases hk3 : k < 3
    · have hk3I : (k : Int) < 3 := by omega
      have HO2 := Lib.hid (HO.out.alloc (.cells #[.int .i64 (-7000 - (k : Int)), .int .i64 0, .int .i64 0] 38))
      clear HO
      go_wp2_with (at_builtin; refine wpList_append_own_at _ rfl (.tmp 12) (.tmp 16) 22 rfl B 38 i0 _ 3 24 Try.underlying22 hi hz0 hz1 hz2 rfl (by decide) _ (l.length + k) (rwL (l ++ mR k)) rfl ?c0 ⟨wr.heap.size, 0, none⟩ 1 1 [.int .i64 (-7000 - (k : Int)), .int .i64 0, .int .i64 0] rfl rfl ?c1 ?c2 ?c3 ?c4 ?c5 ?_)
      case c0 => exact HO2.out.tl.at
      case c1 => intro j v hj; rw [Addr.add_mid, Nat.zero_add, HO2.out.boxAt j, ← hj]; simp
      case c2 => intro u hu; simp only [List.mem_cons, List.mem_nil_iff, or_false] at hu; rcases hu with rfl | rfl | rfl <;> rfl
      case c3 => unfold maxLen; omega
      case c4 => omega
      case c5 => have := HO2.out.sz; exact this
      intro v2 w2 hown2 hg2 _ hat2
      have HOE : Hid (Sep B w0 w2 (rTk v2 l (k + 1) :: X)) := Lib.hid (by
        have h9 := HO2.out.tl.app hown2 hg2 (by rw [World.size_alloc]; exact hat2)
        rw [rTk, mR_succ, ← List.append_assoc, rwL_app (l ++ mR k), ← Nat.add_assoc]
        first | exact h9 | (rw [show ([] : List Rw).length + k + 1 = k + 1 by simp, List.nil_append]; exact h9))
      clear hown2 hg2 HO2 hat2
      go_wp2_with fail
      go_roundw
      case rel => exact ⟨k + 1, by omega, by go_num, HOE⟩
      case measure => simp [intOf]; omega
    · obtain rfl : k = 3 := by omega
      obtain ⟨g, cap, rfl, hcap⟩ := row_own HO.out.at (by omega)
      have i1 : ((l.length : Nat) : Int) ≤ (cap : Int) := by omega
      have i2 : l.length ≤ cap := by omega
      clear hcap
      go_wp2_with fail
      go_ret
      exact ⟨g, cap, rfl, HO.out⟩
theorem twr_wv {B g cap : Nat} {w : World} {l : List Rw} (h : w.ownsRow B 38 3 (.slice (some ⟨g, 0, none⟩) (l.length + 3) cap) (l.length + 3) (rwL (l ++ mR 3))) :
    RW (fun b => b = g) w l (.slice (some ⟨g, 0, none⟩) l.length cap) ∧ (∀ k, k < 3 → w.cell? ⟨g, (l.length + k) * 3, none⟩ = some (.int .i64 (-7000 - (k : Int))) ∧ w.cell? ⟨g, (l.length + k) * 3 + 1, none⟩ = some (.int .i64 0) ∧ w.cell? ⟨g, (l.length + k) * 3 + 2, none⟩ = some (.int .i64 0)) ∧ l.length + 3 ≤ cap ∧ B ≤ g ∧ g < w.heap.size := by
  have key : ∀ j u, (rwL (l ++ mR 3))[j]? = some u → w.cell? ⟨g, j, none⟩ = some u := fun j u hu => by
    have := h.cells (g := g) rfl j u hu
    rwa [Addr.add_mid, Nat.zero_add] at this
  refine ⟨⟨_, _, rfl, fun e => (by cases e), fun _ => ⟨g, 0, rfl, rfl, fun j u hu => ?_⟩⟩, fun k hk => ?_, ?_, (h.lt g rfl).1, (h.lt g rfl).2⟩
  · rw [Nat.zero_add]
    refine key j u ?_
    rw [rwL_app, List.getElem?_append_left (List.getElem?_eq_some_iff.1 hu).1]; exact hu
  · have hi : l.length + k < (l ++ mR 3).length := by rw [List.length_append, mR_len]; omega
    obtain ⟨g1, g2, g3⟩ := rwL_get (l ++ mR 3) (l.length + k) hi
    have e : (l ++ mR 3)[l.length + k]'hi = (-7000 - (k : Int), 0, 0) := by
      rw [List.getElem_append_right (by omega)]
      simp [mR]
    rw [e] at g1 g2 g3
    exact ⟨key _ _ g1, key _ _ g2, key _ _ g3⟩
  · obtain ⟨g', cap', he, hc⟩ := row_own h (by omega)
    injection he with e1 e2 e3
    omega
set_option maxHeartbeats 8000000 in
theorem leftraws_any {E : Nat → Prop} {B : Nat} {w : World} {l : List Rw} {g cap : Nat} {pb : Option Addr} {cb : Nat} (hl : l.length ≤ 1000000) (hE : ∀ b, E b → b < w.heap.size) (ht : w.ownsRow B 38 3 (.slice (some ⟨g, 0, none⟩) (l.length + 3) cap) (l.length + 3) (rwL (l ++ mR 3))) (h : RW E w l (.slice pb l.length cb)) :
    Calls Try.prog 12 #[.slice (some ⟨g, 0, none⟩) l.length cap, .slice pb l.length cb] w fun e w' => e = .returned (.bool true) ∧ Below w.heap.size w w' := by
  obtain ⟨h1, h2, h3, h4, h5⟩ := twr_wv ht
  have HC := Lib.hid (sameraw_any (D := fun b => b = g) (w := w) (l := l) (fun b hb => by rw [hb]; exact h5) hE h1.wv h.wv (by omega))
  have HM := Lib.hid h2
  have HG := Lib.hid h5
  have hz26 := zero26
  have c1 : ¬ (cap : Int) < (l.length : Int) + 3 := by omega
  have c2 : (l.length : Int) + 3 ≤ (cap : Int) := by omega
  have c3 : l.length + 3 ≤ cap := h3
  have c4 : (0 : Int) ≤ (l.length : Int) + 3 := by omega
  have c5 : ¬ (l.length : Int) + 3 < 0 := by omega
  have HQ : Hid (∀ (k : Nat) z, (binOp .neq 38 (.agg #[.int .i64 (-7000 - (k : Int)), .int .i64 0, .int .i64 0]) (.agg #[.int .i64 (-7000 - (k : Int)), .int .i64 0, .int .i64 0])).run Try.prog z = .ok (.bool false) z) := Lib.hid fun k z => by
    have e := neq26 (-7000 - (k : Int)) 0 0 (-7000 - (k : Int)) 0 0 z
    simpa using e
  clear ht h h1 h2 h4 h5 h3 hE
  go_enter Try.func12, Try.ntmps12
  go_wp2_with fail
  refine HC.out.mono ?_
  rintro _ w1 ⟨rfl, hb1⟩
  have HB := Lib.hid hb1
  clear hb1 HC
  go_wp2_with fail
  go_loopw [6] (fun i wr => ∃ k : Nat, k ≤ 3 ∧ i = .int .i64 (k : Nat) ∧ Hid (Below w.heap.size w wr)) (fun i _ => 3 - (intOf i).toNat)
  case atStart => exact ⟨0, by omega, rfl, HB⟩
  case round =>
  clear HB
  obtain ⟨k, hk, rfl, HB⟩ := hrel
  by_cases hk3 : k < 3
  · have hk3I : (k : Int) < 3 := by omega
    obtain ⟨m0_, m1_, m2_⟩ := HM.out k hk3
    have cm : wr.cell? ⟨g, (l.length + k) * 3, none⟩ = some (.int .i64 (-7000 - (k : Int))) := (cell_same (HB.out.block g HG.out) _).trans m0_
    have cm1 : wr.cell? ⟨g, (l.length + k) * 3 + 1, none⟩ = some (.int .i64 0) := (cell_same (HB.out.block g HG.out) _).trans m1_
    have cm2 : wr.cell? ⟨g, (l.length + k) * 3 + 2, none⟩ = some (.int .i64 0) := (cell_same (HB.out.block g HG.out) _).trans m2_
    have hq := HQ.out k
    clear m0_ m1_ m2_
    go_wp2_with fail
    go_roundw
    case rel => exact ⟨k + 1, by omega, by go_num, HB⟩
    case measure => simp [intOf]; omega
  · obtain rfl : k = 3 := by omega
    go_wp2_with fail
    go_ret
    exact ⟨rfl, HB.out⟩
end Go.Proofs.Ytemkppjdfjoipaa.I1.X
