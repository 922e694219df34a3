/- Package indent. -/
import Derived.Test.YtemkppjdfjoipaaProg
import Derived.Test.YtemkppjdfjoipaaIy
import Derived.Great.BuildSlice
import Derived.WalkKit
import Derived.Maps.OwnSet
import Derived.Maps.OwnOps
import Derived.Maps.Own
import Derived.DeepKeys5
import Derived.BigFrame
import Derived.WalkMore
import Derived.ScopeJumps
import Derived.StillTailTactics
import Derived.Stop.BytesEq
import Derived.WalkLawsBesides
import Derived.WalkSpells
import Derived.Outline
import Derived.Lib.Walk
import Derived.Lib.Hide
import Derived.Lib.Slices
import Derived.Lib.Strings
import Derived.RegionTactic
import Derived.LoopTactic
import Derived.Below
import Derived.IntWalk
import Derived.Deep.QuietTactic
import Derived.BigQuiet
import Derived.Deep.MidRow
import Derived.Maps.AppendAt
import Derived.Laws.Rows
import Derived.Laws.Tables
import Derived.Deep.WholeRow
import Derived.Deep.Cut
import Derived.Deep.CutRange
import Derived.Lib.SliceRun
import Derived.Laws.MakeOwn
import Derived.Deep.RegionLaw
import Derived.Deep.RegionLawGrows
import Derived.Deep.RegionHeld3
import Derived.RegionCalls
import Derived.Deep.RegionWith
import Derived.Deep.Light
import Derived.Laws.CopyOwn
import Derived.Laws.ResultCell
namespace Go.Proofs.Ytemkppjdfjoipaa.I1
set_option linter.unusedSimpArgs false
set_option linter.unusedVariables false
set_option maxRecDepth 100000
open Go.RowKit
/- The document's Copy and Lead. -/
def CpP (B : Nat) (w0 : World) (X : List It) (m : Mk) (e : Ending) (w' : World) : Prop := ∃ v, e = .returned (.agg (mkA v m)) ∧ Sep B w0 w' (rI v m.cols :: X)
set_option maxHeartbeats 8000000 in
theorem copy_any {B : Nat} {D : Nat → Prop} {w0 w : World} {m : Mk} {p : Option Addr} {c : Nat} {X : List It} (hne : 0 < m.cols.length) (hl : m.cols.length ≤ 1000000) (hD : ∀ b, D b → b < w.heap.size) (hiv : IV D w m.cols (.slice p m.cols.length c)) (hs : Sep B w0 w X) :
    Calls Try.prog 31 #[.agg (mkA (.slice p m.cols.length c) m)] w (CpP B w0 X m) := by
  obtain ⟨cols, o, kk, fr, ld⟩ := m
  unfold mkA
  simp only [] at hiv hl hne ⊢
  have hz := zero24
  obtain ⟨p', c', he, hh⟩ := hiv
  injection he with e1 e2 e3
  subst e1 e3
  obtain ⟨b, o', rfl, hDb, hc⟩ := hh (by intro e; rw [e] at hne; simp at hne)
  have hbw := hD b hDb
  obtain ⟨bm, hbm⟩ : ∃ b, w.heap.size = b := ⟨_, rfl⟩
  have h1 := ((hs.allocAt hbm (.cells #[.slice (some ⟨b, o', none⟩) cols.length c, .int .i64 o, .int .i64 kk, .bool fr, .int .i64 ld] 36)).allocAt (b := bm + 1) (by simp [hbm]) (.cells zA 36))
  have HC0 : Hid (∀ j v, (zi cols)[j]? = some v → ((w.alloc (.cells #[.slice (some ⟨b, o', none⟩) cols.length c, .int .i64 o, .int .i64 kk, .bool fr, .int .i64 ld] 36)).alloc (.cells zA 36)).cell? ⟨b, o' + j, none⟩ = some v) := Lib.hid fun j v hj => by
    obtain ⟨hj1, hj2⟩ := List.getElem?_eq_some_iff.1 hj
    have hj3 : j < cols.length := by simpa [zi] using hj1
    have hb3 : Below w.heap.size w ((w.alloc (.cells #[.slice (some ⟨b, o', none⟩) cols.length c, .int .i64 o, .int .i64 kk, .bool fr, .int .i64 ld] 36)).alloc (.cells zA 36)) := ((Below.refl w.heap.size w).alloc (Nat.le_refl _) _).alloc (by simp) _
    rw [cell_same (hb3.block b hbw), hc j hj3, ← hj2]
    simp [zi]
  have S1 := Lib.hid h1
  clear hs h1 hh hc e2 hD
  go_enter Try.func31, Try.ntmps31
  go_upto_region 1 with fail
  refine at_world (fun y => Sep B w0 y (bxM (bm + 1) zA :: bxM bm #[.slice (some ⟨b, o', none⟩) cols.length c, .int .i64 o, .int .i64 kk, .bool fr, .int .i64 ld] :: X) ∧ ∀ j v, (zi cols)[j]? = some v → y.cell? ⟨b, o' + j, none⟩ = some v) ⟨S1.out, HC0.out⟩ fun y hy => ?_
  obtain ⟨b3, hb3⟩ : ∃ b, y.heap.size = b := ⟨_, rfl⟩
  have S2 := Lib.hid (Sep.empty (size := 1) (hy.1.allocAt hb3 (.cells #[] 3)))
  have HC : Hid (∀ j v, (zi cols)[j]? = some v → (y.alloc (.cells #[] 3)).cell? ((⟨b, o', none⟩ : Addr).add j) = some v) := Lib.hid fun j v hj => by
    have h := hy.2 j v hj
    rw [Addr.add_mid]
    exact (cell_same (((Below.refl y.heap.size y).alloc (Nat.le_refl _) _).block b (blk_lt h)) _).trans h
  have c0 : y.cell? ⟨bm, 0, none⟩ = some (.slice (some ⟨b, o', none⟩) cols.length c) := hy.1.tl.boxAt 0
  have hbl : bm < y.heap.size := (It.lt hy.1.tl.at rfl).2
  rw [hb3] at hbl
  clear S1 HC0 hy
  go_wp2_with (at_builtin; refine wp_appI (B := B) (w0 := w0) (l := []) _ rfl (.tmp 3) (.tmp 5) rfl rfl S2.out ⟨b, o', none⟩ c cols rfl HC.out (by simp only [List.length_nil]; omega) ?_)
  intro v1 w1 hs1
  obtain ⟨p1, cp1, rfl⟩ := row_form hs1.at
  have S3 := Lib.hid hs1
  clear hs1 S2 HC c0 hbl hb3
  have c0 : w1.cell? ⟨bm, 0, none⟩ = some (.slice (some ⟨b, o', none⟩) cols.length c) := S3.out.tl.tl.boxAt 0
  have cf0 : w1.frozen? ⟨bm, 0, none⟩ = false := S3.out.tl.tl.fz 0
  go_upto_region 2 with fail
  refine at_world (fun y => Sep B w0 y (rI (.slice p1 cols.length cp1) cols :: bxM (bm + 1) zA :: bxM bm #[.slice p1 cols.length cp1, .int .i64 o, .int .i64 kk, .bool fr, .int .i64 ld] :: X)) (S3.out.setAt [_, _] 0 (.slice p1 cols.length cp1)) fun y2 hy2 => ?_
  have S6 := Lib.hid hy2
  clear S3 hy2 c0 cf0
  have c0 : y2.cell? ⟨bm, 0, none⟩ = some (.slice p1 cols.length cp1) := S6.out.tl.tl.boxAt 0
  have c1 : y2.cell? ⟨bm, 1, none⟩ = some (.int .i64 o) := S6.out.tl.tl.boxAt 1
  have c2 : y2.cell? ⟨bm, 2, none⟩ = some (.int .i64 kk) := S6.out.tl.tl.boxAt 2
  have c3 : y2.cell? ⟨bm, 3, none⟩ = some (.bool fr) := S6.out.tl.tl.boxAt 3
  have c4 : y2.cell? ⟨bm, 4, none⟩ = some (.int .i64 ld) := S6.out.tl.tl.boxAt 4
  have z0 : y2.cell? ⟨bm + 1, 0, none⟩ = some (.slice none 0 0) := S6.out.tl.boxAt 0
  have z1 : y2.cell? ⟨bm + 1, 1, none⟩ = some (.int .i64 0) := S6.out.tl.boxAt 1
  have z2 : y2.cell? ⟨bm + 1, 2, none⟩ = some (.int .i64 0) := S6.out.tl.boxAt 2
  have z3 : y2.cell? ⟨bm + 1, 3, none⟩ = some (.bool false) := S6.out.tl.boxAt 3
  have z4 : y2.cell? ⟨bm + 1, 4, none⟩ = some (.int .i64 0) := S6.out.tl.boxAt 4
  have zf0 : y2.frozen? ⟨bm + 1, 0, none⟩ = false := S6.out.tl.fz 0
  have zf1 : y2.frozen? ⟨bm + 1, 1, none⟩ = false := S6.out.tl.fz 1
  have zf2 : y2.frozen? ⟨bm + 1, 2, none⟩ = false := S6.out.tl.fz 2
  have zf3 : y2.frozen? ⟨bm + 1, 3, none⟩ = false := S6.out.tl.fz 3
  have zf4 : y2.frozen? ⟨bm + 1, 4, none⟩ = false := S6.out.tl.fz 4
  have SZ := Lib.hid ((((((S6.out.setAt [_] 0 (.slice p1 cols.length cp1)).setAt [_] 1 (.int .i64 o)).setAt [_] 2 (.int .i64 kk)).setAt [_] 3 (.bool fr)).setAt [_] 4 (.int .i64 ld)))
  clear S6
  go_wp2_with fail
  refine bodyPost_ret (results_cell_row rfl _ _ (bm + 1) 36 _ (0, 0) _ rfl SZ.out.tl.at.2 Try.underlying36 rfl info24) rfl ?_
  exact ⟨_, rfl, SZ.out.sub (List.Sublist.cons_cons _ (.cons _ (.cons _ (.refl _))))⟩
theorem colC_app (c : Int) : ∀ (l : List Nat) (b : Nat), colC c (l ++ [b]) = min (tabF (colC c l) b) 4096
  | [], b => rfl
  | a :: l, b => by
    rw [List.cons_append]
    unfold colC
    exact colC_app _ l b
set_option maxHeartbeats 8000000 in
theorem lead_any {w : World} {c : Int} {s : ByteArray} (h0 : 0 ≤ c) (h1 : c ≤ 4096) (hs : s.size ≤ 65536) :
    Calls Try.prog 58 #[.int .i64 c, .string s] w fun e w' => e = .returned (.int .i64 (colC c (bl s))) ∧ w' = w := by
  have HX0 : Hid (c = colC c ((bl s).take 0)) := Lib.hid (by simp [colC])
  go_enter Try.func58, Try.ntmps58
  go_wp2_with fail
  go_loopw [0, 5] (fun x i wr => ∃ (j : Nat) (cj : Int), x = .int .i64 cj ∧ i = .int .i64 (j : Nat) ∧ j ≤ s.size ∧ 0 ≤ cj ∧ cj ≤ 4096 ∧ Hid (cj = colC c ((bl s).take j)) ∧ wr = w) (fun _ i _ => s.size - (intOf i).toNat)
  case atStart => exact ⟨0, c, rfl, rfl, by omega, by omega, by omega, HX0, rfl⟩
  case round =>
  clear HX0
  obtain ⟨j, cj, rfl, rfl, hj, hc0, hc1, HX, rfl⟩ := hrel
  by_cases hlt : j < s.size
  · have hltI : (j : Int) < (s.size : Int) := by omega
    have hjI : ¬ (j : Int) < 0 := by omega
    have HN : Hid (min (tabF cj (s.get j hlt).toNat) 4096 = colC c ((bl s).take (j + 1))) := Lib.hid (by
      have hlt2 : j < (bl s).length := by rw [bl_len]; exact hlt
      rw [List.take_add_one, List.getElem?_eq_getElem hlt2, bl_get hlt]
      show _ = colC c ((bl s).take j ++ [(s.get j hlt).toNat])
      rw [colC_app, ← HX.out])
    obtain ⟨u, hu⟩ : ∃ u, s.get j hlt = u := ⟨_, rfl⟩
    have hsg : s.get j hlt = u := hu
    have hbn : s[j]'hlt = u := hu
    rw [hu] at HN
    have hw1 : IntKind.i64.wrap (cj + 1) = cj + 1 := IntWalk.i64_in (cj + 1) (by omega)
    by_cases h9 : u = 9
    · have hb9 : ((u.toNat : Int) == 9) = true := by rw [h9]; rfl
      have e9 : tabF cj u.toNat = cj + (8 - cj % 8) := by rw [h9]; rfl
      rw [e9] at HN
      clear HX
      go_upto_region 6 with fail
      go_loopw [0] (fun x z => ∃ q : Int, x = .int .i64 q ∧ cj + 1 ≤ q ∧ q ≤ cj + (8 - cj % 8) ∧ z = wr) (fun x _ => (cj + 8 - intOf x).toNat)
      case atStart => exact ⟨cj + 1, rfl, by omega, by omega, rfl⟩
      case round =>
      obtain ⟨q, rfl, hq1, hq2, rfl⟩ := hrel
      by_cases hm : q % 8 = 0
      · obtain rfl : q = cj + (8 - cj % 8) := by omega
        have hmI : ((cj + (8 - cj % 8)) % 8 != 0) = false := by simpa using hm
        by_cases hcap : 4096 < cj + (8 - cj % 8)
        · have HN2 : Hid ((4096 : Int) = colC c ((bl s).take (j + 1))) := Lib.hid (by rw [← HN.out]; omega)
          clear HN
          go_wp2_with fail
          go_roundw
          case rel => exact ⟨j + 1, _, rfl, by go_num, by omega, by omega, by omega, HN2, by first | rfl | trivial⟩
          case measure => simp [intOf]; omega
        · have HN2 : Hid (cj + (8 - cj % 8) = colC c ((bl s).take (j + 1))) := Lib.hid (by rw [← HN.out]; omega)
          clear HN
          go_wp2_with fail
          go_roundw
          case rel => exact ⟨j + 1, _, rfl, by go_num, by omega, by omega, by omega, HN2, by first | rfl | trivial⟩
          case measure => simp [intOf]; omega
      · have hmI : (q % 8 != 0) = true := by simpa using hm
        have hw2 : IntKind.i64.wrap (q + 1) = q + 1 := IntWalk.i64_in (q + 1) (by omega)
        go_wp2_with fail
        go_roundw
        case rel => exact ⟨q + 1, rfl, by omega, by omega, by first | rfl | trivial⟩
        case measure => simp [intOf]; omega
    · have hb9 : ((u.toNat : Int) == 9) = false := by
        have : ¬ u.toNat = 9 := fun e => h9 (UInt8.toNat_inj.1 e)
        simp; omega
      have hne9 : ¬ u.toNat = 9 := fun e => h9 (UInt8.toNat_inj.1 e)
      have e9 : tabF cj u.toNat = cj + 1 := by unfold tabF; rw [if_neg hne9]
      rw [e9] at HN
      clear HX
      by_cases hcap : 4096 < cj + 1
      · have HN2 : Hid ((4096 : Int) = colC c ((bl s).take (j + 1))) := Lib.hid (by rw [← HN.out]; omega)
        clear HN
        go_wp2_with fail
        go_roundw
        case rel => exact ⟨j + 1, _, rfl, by go_num, by omega, by omega, by omega, HN2, by first | rfl | trivial⟩
        case measure => simp [intOf]; omega
      · have HN2 : Hid (cj + 1 = colC c ((bl s).take (j + 1))) := Lib.hid (by rw [← HN.out]; omega)
        clear HN
        go_wp2_with fail
        go_roundw
        case rel => exact ⟨j + 1, _, rfl, by go_num, by omega, by omega, by omega, HN2, by first | rfl | trivial⟩
        case measure => simp [intOf]; omega
  · obtain rfl : j = s.size := by omega
    have hltI : ¬ (s.size : Int) < (s.size : Int) := by omega
    have HY : Hid (cj = colC c (bl s)) := Lib.hid (by rw [HX.out, List.take_of_length_le (by rw [bl_len]; omega)])
    go_wp2_with fail
    go_ret
    exact ⟨by rw [← HY.out]; rfl, rfl⟩
end Go.Proofs.Ytemkppjdfjoipaa.I1
