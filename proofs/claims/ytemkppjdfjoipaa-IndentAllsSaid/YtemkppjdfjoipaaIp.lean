/- Package indent. -/
import Derived.Test.YtemkppjdfjoipaaProg
import Derived.Test.YtemkppjdfjoipaaIo9
import Derived.Great.BuildSlice
import Derived.WalkKit
import Derived.Maps.OwnSet
import Derived.Maps.OwnOps
import Derived.Maps.Own
import Derived.DeepKeys5
import Derived.BigFrame
import Derived.WalkMore
import Derived.ScopeJumps
import Derived.StillTailTactics
import Derived.Stop.BytesEq
import Derived.WalkLawsBesides
import Derived.WalkSpells
import Derived.Outline
import Derived.Lib.Walk
import Derived.Lib.Hide
import Derived.Lib.Slices
import Derived.Lib.Strings
import Derived.RegionTactic
import Derived.LoopTactic
import Derived.Below
import Derived.IntWalk
import Derived.Deep.QuietTactic
import Derived.BigQuiet
import Derived.Deep.MidRow
import Derived.Maps.AppendAt
import Derived.Laws.Rows
import Derived.Laws.Tables
import Derived.Deep.WholeRow
import Derived.Deep.Cut
import Derived.Deep.CutRange
import Derived.Lib.SliceRun
import Derived.Laws.MakeOwn
import Derived.Deep.RegionLaw
import Derived.Deep.RegionLawGrows
import Derived.Deep.RegionHeld3
import Derived.RegionCalls
import Derived.Deep.RegionWith
import Derived.Deep.Light
import Derived.Laws.CopyOwn
import Derived.Laws.ResultCell
namespace Go.Proofs.Ytemkppjdfjoipaa.I1
set_option linter.unusedSimpArgs false
set_option linter.unusedVariables false
set_option maxRecDepth 100000
open Go.RowKit
/- SameTokens, SameRaws, SameMark of two that are the same. -/
abbrev Tr := Int × Int × Int
/-- Threes of numbers in memory. -/
def WV (D : Nat → Prop) (w : World) (l : List Tr) (sl : Value) : Prop := ∃ p c, sl = .slice p l.length c ∧ (l ≠ [] → ∃ b o, p = some ⟨b, o, none⟩ ∧ D b ∧ ∀ i (h : i < l.length), w.cell? ⟨b, o + i * 3, none⟩ = some (.int .i64 l[i].1) ∧ w.cell? ⟨b, o + i * 3 + 1, none⟩ = some (.int .i64 l[i].2.1) ∧ w.cell? ⟨b, o + i * 3 + 2, none⟩ = some (.int .i64 l[i].2.2))
theorem RW.wv {D : Nat → Prop} {w : World} {l : List Rw} {sl : Value} (h : RW D w l sl) : WV D w l sl := by
  obtain ⟨p, c, rfl, _, h⟩ := h
  refine ⟨p, c, rfl, fun hn => ?_⟩
  obtain ⟨b, o, hp, hD, hc⟩ := h hn
  refine ⟨b, o, hp, hD, fun i hi => ?_⟩
  obtain ⟨g0, g1, g2⟩ := rwL_get l i hi
  exact ⟨hc _ _ g0, by rw [Nat.add_assoc]; exact hc _ _ g1, by rw [Nat.add_assoc]; exact hc _ _ g2⟩
theorem WV.mono {D E : Nat → Prop} {w w' : World} (hE : ∀ b, D b → E b) (hw : ∀ b, D b → b < w.heap.size → w'.heap[b]? = w.heap[b]?) {l : List Tr} {sl : Value} (h : WV D w l sl) : WV E w' l sl := by
  obtain ⟨p, c, rfl, h⟩ := h
  refine ⟨p, c, rfl, fun hn => ?_⟩
  obtain ⟨b, o, hp, hD, hc⟩ := h hn
  refine ⟨b, o, hp, hE b hD, fun i hi => ?_⟩
  obtain ⟨h1, h2, h3⟩ := hc i hi
  have hk : ∀ o v, w.cell? ⟨b, o, none⟩ = some v → w'.cell? ⟨b, o, none⟩ = some v := fun o v h => by rw [← h]; exact cell_same (hw b hD (blk_lt h)) _
  exact ⟨hk _ _ h1, hk _ _ h2, hk _ _ h3⟩
theorem row_rw {B : Nat} {e : TypeId} {w : World} {l : List Tr} {sl : Value} (h : w.ownsRow B e 3 sl l.length (rwL l)) : RW (fun b => B ≤ b ∧ b < w.heap.size ∧ sl.ownBlock = some b) w l sl := by
  rcases h.2 with ⟨rfl, h0⟩ | ⟨g, cap, cur, rfl, h1, h2, h3, h4, h5, h6⟩
  · have : l = [] := List.length_eq_zero_iff.1 h0
    subst this
    exact ⟨none, 0, rfl, fun _ => ⟨rfl, rfl⟩, fun h => absurd rfl h⟩
  · refine ⟨some ⟨g, 0, none⟩, cap, rfl, (fun h => by cases h), fun _ => ⟨g, 0, rfl, ⟨h1, (Array.getElem?_eq_some_iff.1 h2).1, rfl⟩, fun j u hu => ?_⟩⟩
    have := h.cells (g := g) rfl j u hu
    rwa [Addr.add_mid] at this
theorem row_wv {B : Nat} {e : TypeId} {w : World} {l : List Tr} {sl : Value} (h : w.ownsRow B e 3 sl l.length (rwL l)) : WV (fun b => B ≤ b ∧ b < w.heap.size ∧ sl.ownBlock = some b) w l sl := (row_rw h).wv
theorem eq3g (n : Nat) (x y : Int) (w : World) : (Op.equalIn (n + 1) 3 (.int .i64 x) (.int .i64 y)).run Try.prog w = .ok (x == y) w := by
  rw [Op.equalIn]
  simp [run_underlying Try.underlying3]
theorem neq35 (a b c a' b' c' : Int) (w : World) : (binOp .neq 40 (.agg #[.int .i64 a, .int .i64 b, .int .i64 c]) (.agg #[.int .i64 a', .int .i64 b', .int .i64 c'])).run Try.prog w = .ok (.bool !((a == a') && ((b == b') && (c == c')))) w := by
  have h : ∀ (x y : Int) w, (Op.equalIn 9999 3 (.int .i64 x) (.int .i64 y)).run Try.prog w = .ok (x == y) w := fun x y w => eq3g 9998 x y w
  have e : ∀ w, (Op.equalIn 10000 40 (.agg #[.int .i64 a, .int .i64 b, .int .i64 c]) (.agg #[.int .i64 a', .int .i64 b', .int .i64 c'])).run Try.prog w = .ok ((a == a') && ((b == b') && (c == c'))) w := fun w => by
    rw [show (10000 : Nat) = 9999 + 1 from rfl, Op.equalIn]
    simp [run_underlying Try.underlying40, Try.sizeOf3, Std.Legacy.Range.forIn_eq_forIn_range', List.range', part, h]
    by_cases h1 : a = a' <;> by_cases h2 : b = b' <;> by_cases h3 : c = c' <;> simp [h1, h2, h3]
  simp only [binOp]
  simp [Op.equal, Op.maxDepth, e]
set_option maxHeartbeats 4000000 in
theorem sametok_any {D E : Nat → Prop} {w : World} {l : List Tr} {p p' : Option Addr} {c c' : Nat} (hD : ∀ b, D b → b < w.heap.size) (hE : ∀ b, E b → b < w.heap.size) (h : WV D w l (.slice p l.length c)) (h' : WV E w l (.slice p' l.length c')) (hl : l.length ≤ 9223372036854775806) :
    Calls Try.prog 23 #[.slice p l.length c, .slice p' l.length c'] w fun e w' => e = .returned (.bool true) ∧ Below w.heap.size w w' := by
  have H := Lib.hid h
  have H' := Lib.hid h'
  have HD := Lib.hid hD
  have HE := Lib.hid hE
  have S0 := Lib.hid (Below.refl w.heap.size w)
  have hnI : ((l.length : Int) != (l.length : Int)) = false := by simp
  clear h h' hD hE
  obtain ⟨n, hn1⟩ : ∃ n, l.length = n := ⟨_, rfl⟩
  have HN1 := Lib.hid hn1
  rw [hn1] at H H' hl hnI ⊢
  clear hn1
  go_enter Try.func23, Try.ntmps23
  go_wp2_with fail
  go_loopw [5] (fun i wr => ∃ j : Nat, i = .int .i64 (j : Nat) ∧ j ≤ n ∧ Hid (Below w.heap.size w wr)) (fun i _ => n - (intOf i).toNat)
  case atStart => exact ⟨0, rfl, by omega, S0⟩
  case round =>
    clear S0
    obtain ⟨j, rfl, hj, HS⟩ := hrel
    obtain ⟨wo, rfl⟩ : ∃ wo : World, wo = wr := ⟨_, rfl⟩
    by_cases hlt : j < n
    · obtain ⟨p1, c1, he, hh⟩ := H.out
      injection he with e1 e2 e3
      subst e1 e3
      have hj1 : j < l.length := by rw [HN1.out]; exact hlt
      obtain ⟨b, o, rfl, hb, hc⟩ := hh (by intro e; rw [e] at hj1; simp at hj1)
      obtain ⟨p2, c2, he', hh'⟩ := H'.out
      injection he' with e1' e2' e3'
      subst e1' e3'
      obtain ⟨b', o', rfl, hb', hc'⟩ := hh' (by intro e; rw [e] at hj1; simp at hj1)
      obtain ⟨g1, g2, g3⟩ := hc j hj1
      obtain ⟨g4, g5, g6⟩ := hc' j hj1
      have hk : ∀ (b o : Nat) (v : Value), b < w.heap.size → w.cell? ⟨b, o, none⟩ = some v → wo.cell? ⟨b, o, none⟩ = some v := fun b o v hb h => (cell_same (HS.out.block b hb) _).trans h
      have k1 := hk _ _ _ (HD.out b hb) g1
      have k2 := hk _ _ _ (HD.out b hb) g2
      have k3 := hk _ _ _ (HD.out b hb) g3
      have k4 := hk _ _ _ (HE.out b' hb') g4
      have k5 := hk _ _ _ (HE.out b' hb') g5
      have k6 := hk _ _ _ (HE.out b' hb') g6
      obtain ⟨⟨x1, x2, x3⟩, hx⟩ : ∃ x, l[j] = x := ⟨_, rfl⟩
      rw [hx] at k1 k2 k3 k4 k5 k6
      simp only [] at k1 k2 k3 k4 k5 k6
      have hq := fun z => neq35 x1 x2 x3 x1 x2 x3 z
      simp only [BEq.rfl, Bool.and_self, Bool.not_true] at hq
      have hjI : (j : Int) < (n : Int) := by omega
      have hj0 : ¬ (j : Int) < 0 := by omega
      clear hh hh' hc hc' g1 g2 g3 g4 g5 g6 hk hx e2 e2' hj1
      go_upto_region 6 with fail
      go_quiet (fail)
      go_wp2_with fail
      go_roundw
      case rel => exact ⟨j + 1, by go_num, by omega, Lib.hid (below_drewN HS.out _)⟩
      case measure => simp [intOf]; omega
    · obtain rfl : j = n := by omega
      have hjI : ¬ (j : Int) < (j : Int) := by omega
      go_wp2_with fail
      go_ret
      exact ⟨rfl, HS.out⟩
theorem neq26 (a b c a' b' c' : Int) (w : World) : (binOp .neq 38 (.agg #[.int .i64 a, .int .i64 b, .int .i64 c]) (.agg #[.int .i64 a', .int .i64 b', .int .i64 c'])).run Try.prog w = .ok (.bool !((a == a') && ((b == b') && (c == c')))) w := by
  have h : ∀ (x y : Int) w, (Op.equalIn 9999 3 (.int .i64 x) (.int .i64 y)).run Try.prog w = .ok (x == y) w := fun x y w => eq3g 9998 x y w
  have e : ∀ w, (Op.equalIn 10000 38 (.agg #[.int .i64 a, .int .i64 b, .int .i64 c]) (.agg #[.int .i64 a', .int .i64 b', .int .i64 c'])).run Try.prog w = .ok ((a == a') && ((b == b') && (c == c'))) w := fun w => by
    rw [show (10000 : Nat) = 9999 + 1 from rfl, Op.equalIn]
    simp [run_underlying Try.underlying38, Try.sizeOf3, Std.Legacy.Range.forIn_eq_forIn_range', List.range', part, h]
    by_cases h1 : a = a' <;> by_cases h2 : b = b' <;> by_cases h3 : c = c' <;> simp [h1, h2, h3]
  simp only [binOp]
  simp [Op.equal, Op.maxDepth, e]
set_option maxHeartbeats 4000000 in
theorem sameraw_any {D E : Nat → Prop} {w : World} {l : List Tr} {p p' : Option Addr} {c c' : Nat} (hD : ∀ b, D b → b < w.heap.size) (hE : ∀ b, E b → b < w.heap.size) (h : WV D w l (.slice p l.length c)) (h' : WV E w l (.slice p' l.length c')) (hl : l.length ≤ 9223372036854775806) :
    Calls Try.prog 24 #[.slice p l.length c, .slice p' l.length c'] w fun e w' => e = .returned (.bool true) ∧ Below w.heap.size w w' := by
  have H := Lib.hid h
  have H' := Lib.hid h'
  have HD := Lib.hid hD
  have HE := Lib.hid hE
  have S0 := Lib.hid (Below.refl w.heap.size w)
  have hnI : ((l.length : Int) != (l.length : Int)) = false := by simp
  clear h h' hD hE
  obtain ⟨n, hn1⟩ : ∃ n, l.length = n := ⟨_, rfl⟩
  have HN1 := Lib.hid hn1
  rw [hn1] at H H' hl hnI ⊢
  clear hn1
  go_enter Try.func24, Try.ntmps24
  go_wp2_with fail
  go_loopw [5] (fun i wr => ∃ j : Nat, i = .int .i64 (j : Nat) ∧ j ≤ n ∧ Hid (Below w.heap.size w wr)) (fun i _ => n - (intOf i).toNat)
  case atStart => exact ⟨0, rfl, by omega, S0⟩
  case round =>
    clear S0
    obtain ⟨j, rfl, hj, HS⟩ := hrel
    obtain ⟨wo, rfl⟩ : ∃ wo : World, wo = wr := ⟨_, rfl⟩
    by_cases hlt : j < n
    · obtain ⟨p1, c1, he, hh⟩ := H.out
      injection he with e1 e2 e3
      subst e1 e3
      have hj1 : j < l.length := by rw [HN1.out]; exact hlt
      obtain ⟨b, o, rfl, hb, hc⟩ := hh (by intro e; rw [e] at hj1; simp at hj1)
      obtain ⟨p2, c2, he', hh'⟩ := H'.out
      injection he' with e1' e2' e3'
      subst e1' e3'
      obtain ⟨b', o', rfl, hb', hc'⟩ := hh' (by intro e; rw [e] at hj1; simp at hj1)
      obtain ⟨g1, g2, g3⟩ := hc j hj1
      obtain ⟨g4, g5, g6⟩ := hc' j hj1
      have hk : ∀ (b o : Nat) (v : Value), b < w.heap.size → w.cell? ⟨b, o, none⟩ = some v → wo.cell? ⟨b, o, none⟩ = some v := fun b o v hb h => (cell_same (HS.out.block b hb) _).trans h
      have k1 := hk _ _ _ (HD.out b hb) g1
      have k2 := hk _ _ _ (HD.out b hb) g2
      have k3 := hk _ _ _ (HD.out b hb) g3
      have k4 := hk _ _ _ (HE.out b' hb') g4
      have k5 := hk _ _ _ (HE.out b' hb') g5
      have k6 := hk _ _ _ (HE.out b' hb') g6
      obtain ⟨⟨x1, x2, x3⟩, hx⟩ : ∃ x, l[j] = x := ⟨_, rfl⟩
      rw [hx] at k1 k2 k3 k4 k5 k6
      simp only [] at k1 k2 k3 k4 k5 k6
      have hq := fun z => neq26 x1 x2 x3 x1 x2 x3 z
      simp only [BEq.rfl, Bool.and_self, Bool.not_true] at hq
      have hjI : (j : Int) < (n : Int) := by omega
      have hj0 : ¬ (j : Int) < 0 := by omega
      clear hh hh' hc hc' g1 g2 g3 g4 g5 g6 hk hx e2 e2' hj1
      go_upto_region 6 with fail
      go_quiet (fail)
      go_wp2_with fail
      go_roundw
      case rel => exact ⟨j + 1, by go_num, by omega, Lib.hid (below_drewN HS.out _)⟩
      case measure => simp [intOf]; omega
    · obtain rfl : j = n := by omega
      have hjI : ¬ (j : Int) < (j : Int) := by omega
      go_wp2_with fail
      go_ret
      exact ⟨rfl, HS.out⟩
set_option maxHeartbeats 8000000 in
theorem samemark_any {D E : Nat → Prop} {w : World} {m : Mk} {p p' : Option Addr} {c c' : Nat} (hl : m.cols.length ≤ 9223372036854775806) (hD : ∀ b, D b → b < w.heap.size) (hE : ∀ b, E b → b < w.heap.size) (ha : IV D w m.cols (.slice p m.cols.length c)) (hb : IV E w m.cols (.slice p' m.cols.length c')) :
    Calls Try.prog 36 #[.agg (mkA (.slice p m.cols.length c) m), .agg (mkA (.slice p' m.cols.length c') m)] w fun e w' => e = .returned (.bool true) ∧ Below w.heap.size w w' := by
  obtain ⟨cols, o, kk, fr, ld⟩ := m
  unfold mkA
  simp only [] at hl ha hb ⊢
  have hw0 := ((Below.refl w.heap.size w).alloc (Nat.le_refl _) (.cells #[.slice p cols.length c, .int .i64 o, .int .i64 kk, .bool fr, .int .i64 ld] 36)).alloc (by simp) (.cells #[.slice p' cols.length c', .int .i64 o, .int .i64 kk, .bool fr, .int .i64 ld] 36)
  have S0 := Lib.hid hw0
  have HC := Lib.hid (same_any hl (fun b hb => Nat.lt_of_lt_of_le (hD b hb) hw0.size) (fun b hb => Nat.lt_of_lt_of_le (hE b hb) hw0.size) (ha.mono (D := D) (E := D) (fun b h => h) (fun b hb _ => hw0.block b (hD b hb))) (hb.mono (D := E) (E := E) (fun b h => h) (fun b hb _ => hw0.block b (hE b hb))))
  obtain ⟨bm, hbm⟩ : ∃ b, w.heap.size = b := ⟨_, rfl⟩
  have SB := Lib.hid (((Sep.start w).allocAt hbm (.cells #[.slice p cols.length c, .int .i64 o, .int .i64 kk, .bool fr, .int .i64 ld] 36)).allocAt (b := bm + 1) (by simp [hbm]) (.cells #[.slice p' cols.length c', .int .i64 o, .int .i64 kk, .bool fr, .int .i64 ld] 36))
  have b1 : (o == o) = true := by simp
  have b2 : (kk == kk) = true := by simp
  have b3 : (fr == fr) = true := by simp
  have b4 : (ld == ld) = true := by simp
  clear ha hb hD hE hw0
  go_enter Try.func36, Try.ntmps36
  go_upto_region 1 with fail
  have c0 : ((w.alloc (.cells #[.slice p cols.length c, .int .i64 o, .int .i64 kk, .bool fr, .int .i64 ld] 36)).alloc (.cells #[.slice p' cols.length c', .int .i64 o, .int .i64 kk, .bool fr, .int .i64 ld] 36)).cell? ⟨bm, 0, none⟩ = some (.slice p cols.length c) := SB.out.tl.boxAt 0
  have d0 : ((w.alloc (.cells #[.slice p cols.length c, .int .i64 o, .int .i64 kk, .bool fr, .int .i64 ld] 36)).alloc (.cells #[.slice p' cols.length c', .int .i64 o, .int .i64 kk, .bool fr, .int .i64 ld] 36)).cell? ⟨bm + 1, 0, none⟩ = some (.slice p' cols.length c') := SB.out.boxAt 0
  go_wp2_with fail
  refine HC.out.mono ?_
  rintro _ w2 ⟨rfl, hb⟩
  rw [decide_true]
  have S2 := Lib.hid (S0.out.trans (hb.mono S0.out.size))
  have SB2 := Lib.hid (SB.out.up hb)
  clear HC hb SB S0 c0 d0
  have c1 : w2.cell? ⟨bm, 1, none⟩ = some (.int .i64 o) := SB2.out.tl.boxAt 1
  have d1 : w2.cell? ⟨bm + 1, 1, none⟩ = some (.int .i64 o) := SB2.out.boxAt 1
  have c2 : w2.cell? ⟨bm, 2, none⟩ = some (.int .i64 kk) := SB2.out.tl.boxAt 2
  have d2 : w2.cell? ⟨bm + 1, 2, none⟩ = some (.int .i64 kk) := SB2.out.boxAt 2
  have c3 : w2.cell? ⟨bm, 3, none⟩ = some (.bool fr) := SB2.out.tl.boxAt 3
  have d3 : w2.cell? ⟨bm + 1, 3, none⟩ = some (.bool fr) := SB2.out.boxAt 3
  have c4 : w2.cell? ⟨bm, 4, none⟩ = some (.int .i64 ld) := SB2.out.tl.boxAt 4
  have d4 : w2.cell? ⟨bm + 1, 4, none⟩ = some (.int .i64 ld) := SB2.out.boxAt 4
  go_wp2_with fail
  go_ret
  exact ⟨by simp, hbm ▸ S2.out⟩
end Go.Proofs.Ytemkppjdfjoipaa.I1
