/- Texts of package regs, one behind the other. -/
import Derived.Test.YtemkppjdfjoipaaProg
import Derived.Test.YtemkppjdfjoipaaXj
import Derived.Deep.SlicePairs
import Derived.Deep.Slices
import Derived.Laws.IdiomArrays
import Derived.OpenShut
import Derived.WideBlind
import Derived.Great.BuildSlice
import Derived.WalkKit
import Derived.Maps.OwnSet
import Derived.Maps.OwnOps
import Derived.Maps.Own
import Derived.DeepKeys5
import Derived.BigFrame
import Derived.WalkMore
import Derived.ScopeJumps
import Derived.StillTailTactics
import Derived.Stop.BytesEq
import Derived.WalkLawsBesides
import Derived.WalkSpells
import Derived.Outline
import Derived.Lib.Walk
import Derived.Lib.Hide
import Derived.Lib.Slices
import Derived.Lib.Strings
import Derived.RegionTactic
import Derived.LoopTactic
import Derived.Below
import Derived.IntWalk
import Derived.Deep.QuietTactic
import Derived.BigQuiet
import Derived.Deep.MidRow
import Derived.Maps.AppendAt
import Derived.Laws.Rows
import Derived.Laws.Tables
import Derived.Deep.WholeRow
import Derived.Deep.Cut
import Derived.Deep.CutRange
import Derived.Lib.SliceRun
import Derived.Laws.MakeOwn
import Derived.Deep.RegionLaw
import Derived.Deep.RegionLawGrows
import Derived.Deep.RegionHeld3
import Derived.RegionCalls
import Derived.Deep.RegionWith
import Derived.Deep.Light
import Derived.Laws.CopyOwn
import Derived.Laws.ResultCell
section
/- Package relex. -/
namespace Go.Proofs.Ytemkppjdfjoipaa.I1.X
set_option linter.unusedSimpArgs false
set_option linter.unusedVariables false
set_option maxRecDepth 100000
open Go.RowKit
/- What a text comes «to», in memory; beginning. -/
def MV (D : Nat → Prop) (w : World) (ms : List Mk) (sl : Value) : Prop := ∃ p c, sl = .slice p ms.length c ∧ (ms ≠ [] → ∃ b o, p = some ⟨b, o, none⟩ ∧ D b ∧ ∀ i (h : i < ms.length), ∃ q f, IV D w ms[i].cols (.slice q ms[i].cols.length f) ∧ ∀ r v, (mkA (.slice q ms[i].cols.length f) ms[i])[r]? = some v → w.cell? ⟨b, o + i * 5 + r, none⟩ = some v)
theorem MV.mono {D E : Nat → Prop} {w w' : World} (hE : ∀ b, D b → E b) (hw : ∀ b, D b → b < w.heap.size → w'.heap[b]? = w.heap[b]?) {l : List Mk} {sl : Value} (h : MV D w l sl) : MV E w' l sl := by
  obtain ⟨p, c, rfl, h⟩ := h
  refine ⟨p, c, rfl, fun hn => ?_⟩
  obtain ⟨b, o, hp, hD, hc⟩ := h hn
  refine ⟨b, o, hp, hE b hD, fun i hi => ?_⟩
  obtain ⟨q, f, h1, h2⟩ := hc i hi
  exact ⟨q, f, h1.mono hE hw, fun r v hv => (cell_same (hw b hD (blk_lt (h2 r v hv))) _).trans (h2 r v hv)⟩
structure LV (N : Nat) (w : World) (L : List P3) (x : Lx) (p1 p2 p3 p4 : Option Addr) (c1 c2 c3 c4 : Nat) : Prop where
  r : RW (Lt N) w (L.map tR) (.slice p1 L.length c1)
  m : MV (Lt N) w x.marks (.slice p2 x.marks.length c2)
  k : IV (Lt N) w x.counts (.slice p3 x.counts.length c3)
  t : WV (Lt N) w x.toks (.slice p4 x.toks.length c4)
  h1 : L.length ≤ c1
  h2 : x.marks.length ≤ c2
  h3 : x.counts.length ≤ c3
  h4 : x.toks.length ≤ c4
theorem LV.up {N M : Nat} {w w' : World} {L : List P3} {x : Lx} {p1 p2 p3 p4 : Option Addr} {c1 c2 c3 c4 : Nat} (h : LV N w L x p1 p2 p3 p4 c1 c2 c3 c4) (hN : N ≤ M) (hb : Below N w w') : LV M w' L x p1 p2 p3 p4 c1 c2 c3 c4 :=
  ⟨h.r.mono (fun b hb => Nat.lt_of_lt_of_le hb hN) (fun b hb' _ => hb.block b hb'), h.m.mono (fun b hb => Nat.lt_of_lt_of_le hb hN) (fun b hb' _ => hb.block b hb'), h.k.mono (fun b hb => Nat.lt_of_lt_of_le hb hN) (fun b hb' _ => hb.block b hb'), h.t.mono (fun b hb => Nat.lt_of_lt_of_le hb hN) (fun b hb' _ => hb.block b hb'), h.h1, h.h2, h.h3, h.h4⟩
theorem rowlt_iv {D : Nat → Prop} {w : World} {l : List Int} {p : Option Addr} {n c : Nat} (h : IV D w l (.slice p n c)) {i : Nat} {x : Int} (hi : l[i]? = some x) : n = l.length ∧ ∃ b o, p = some ⟨b, o, none⟩ ∧ D b ∧ w.cell? ⟨b, o + i, none⟩ = some (.int .i64 x) := by
  obtain ⟨p', c', he, hh⟩ := h
  injection he with e1 e2 e3
  subst e1 e3
  obtain ⟨hl, hx⟩ := List.getElem?_eq_some_iff.1 hi
  obtain ⟨b, o, rfl, hb, hc⟩ := hh (by intro e; rw [e] at hl; simp at hl)
  exact ⟨e2, b, o, rfl, hb, by rw [← hx]; exact hc i hl⟩
theorem info28 : (Try.prog.info? 28).map (·.size) = some 4 := by kernel_rfl
theorem zero28 : ∀ w, (zeroValue 28).run Try.prog w = .ok (.agg #[.slice none 0 0, .slice none 0 0, .slice none 0 0, .slice none 0 0]) w := zero46
set_option maxHeartbeats 8000000 in
theorem beginning_any {N : Nat} {w : World} {l : List Int} {k told n1 n2 n3 n4 : Nat} {p1 p2 p3 p4 : Option Addr} {c1 c2 c3 c4 : Nat} (hN : N ≤ w.heap.size) (hiv : IV (Lt N) w l (.slice p3 n3 c3)) (hk : l[k]? = some (told : Int)) (h1 : k ≤ c1) (h2 : k + 1 ≤ c2) (h3 : k + 1 ≤ c3) (h4 : told ≤ c4) (hb1 : k ≤ 1000000) (hb4 : told ≤ 1000000000000) :
    Calls Try.prog 64 #[.agg #[.slice p1 n1 c1, .slice p2 n2 c2, .slice p3 n3 c3, .slice p4 n4 c4], .int .i64 (k : Nat)] w fun e w' => e = .returned (.agg #[.slice p1 k k, .slice p2 (k + 1) (k + 1), .slice p3 (k + 1) (k + 1), .slice p4 told told]) ∧ Below w.heap.size w w' := by
  obtain ⟨hn3, b, o, rfl, hb, hc⟩ := rowlt_iv hiv hk
  have hkl : k < l.length := (List.getElem?_eq_some_iff.1 hk).1
  obtain ⟨bm, hbm⟩ : ∃ b, w.heap.size = b := ⟨_, rfl⟩
  have hz := zero28
  have hbl : b < w.heap.size := Nat.lt_of_lt_of_le hb hN
  have S0 := ((Sb.start w).alloc (.cells #[.slice p1 n1 c1, .slice p2 n2 c2, .slice (some ⟨b, o, none⟩) n3 c3, .slice p4 n4 c4] 28)).alloc (.cells zL 28)
  have hs1 : (w.alloc (.cells #[.slice p1 n1 c1, .slice p2 n2 c2, .slice (some ⟨b, o, none⟩) n3 c3, .slice p4 n4 c4] 28)).heap.size = bm + 1 := by simp [hbm]
  rw [hs1, hbm] at S0
  have S0 := Lib.hid S0
  have HC := Lib.hid hc
  have HBL := Lib.hid hbl
  have HB := Lib.hid hbm
  have hkI : (k : Int) < (n3 : Int) := by omega
  have hk0 : ¬ (k : Int) < 0 := by omega
  have sk : IntKind.i64.wrap ((k : Int) + 1) = ((k : Int) + 1) := IntWalk.i64_in _ (by omega)
  clear hc hbl hiv hk hb hkl hn3
  go_enter Try.func64, Try.ntmps64
  go_upto_region 1 with fail
  clear hs1
  refine at_world (fun y => Sb w y [(bm + 1, .cells zL 28), (bm, .cells #[.slice p1 n1 c1, .slice p2 n2 c2, .slice (some ⟨b, o, none⟩) n3 c3, .slice p4 n4 c4] 28)]) (by have := S0.out; simpa [hbm, zL] using this) fun y hy => ?_
  have S1 := Lib.hid hy
  have y2 : y.cell? ⟨bm, 2, none⟩ = some (.slice (some ⟨b, o, none⟩) n3 c3) := hy.tl.cell 2
  have yc : y.cell? ⟨b, o + k, none⟩ = some (.int .i64 (told : Nat)) := (cell_same (hy.1.block b HBL.out) _).trans HC.out
  clear hy S0 HC
  go_quiet (fail)
  refine at_worldQ (fun y => Sb w y [(bm + 1, .cells zL 28), (bm, .cells #[.slice p1 n1 c1, .slice p2 n2 c2, .slice (some ⟨b, o, none⟩) n3 c3, .slice p4 n4 c4] 28)]) (S1.out.drewN _) fun z hz => ?_
  clear y2 yc S1
  have z0 : z.cell? ⟨bm, 0, none⟩ = some (.slice p1 n1 c1) := hz.tl.cell 0
  have z1 : z.cell? ⟨bm, 1, none⟩ = some (.slice p2 n2 c2) := hz.tl.cell 1
  have z2 : z.cell? ⟨bm, 2, none⟩ = some (.slice (some ⟨b, o, none⟩) n3 c3) := hz.tl.cell 2
  have z3 : z.cell? ⟨bm, 3, none⟩ = some (.slice p4 n4 c4) := hz.tl.cell 3
  have S2 := Lib.hid hz.drew
  clear hz
  have i1 : (k : Int) ≤ (c1 : Int) := by omega
  have i2 : (k : Int) + 1 ≤ (c2 : Int) := by omega
  have i3 : (k : Int) + 1 ≤ (c3 : Int) := by omega
  have i4 : (told : Int) ≤ (c4 : Int) := by omega
  have i5 : (0 : Int) ≤ (k : Int) := by omega
  have i6 : (0 : Int) ≤ (k : Int) + 1 := by omega
  have i7 : (0 : Int) ≤ (told : Int) := by omega
  go_upto_region 2 with fail
  go_still_tail 21, (by kernel_rfl)
  change wpList _ _ _ _ _ z.drew
  obtain ⟨y, hy⟩ : ∃ y, z.drew = y := ⟨_, rfl⟩
  rw [hy] at S2 ⊢
  have d0 : y.cell? ⟨bm + 1, 0, none⟩ = some (.slice none 0 0) := S2.out.cell 0
  have d1 : y.cell? ⟨bm + 1, 1, none⟩ = some (.slice none 0 0) := S2.out.cell 1
  have d2 : y.cell? ⟨bm + 1, 2, none⟩ = some (.slice none 0 0) := S2.out.cell 2
  have d3 : y.cell? ⟨bm + 1, 3, none⟩ = some (.slice none 0 0) := S2.out.cell 3
  have f0 : y.frozen? ⟨bm + 1, 0, none⟩ = false := S2.out.free 0
  have f1 : y.frozen? ⟨bm + 1, 1, none⟩ = false := S2.out.free 1
  have f2 : y.frozen? ⟨bm + 1, 2, none⟩ = false := S2.out.free 2
  have f3 : y.frozen? ⟨bm + 1, 3, none⟩ = false := S2.out.free 3
  have HY := Lib.hid (((((S2.out.sub (M := [(bm + 1, .cells zL 28)]) (by simp)).set (i := 0) (.slice p1 k k) (by simp)).set (i := 1) (.slice p2 (k + 1) (k + 1)) (by simp)).set (i := 2) (.slice (some ⟨b, o, none⟩) (k + 1) (k + 1)) (by simp)).set (i := 3) (.slice p4 told told) (by simp))
  clear hy z0 z1 z2 z3 S2
  go_wp2_with fail
  refine bodyPost_ret (results_cell_row rfl _ _ (bm + 1) 28 _ (0, 0) _ rfl HY.out.heap Try.underlying28 rfl info28) rfl ⟨rfl, HB.out ▸ HY.out.1⟩
end Go.Proofs.Ytemkppjdfjoipaa.I1.X
end
section
/- Package relex. -/
namespace Go.Proofs.Ytemkppjdfjoipaa.I1.X
set_option linter.unusedSimpArgs false
set_option linter.unusedVariables false
set_option maxRecDepth 100000
open Go.RowKit
/- slices.Clone of lists that may be empty. -/
def GV (D : Nat → Prop) (w : World) (xs : List Value) (p : Option Addr) : Prop := xs ≠ [] → ∃ b o, p = some ⟨b, o, none⟩ ∧ D b ∧ ∀ j u, xs[j]? = some u → w.cell? ⟨b, o + j, none⟩ = some u
theorem GV.mono {D E : Nat → Prop} {w w' : World} (hE : ∀ b, D b → E b) (hw : ∀ b, D b → b < w.heap.size → w'.heap[b]? = w.heap[b]?) {xs : List Value} {p : Option Addr} (h : GV D w xs p) : GV E w' xs p := fun hn => by
  obtain ⟨b, o, hp, hD, hc⟩ := h hn
  exact ⟨b, o, hp, hE b hD, fun j u hu => (cell_same (hw b hD (blk_lt (hc j u hu))) _).trans (hc j u hu)⟩
theorem IV.gv {D : Nat → Prop} {w : World} {l : List Int} {p : Option Addr} {n c : Nat} (h : IV D w l (.slice p n c)) : GV D w (zi l) p := fun hn => by
  obtain ⟨p', c', he, hh⟩ := h
  injection he with e1 e2 e3
  subst e1
  obtain ⟨b, o, hp, hb, hc⟩ := hh (by intro e; exact hn (by rw [e]; rfl))
  refine ⟨b, o, hp, hb, fun j u hu => ?_⟩
  obtain ⟨hj, rfl⟩ := List.getElem?_eq_some_iff.1 hu
  have hj2 : j < l.length := by simpa [zi] using hj
  rw [hc j hj2]; simp [zi]
theorem WV.gv {D : Nat → Prop} {w : World} {l : List Tr} {p : Option Addr} {n c : Nat} (h : WV D w l (.slice p n c)) : GV D w (tkL l) p := fun hn => by
  obtain ⟨p', c', he, hh⟩ := h
  injection he with e1 e2 e3
  subst e1
  obtain ⟨b, o, hp, hb, hc⟩ := hh (by intro e; exact hn (by rw [e]; rfl))
  refine ⟨b, o, hp, hb, fun j u hu => ?_⟩
  have hj : j < l.length * 3 := by have := (List.getElem?_eq_some_iff.1 hu).1; rwa [tkL_len] at this
  obtain ⟨g0, g1, g2⟩ := hc (j / 3) (by omega)
  obtain ⟨r0, r1, r2⟩ := rwL_get l (j / 3) (by omega)
  rw [tkL_rwL] at hu
  rcases (by omega : j = j / 3 * 3 ∨ j = j / 3 * 3 + 1 ∨ j = j / 3 * 3 + 2) with e | e | e
  · rw [e, r0] at hu; rw [e, ← hu]; exact g0
  · rw [e, r1] at hu; rw [e, ← hu, ← Nat.add_assoc]; exact g1
  · rw [e, r2] at hu; rw [e, ← hu, ← Nat.add_assoc]; exact g2
theorem eqn25 (a : Addr) (n c : Nat) (w : World) : Sem.run Try.prog (binOp BinOp.eql 25 (.slice (some a) n c) (.slice none 0 0)) w = .ok (.bool false) w := by kernel_rfl
theorem eqn25n (n c : Nat) (w : World) : Sem.run Try.prog (binOp BinOp.eql 25 (.slice none n c) (.slice none 0 0)) w = .ok (.bool true) w := by kernel_rfl
theorem eqn26 (a : Addr) (n c : Nat) (w : World) : Sem.run Try.prog (binOp BinOp.eql 26 (.slice (some a) n c) (.slice none 0 0)) w = .ok (.bool false) w := by kernel_rfl
theorem eqn26n (n c : Nat) (w : World) : Sem.run Try.prog (binOp BinOp.eql 26 (.slice none n c) (.slice none 0 0)) w = .ok (.bool true) w := by kernel_rfl
set_option maxHeartbeats 8000000 in
theorem clone51 {D : Nat → Prop} {w : World} {n : Nat} {xs : List Value} {p : Option Addr} {c : Nat} (hl : n ≤ 1000000000) (hx : xs.length = n * 1) (h1 : ∀ u ∈ xs, u.oneCell' = true) (hD : ∀ b, D b → b < w.heap.size) (h : GV D w xs p) :
    Calls Try.prog 51 #[.slice p n c] w fun e w' => ∃ v, e = .returned v ∧ w'.ownsRow w.heap.size 3 1 v n xs ∧ Below w.heap.size w w' := by
  obtain ⟨i0, hi, hz0, hz1, hz2⟩ := info_parts info3b
  cases p with
  | none =>
    have hxs : xs = [] := by
      by_cases e : xs = []
      · exact e
      · obtain ⟨b, o, hp, _⟩ := h e
        cases hp
    subst hxs
    obtain rfl : n = 0 := by simp at hx; omega
    have S0 := Lib.hid (Below.refl w.heap.size w)
    clear h hD hl hx h1
    go_enter Try.func51, Try.ntmps51
    go_wp2_with (rw [eqn25n])
    go_ret
    exact ⟨_, rfl, ⟨by simp, .inl ⟨rfl, rfl⟩⟩, S0.out⟩
  | some a =>
  have hw0 := (Below.refl w.heap.size w).alloc (Nat.le_refl _) (.cells #[] 3)
  have HO0 : Hid ((w.alloc (.cells #[] 3)).ownsRow w.heap.size 3 1 (.slice (some ⟨w.heap.size, 0, none⟩) 0 0) 0 []) := Lib.hid ⟨by simp, .inr ⟨w.heap.size, 0, #[], rfl, Nat.le_refl _, heap_alloc_new _ _, Nat.le_refl _, by simp [maxLen], by simp, by simp⟩⟩
  have S0 := Lib.hid hw0
  have HSZ : Hid ((w.alloc (.cells #[] 3)).heap.size = w.heap.size + 1) := Lib.hid (by simp)
  by_cases hne : xs = []
  · subst hne
    obtain rfl : n = 0 := by simp at hx; omega
    clear h hD hl hw0 HSZ hx h1
    go_enter Try.func51, Try.ntmps51
    go_wp2_with (first | rw [eqn25] | (at_builtin; refine wpList_append_zero _ rfl (.tmp 5) (.tmp 6) 25 rfl 3 i0 Try.underlying25 hi ⟨w.heap.size, 0, none⟩ 0 0 rfl (some a) c rfl (Nat.le_refl _) ?_))
    go_wp2_with fail
    go_ret
    exact ⟨_, rfl, HO0.out, S0.out⟩
  · obtain ⟨b, o, hp, hDb, hc⟩ := h hne
    injection hp with hp
    subst hp
    have hbw := hD b hDb
    have HC : Hid (∀ j v, xs[j]? = some v → (w.alloc (.cells #[] 3)).cell? ((⟨b, o, none⟩ : Addr).add j) = some v) := Lib.hid fun j v hj => by
      rw [Addr.add_mid, cell_same (hw0.block b hbw)]; exact hc j v hj
    have HZL : Hid (xs.length = n * 1) := Lib.hid hx
    have HL := Lib.hid hl
    clear h hc hw0 hD hx
    go_enter Try.func51, Try.ntmps51
    go_wp2_with (first | rw [eqn25] | (at_builtin; refine wpList_append_own_at _ rfl (.tmp 5) (.tmp 6) 25 rfl w.heap.size 3 i0 _ 1 8 Try.underlying25 hi hz0 hz1 hz2 rfl (by decide) (.slice (some ⟨w.heap.size, 0, none⟩) 0 0) 0 [] rfl ?c0 ⟨b, o, none⟩ n c xs rfl HZL.out ?c1 h1 ?c3 ?c4 ?c5 ?_))
    case c0 => exact HO0.out
    case c1 => exact HC.out
    case c3 => have := HL.out; unfold maxLen; omega
    case c4 => have := HL.out; omega
    case c5 => have := HSZ.out; omega
    intro v1 w1 hown1 hg1 _ _
    have H1 : Hid (w1.ownsRow w.heap.size 3 1 v1 n xs) := Lib.hid (by simpa using hown1)
    have L1 : Hid (Below w.heap.size w w1) := Lib.hid (below_grown S0.out hg1 (fun g hg => (World.ownsRow.lt HO0.out g hg).1) (by have := HSZ.out; omega))
    clear hown1 hg1 HO0 S0 HSZ HC HZL
    go_wp2_with fail
    go_ret
    exact ⟨_, rfl, H1.out, L1.out⟩
set_option maxHeartbeats 8000000 in
theorem clone71 {D : Nat → Prop} {w : World} {n : Nat} {xs : List Value} {p : Option Addr} {c : Nat} (hl : n ≤ 1000000000) (hx : xs.length = n * 3) (h1 : ∀ u ∈ xs, u.oneCell' = true) (hD : ∀ b, D b → b < w.heap.size) (h : GV D w xs p) :
    Calls Try.prog 71 #[.slice p n c] w fun e w' => ∃ v, e = .returned v ∧ w'.ownsRow w.heap.size 40 3 v n xs ∧ Below w.heap.size w w' := by
  obtain ⟨i0, hi, hz0, hz1, hz2⟩ := info_parts info35
  cases p with
  | none =>
    have hxs : xs = [] := by
      by_cases e : xs = []
      · exact e
      · obtain ⟨b, o, hp, _⟩ := h e
        cases hp
    subst hxs
    obtain rfl : n = 0 := by simp at hx; omega
    have S0 := Lib.hid (Below.refl w.heap.size w)
    clear h hD hl hx h1
    go_enter Try.func71, Try.ntmps71
    go_wp2_with (rw [eqn26n])
    go_ret
    exact ⟨_, rfl, ⟨by simp, .inl ⟨rfl, rfl⟩⟩, S0.out⟩
  | some a =>
  have hw0 := (Below.refl w.heap.size w).alloc (Nat.le_refl _) (.cells #[] 40)
  have HO0 : Hid ((w.alloc (.cells #[] 40)).ownsRow w.heap.size 40 3 (.slice (some ⟨w.heap.size, 0, none⟩) 0 0) 0 []) := Lib.hid ⟨by simp, .inr ⟨w.heap.size, 0, #[], rfl, Nat.le_refl _, heap_alloc_new _ _, Nat.le_refl _, by simp [maxLen], by simp, by simp⟩⟩
  have S0 := Lib.hid hw0
  have HSZ : Hid ((w.alloc (.cells #[] 40)).heap.size = w.heap.size + 1) := Lib.hid (by simp)
  by_cases hne : xs = []
  · subst hne
    obtain rfl : n = 0 := by simp at hx; omega
    clear h hD hl hw0 HSZ hx h1
    go_enter Try.func71, Try.ntmps71
    go_wp2_with (first | rw [eqn26] | (at_builtin; refine wpList_append_zero _ rfl (.tmp 5) (.tmp 6) 26 rfl 40 i0 Try.underlying26 hi ⟨w.heap.size, 0, none⟩ 0 0 rfl (some a) c rfl (Nat.le_refl _) ?_))
    go_wp2_with fail
    go_ret
    exact ⟨_, rfl, HO0.out, S0.out⟩
  · obtain ⟨b, o, hp, hDb, hc⟩ := h hne
    injection hp with hp
    subst hp
    have hbw := hD b hDb
    have HC : Hid (∀ j v, xs[j]? = some v → (w.alloc (.cells #[] 40)).cell? ((⟨b, o, none⟩ : Addr).add j) = some v) := Lib.hid fun j v hj => by
      rw [Addr.add_mid, cell_same (hw0.block b hbw)]; exact hc j v hj
    have HZL : Hid (xs.length = n * 3) := Lib.hid hx
    have HL := Lib.hid hl
    clear h hc hw0 hD hx
    go_enter Try.func71, Try.ntmps71
    go_wp2_with (first | rw [eqn26] | (at_builtin; refine wpList_append_own_at _ rfl (.tmp 5) (.tmp 6) 26 rfl w.heap.size 40 i0 _ 3 24 Try.underlying26 hi hz0 hz1 hz2 rfl (by decide) (.slice (some ⟨w.heap.size, 0, none⟩) 0 0) 0 [] rfl ?c0 ⟨b, o, none⟩ n c xs rfl HZL.out ?c1 h1 ?c3 ?c4 ?c5 ?_))
    case c0 => exact HO0.out
    case c1 => exact HC.out
    case c3 => have := HL.out; unfold maxLen; omega
    case c4 => have := HL.out; omega
    case c5 => have := HSZ.out; omega
    intro v1 w1 hown1 hg1 _ _
    have H1 : Hid (w1.ownsRow w.heap.size 40 3 v1 n xs) := Lib.hid (by simpa using hown1)
    have L1 : Hid (Below w.heap.size w w1) := Lib.hid (below_grown S0.out hg1 (fun g hg => (World.ownsRow.lt HO0.out g hg).1) (by have := HSZ.out; omega))
    clear hown1 hg1 HO0 S0 HSZ HC HZL
    go_wp2_with fail
    go_ret
    exact ⟨_, rfl, H1.out, L1.out⟩
end Go.Proofs.Ytemkppjdfjoipaa.I1.X
end
