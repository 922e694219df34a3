/- Package relex. -/
import Derived.Test.YtemkppjdfjoipaaProg
import Derived.Test.YtemkppjdfjoipaaZb
import Derived.Test.YtemkppjdfjoipaaU46
import Derived.Test.YtemkppjdfjoipaaU5
import Derived.Deep.SlicePairs
import Derived.Deep.Slices
import Derived.Laws.IdiomArrays
import Derived.OpenShut
import Derived.WideBlind
import Derived.Great.BuildSlice
import Derived.WalkKit
import Derived.Maps.OwnSet
import Derived.Maps.OwnOps
import Derived.Maps.Own
import Derived.DeepKeys5
import Derived.BigFrame
import Derived.WalkMore
import Derived.ScopeJumps
import Derived.StillTailTactics
import Derived.Stop.BytesEq
import Derived.WalkLawsBesides
import Derived.WalkSpells
import Derived.Outline
import Derived.Lib.Walk
import Derived.Lib.Hide
import Derived.Lib.Slices
import Derived.Lib.Strings
import Derived.RegionTactic
import Derived.LoopTactic
import Derived.Below
import Derived.IntWalk
import Derived.Deep.QuietTactic
import Derived.BigQuiet
import Derived.Deep.MidRow
import Derived.Maps.AppendAt
import Derived.Laws.Rows
import Derived.Laws.Tables
import Derived.Deep.WholeRow
import Derived.Deep.Cut
import Derived.Deep.CutRange
import Derived.Lib.SliceRun
import Derived.Laws.MakeOwn
import Derived.Deep.RegionLaw
import Derived.Deep.RegionLawGrows
import Derived.Deep.RegionHeld3
import Derived.RegionCalls
import Derived.Deep.RegionWith
import Derived.Deep.Light
import Derived.Laws.CopyOwn
import Derived.Laws.ResultCell
namespace Go.Proofs.Ytemkppjdfjoipaa.I1.X
set_option linter.unusedSimpArgs false
set_option linter.unusedVariables false
set_option maxRecDepth 100000
open Go.RowKit
/- What All answers: how long it is; as it is read; SameLexed of two that say the same. -/
structure QB (R : List Rw) (x : Lx) : Prop where
  r : R.length ≤ 2000
  m : x.marks.length ≤ 2001
  k : x.counts.length ≤ 2001
  t : x.toks.length ≤ 20000000
  c : ∀ m ∈ x.marks, m.cols.length ≤ 4097
theorem runF_ok : ∀ (l : List Rw) (x : Lx) (m : Mk) (s : List Nat), May m → (∀ m' ∈ x.marks, May m') → areP ((s.length : Nat) : Int) l = true → m.lead + ((s.length : Nat) : Int) ≤ 65536 →
    (∀ m' ∈ (runF x m s l).1.marks, May m') ∧ May (runF x m s l).2 ∧ (runF x m s l).1.marks.length = x.marks.length + l.length ∧ (runF x m s l).1.counts.length = x.counts.length + l.length ∧ (runF x m s l).1.toks.length ≤ x.toks.length + 5000 * l.length
  | [], x, m, s, h1, h2, h3, h4 => ⟨h2, h1, by simp [runF], by simp [runF], by simp [runF]⟩
  | r :: l, x, m, s, h1, h2, h3, h4 => by
    obtain ⟨p1, p2, p3⟩ := areP_pos h3
    obtain ⟨k, hk⟩ : ∃ k : Nat, r.2.1 = (k : Int) := ⟨r.2.1.toNat, by omega⟩
    rw [hk] at p1 p2 p3
    have hl : (s.take k).length = k := by rw [List.length_take]; omega
    have hmd : Made m (s.take k) (k : Int) := ⟨by omega, by rw [hl], by omega⟩
    have hm5 := stepF_may (k := r.1) h1 hmd
    have hld := stepF_lead (m := m) (s := s.take k) (k := r.1) h1.l0 (show (0 : Int) ≤ (k : Int) by omega)
    have hln := stepF_len m (s.take k) r.1 (k : Int)
    have hcl := h1.len
    have hd : (s.drop k).length = s.length - k := List.length_drop
    unfold runF
    rw [hk, Int.toNat_natCast]
    obtain ⟨g1, g2, g3, g4, g5⟩ := runF_ok l ⟨x.marks ++ [(stepF m (s.take k) r.1 (k : Int)).1], x.counts ++ [((x.toks ++ (stepF m (s.take k) r.1 (k : Int)).2).length : Int)], x.toks ++ (stepF m (s.take k) r.1 (k : Int)).2⟩ (stepF m (s.take k) r.1 (k : Int)).1 (s.drop k) hm5 (fun m' hm' => by
      rcases List.mem_append.1 hm' with h | h
      · exact h2 m' h
      · rw [List.mem_singleton.1 h]; exact hm5) (by rw [hd, show ((s.length - k : Nat) : Int) = (s.length : Int) - (k : Int) by omega]; exact p3) (by rw [hd]; omega)
    refine ⟨g1, g2, ?_, ?_, ?_⟩
    · rw [g3]; simp only [List.length_append, List.length_cons, List.length_nil]; omega
    · rw [g4]; simp only [List.length_append, List.length_cons, List.length_nil]; omega
    · refine Nat.le_trans g5 ?_
      simp only [List.length_append, List.length_cons]
      omega
theorem allQ_ok {s : ByteArray} {l : List Rw} (hl : l.length ≤ 2000) : QB (allQ s l).1.1 (allQ s l).1.2 := by
  unfold allQ
  split
  · exact ⟨by simp, by simp, by simp, by simp, by simp⟩
  · split
    · exact ⟨by simp, by simp, by simp, by simp, by simp⟩
    · rename_i h1 h2
      have ha : areP (((bl s).length : Nat) : Int) l = true := by rw [bl_len]; simpa using h2
      obtain ⟨g1, g2, g3, g4, g5⟩ := runF_ok l ⟨[m0], [0], []⟩ m0 (bl s) m0_may (by intro m' h; rw [List.mem_singleton.1 h]; exact m0_may) ha (by rw [bl_len]; simp only [m0]; omega)
      have h3 : (endF (allR (bl s) l).2).length ≤ 5000 := by
        have h4 := g2.len
        unfold endF allR
        simp only [List.length_append, List.length_replicate, List.length_singleton]
        split <;> simp <;> omega
      refine ⟨hl, ?_, ?_, ?_, fun m hm => (g1 m hm).len⟩
      · show (allR (bl s) l).1.marks.length ≤ 2001
        unfold allR; rw [g3]; simp; omega
      · show (allR (bl s) l).1.counts.length ≤ 2001
        unfold allR; rw [g4]; simp; omega
      · show ((allR (bl s) l).1.toks ++ endF (allR (bl s) l).2).length ≤ 20000000
        rw [List.length_append]
        have h5 : (allR (bl s) l).1.toks.length ≤ 5000 * l.length := by unfold allR; simpa using g5
        omega
structure SLv (N : Nat) (w : World) (R : List Rw) (x : Lx) (v1 v2 v3 v4 : Value) : Prop where
  r : RW (Lt N) w R v1
  m : MV (Lt N) w x.marks v2
  k : IV (Lt N) w x.counts v3
  t : WV (Lt N) w x.toks v4
theorem SLv.up {N M : Nat} {w w' : World} {R : List Rw} {x : Lx} {v1 v2 v3 v4 : Value} (h : SLv N w R x v1 v2 v3 v4) (hN : N ≤ M) (hb : Below N w w') : SLv M w' R x v1 v2 v3 v4 :=
  ⟨h.r.mono (fun b hb => Nat.lt_of_lt_of_le hb hN) (fun b hb' _ => hb.block b hb'), h.m.mono (fun b hb => Nat.lt_of_lt_of_le hb hN) (fun b hb' _ => hb.block b hb'), h.k.mono (fun b hb => Nat.lt_of_lt_of_le hb hN) (fun b hb' _ => hb.block b hb'), h.t.mono (fun b hb => Nat.lt_of_lt_of_le hb hN) (fun b hb' _ => hb.block b hb')⟩
theorem row_gv {B n : Nat} {e : TypeId} {size : Nat} {w : World} {xs : List Value} {p : Option Addr} {c : Nat} (h : w.ownsRow B e size (.slice p n c) n xs) (hx : xs.length = n * size) : GV (fun b => b < w.heap.size) w xs p := fun hn => by
  have hpos : 0 < n := by
    rcases Nat.eq_zero_or_pos n with h0 | h0
    · subst h0; exact absurd (List.length_eq_zero_iff.1 (by omega)) hn
    · exact h0
  obtain ⟨g, cap, he, hc⟩ := row_own h hpos
  injection he with e1 e2 e3
  subst e1
  exact ⟨g, 0, rfl, (h.lt g rfl).2, fun j u hu => by have := h.cells (g := g) rfl j u hu; rwa [Addr.add_mid] at this⟩
theorem slv_of {B : Nat} {w0 w : World} {R : List Rw} {x : Lx} {p1 p2 p3 p4 : Option Addr} {c1 c2 c3 c4 : Nat} {vs : List Value} {X : List It} (h : Sep B w0 w (rR (.slice p1 R.length c1) R :: rM (.slice p2 x.marks.length c2) vs x.marks :: rI (.slice p3 x.counts.length c3) x.counts :: rT (.slice p4 x.toks.length c4) x.toks :: (colsI vs x.marks ++ X))) (hvs : vs.length = x.marks.length) : SLv w.heap.size w R x (.slice p1 R.length c1) (.slice p2 x.marks.length c2) (.slice p3 x.counts.length c3) (.slice p4 x.toks.length c4) := by
  refine ⟨(row_rw h.at).mono (fun b hb => hb.2.1) (fun b _ _ => rfl), mv_of (L := colsI vs x.marks ++ X) (B := B) (w0 := w0) (colsI_mk hvs) h.tl.tl.tl.tl (row_gv h.tl.at (mkL_len hvs)), (own_iv h.tl.tl.at).mono (fun b hb => hb.2.1) (fun b _ _ => rfl), ?_⟩
  have e := row_wv (l := x.toks) h.tl.tl.tl.at
  exact e.mono (fun b hb => hb.2.1) (fun b _ _ => rfl)
theorem Only.grown {g : Option Nat} {w w' : World} (h : Only g w w') : w.grownBy w' g := ⟨h.os, h.tape, h.output, by rw [h.size]; exact Nat.le_refl _, fun k _ hk => h.block k hk⟩
set_option maxHeartbeats 8000000 in
theorem samelq_any {M N : Nat} {w : World} {R : List Rw} {x : Lx} {p1 p2 p3 p4 q1 q2 q3 q4 : Option Addr} {c1 c2 c3 c4 f1 f2 f3 f4 : Nat} (hM : M ≤ w.heap.size) (hN : N ≤ w.heap.size) (h : SLv M w R x (.slice p1 R.length c1) (.slice p2 x.marks.length c2) (.slice p3 x.counts.length c3) (.slice p4 x.toks.length c4)) (h' : SLv N w R x (.slice q1 R.length f1) (.slice q2 x.marks.length f2) (.slice q3 x.counts.length f3) (.slice q4 x.toks.length f4)) (hml : QB R x) :
    Calls Try.prog 11 #[.agg #[.slice p1 R.length c1, .slice p2 x.marks.length c2, .slice p3 x.counts.length c3, .slice p4 x.toks.length c4], .agg #[.slice q1 R.length f1, .slice q2 x.marks.length f2, .slice q3 x.counts.length f3, .slice q4 x.toks.length f4]] w fun e w' => e = .returned (.bool true) ∧ Below w.heap.size w w' := by
  obtain ⟨b2, hb2⟩ : ∃ b, w.heap.size = b := ⟨_, rfl⟩
  have h1 := hml.r
  have h2 := hml.m
  have h3 := hml.k
  have h4 := hml.t
  have hcl : ∀ m ∈ x.marks, m.cols.length ≤ 9223372036854775806 := fun m hm => Nat.le_trans (hml.c m hm) (by decide)
  have HBD : Hid (∀ z, Below w.heap.size w z → SLv M z R x (.slice p1 R.length c1) (.slice p2 x.marks.length c2) (.slice p3 x.counts.length c3) (.slice p4 x.toks.length c4) ∧ SLv N z R x (.slice q1 R.length f1) (.slice q2 x.marks.length f2) (.slice q3 x.counts.length f3) (.slice q4 x.toks.length f4) ∧ M ≤ z.heap.size ∧ N ≤ z.heap.size) := Lib.hid fun z hz => ⟨h.up (Nat.le_refl _) (hz.mono hM), h'.up (Nat.le_refl _) (hz.mono hN), Nat.le_trans hM hz.size, Nat.le_trans hN hz.size⟩
  have HR : Hid (∀ z, Below w.heap.size w z → Calls Try.prog 24 #[.slice p1 R.length c1, .slice q1 R.length f1] z fun e w' => e = .returned (.bool true) ∧ Below z.heap.size z w') := Lib.hid fun z hz => by
    obtain ⟨a1, a2, a3, a4⟩ := HBD.out z hz
    exact sameraw_any (D := Lt M) (E := Lt N) (w := z) (l := R) (p := p1) (p' := q1) (c := c1) (c' := f1) (fun b (hb : b < M) => Nat.lt_of_lt_of_le hb a3) (fun b (hb : b < N) => Nat.lt_of_lt_of_le hb a4) (RW.wv a1.r) (RW.wv a2.r) (by omega)
  have HM' : Hid (∀ z, Below w.heap.size w z → Calls Try.prog 34 #[.slice p2 x.marks.length c2, .slice q2 x.marks.length f2] z fun e w' => e = .returned (.bool true) ∧ Below z.heap.size z w') := Lib.hid fun z hz => by
    obtain ⟨a1, a2, a3, a4⟩ := HBD.out z hz
    exact samemarks_any a3 a4 a1.m a2.m (by omega) hcl
  have HI : Hid (∀ z, Below w.heap.size w z → Calls Try.prog 35 #[.slice p3 x.counts.length c3, .slice q3 x.counts.length f3] z fun e w' => e = .returned (.bool true) ∧ Below z.heap.size z w') := Lib.hid fun z hz => by
    obtain ⟨a1, a2, a3, a4⟩ := HBD.out z hz
    have e := same_any (D := Lt M) (E := Lt N) (w := z) (by omega) (fun b (hb : b < M) => Nat.lt_of_lt_of_le hb a3) (fun b (hb : b < N) => Nat.lt_of_lt_of_le hb a4) a1.k a2.k
    simpa using e
  have HT : Hid (∀ z, Below w.heap.size w z → Calls Try.prog 23 #[.slice p4 x.toks.length c4, .slice q4 x.toks.length f4] z fun e w' => e = .returned (.bool true) ∧ Below z.heap.size z w') := Lib.hid fun z hz => by
    obtain ⟨a1, a2, a3, a4⟩ := HBD.out z hz
    exact sametok_any (D := Lt M) (E := Lt N) (w := z) (fun b (hb : b < M) => Nat.lt_of_lt_of_le hb a3) (fun b (hb : b < N) => Nat.lt_of_lt_of_le hb a4) a1.t a2.t (by omega)
  clear h h' HBD hcl hml
  obtain ⟨n1, hn1⟩ : ∃ n, R.length = n := ⟨_, rfl⟩
  obtain ⟨n2, hn2⟩ : ∃ n, x.marks.length = n := ⟨_, rfl⟩
  obtain ⟨n3, hn3⟩ : ∃ n, x.counts.length = n := ⟨_, rfl⟩
  obtain ⟨n4, hn4⟩ : ∃ n, x.toks.length = n := ⟨_, rfl⟩
  rw [hn1] at HR ⊢
  rw [hn2] at HM' ⊢
  rw [hn3] at HI ⊢
  rw [hn4] at HT ⊢
  have S0 := (Sep.start w).allocAt hb2 (.cells #[.slice p1 n1 c1, .slice p2 n2 c2, .slice p3 n3 c3, .slice p4 n4 c4] 28)
  have S0 := S0.allocAt (b := b2 + 1) (by simp [hb2]) (.cells #[.slice q1 n1 f1, .slice q2 n2 f2, .slice q3 n3 f3, .slice q4 n4 f4] 28)
  obtain ⟨b3, hb3⟩ : ∃ b, b2 + 1 = b := ⟨_, rfl⟩
  rw [hb3] at S0
  have S0 := Lib.hid S0
  clear hn1 hn2 hn3 hn4 h1 h2 h3 h4
  go_enter Try.func11, Try.ntmps11
  go_upto_region 1 with fail
  refine at_world (fun y => Sep w.heap.size w y [bxL b3 #[.slice q1 n1 f1, .slice q2 n2 f2, .slice q3 n3 f3, .slice q4 n4 f4], bxL b2 #[.slice p1 n1 c1, .slice p2 n2 c2, .slice p3 n3 c3, .slice p4 n4 c4]]) S0.out fun y hy => ?_
  have S1 := Lib.hid hy
  clear hy S0 hb2 hb3
  have T0 := S1
  have x0 : y.cell? ⟨b2, 0, none⟩ = some (.slice p1 n1 c1) := T0.out.tl.boxAt 0
  have y0 : y.cell? ⟨b3, 0, none⟩ = some (.slice q1 n1 f1) := T0.out.boxAt 0
  go_wp2_with fail
  refine (HR.out _ T0.out.bel).mono ?_
  rintro _ z1 ⟨rfl, hb⟩
  have T1 := Lib.hid (T0.out.up hb)
  clear hb
  have x1 : z1.cell? ⟨b2, 1, none⟩ = some (.slice p2 n2 c2) := T1.out.tl.boxAt 1
  have y1 : z1.cell? ⟨b3, 1, none⟩ = some (.slice q2 n2 f2) := T1.out.boxAt 1
  go_wp2_with fail
  refine (HM'.out _ T1.out.bel).mono ?_
  rintro _ z2 ⟨rfl, hb⟩
  have T2 := Lib.hid (T1.out.up hb)
  clear hb
  have x2 : z2.cell? ⟨b2, 2, none⟩ = some (.slice p3 n3 c3) := T2.out.tl.boxAt 2
  have y2 : z2.cell? ⟨b3, 2, none⟩ = some (.slice q3 n3 f3) := T2.out.boxAt 2
  go_wp2_with fail
  refine (HI.out _ T2.out.bel).mono ?_
  rintro _ z3 ⟨rfl, hb⟩
  have T3 := Lib.hid (T2.out.up hb)
  clear hb
  have x3 : z3.cell? ⟨b2, 3, none⟩ = some (.slice p4 n4 c4) := T3.out.tl.boxAt 3
  have y3 : z3.cell? ⟨b3, 3, none⟩ = some (.slice q4 n4 f4) := T3.out.boxAt 3
  go_wp2_with fail
  refine (HT.out _ T3.out.bel).mono ?_
  rintro _ z4 ⟨rfl, hb⟩
  have T4 := Lib.hid (T3.out.up hb)
  clear hb
  go_wp2_with fail
  go_ret
  exact ⟨rfl, T4.out.bel⟩
end Go.Proofs.Ytemkppjdfjoipaa.I1.X
