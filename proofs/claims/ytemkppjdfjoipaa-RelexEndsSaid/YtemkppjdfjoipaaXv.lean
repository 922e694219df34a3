/- Package relex. -/
import Derived.Test.YtemkppjdfjoipaaProg
import Derived.Test.YtemkppjdfjoipaaW32
import Derived.Deep.SlicePairs
import Derived.Deep.Slices
import Derived.Laws.IdiomArrays
import Derived.OpenShut
import Derived.WideBlind
import Derived.Great.BuildSlice
import Derived.WalkKit
import Derived.Maps.OwnSet
import Derived.Maps.OwnOps
import Derived.Maps.Own
import Derived.DeepKeys5
import Derived.BigFrame
import Derived.WalkMore
import Derived.ScopeJumps
import Derived.StillTailTactics
import Derived.Stop.BytesEq
import Derived.WalkLawsBesides
import Derived.WalkSpells
import Derived.Outline
import Derived.Lib.Walk
import Derived.Lib.Hide
import Derived.Lib.Slices
import Derived.Lib.Strings
import Derived.RegionTactic
import Derived.LoopTactic
import Derived.Below
import Derived.IntWalk
import Derived.Deep.QuietTactic
import Derived.BigQuiet
import Derived.Deep.MidRow
import Derived.Maps.AppendAt
import Derived.Laws.Rows
import Derived.Laws.Tables
import Derived.Deep.WholeRow
import Derived.Deep.Cut
import Derived.Deep.CutRange
import Derived.Lib.SliceRun
import Derived.Laws.MakeOwn
import Derived.Deep.RegionLaw
import Derived.Deep.RegionLawGrows
import Derived.Deep.RegionHeld3
import Derived.RegionCalls
import Derived.Deep.RegionWith
import Derived.Deep.Light
import Derived.Laws.CopyOwn
import Derived.Laws.ResultCell
namespace Go.Proofs.Ytemkppjdfjoipaa.I1.X
set_option linter.unusedSimpArgs false
set_option linter.unusedVariables false
set_option maxRecDepth 100000
open Go.RowKit
/- joined: the walk. -/
set_option maxHeartbeats 32000000 in
theorem joined_any {B k told : Nat} {w0 w : World} {o1 o2 o3 o4 : Bool} {v1 v2 v3 v4 : Value} {L : List P3} {vs : List Value} {ms : List Mk} {C : List Int} {T : List Tk} {X : List It} {Lo : List P3} {xo : Lx} {p1 p2 p3 p4 : Option Addr} {c1 c2 c3 c4 : Nat}
    (hx : XS B w0 o1 o2 o3 o4 v1 v2 v3 v4 L vs ms C T) (hk : MkS B w0 X vs ms) (hs : Sep B w0 w (xI o1 o2 o3 o4 v1 v2 v3 v4 L vs ms C T X)) (hold : LV B w0 Lo xo p1 p2 p3 p4 c1 c2 c3 c4)
    (hkl : k < Lo.length) (hml : xo.marks.length = Lo.length + 1) (hcl : xo.counts.length = Lo.length + 1) (hct : xo.counts[k]? = some (told : Int)) (htl : told < xo.toks.length) (b1 : L.length ≤ 100000000) (b2 : ms.length ≤ 100000000) (b3' : C.length ≤ 100000000) (b4' : T.length ≤ 300000000) (b5 : Lo.length ≤ 100000000) (b6' : xo.toks.length ≤ 300000000) (hcb : ∀ c ∈ xo.counts, 0 ≤ c ∧ c ≤ 300000000) :
    Calls Try.prog 67 #[.agg #[v1, v2, v3, v4], .agg #[.slice p1 Lo.length c1, .slice p2 xo.marks.length c2, .slice p3 xo.counts.length c3, .slice p4 xo.toks.length c4], .int .i64 (k : Nat)] w (JnP B w0 X L vs ms C T Lo xo k told) := by
  have hz := zero28
  obtain ⟨i1, hi1, ha0, ha1, ha2⟩ := info_parts info26z
  obtain ⟨i2, hi2, hb0, hb1, hb2⟩ := info_parts info24z
  obtain ⟨i3, hi3, hc0, hc1, hc2⟩ := info_parts info3b
  obtain ⟨i4, hi4, hd0, hd1, hd2⟩ := info_parts info35
  -- the old lists
  have hg1 := (RW.wv hold.r)
  obtain ⟨bo1, oo1, e1, hbo1, hy1⟩ := gv_drop (D := Lt B) (xs := rwL (Lo.map tR)) (k := k * 3) (fun hn => by
    have := WV.gv hg1
    rw [tkL_rwL] at this
    exact this hn) (by rw [rwL_len, List.length_map]; omega)
  obtain ⟨bo2, oo2, vso, e2, hbo2, hms2, hvs2, hy2⟩ := mv_row2 X hold.m (by intro e; rw [e] at hml; simp at hml)
  obtain ⟨bo3, oo3, e3, hbo3, hy3⟩ := gv_drop (D := Lt B) (xs := zi xo.counts) (k := k + 1) (IV.gv hold.k) (by rw [zi_length]; omega)
  obtain ⟨bo4, oo4, e4, hbo4, hy4⟩ := gv_drop (D := Lt B) (xs := tkL xo.toks) (k := told * 3) (WV.gv hold.t) (by rw [tkL_len]; omega)
  have hcount : w0.cell? ⟨bo3, oo3 + k, none⟩ = some (.int .i64 (told : Int)) := by
    obtain ⟨_, b, o, e, hb, hc⟩ := rowlt_iv hold.k hct
    rw [e3] at e
    injection e with e
    injection e with e5 e6
    rw [e5, e6]; exact hc
  subst e1 e2 e3 e4
  rw [rwL_drop, ← List.map_drop] at hy1
  rw [show told * 3 = told * 3 from rfl, tkL_rwL, rwL_drop, ← tkL_rwL] at hy4
  have hy2' : ∀ j u, (mkL (vso.drop (k + 1)) (xo.marks.drop (k + 1)))[j]? = some u → w0.cell? ⟨bo2, oo2 + (k + 1) * 5 + j, none⟩ = some u := fun j u hu => by
    rw [← mkL_drop _ _ _ hms2.1, List.getElem?_drop] at hu
    rw [Nat.add_assoc]; exact hy2 _ _ hu
  have hmd := hms2.drop (k + 1)
  have hone2 : ∀ v ∈ vso.drop (k + 1), ∃ q n f, v = .slice q n f := fun v hv => hvs2 v (List.mem_of_mem_drop hv)
  have hzd : (zi xo.counts).drop (k + 1) = zi (xo.counts.drop (k + 1)) := by simp [zi]
  rw [hzd] at hy3
  have hl1 : (rwL ((Lo.drop k).map tR)).length = (Lo.length - k) * 3 := by rw [rwL_len, List.length_map, List.length_drop]
  have hl2 : (mkL (vso.drop (k + 1)) (xo.marks.drop (k + 1))).length = (Lo.length - k) * 5 := by rw [mkL_len hmd.1, List.length_drop, hml]; congr 1; omega
  have hl3 : (xo.counts.drop (k + 1)).length = Lo.length - k := by rw [List.length_drop, hcl]; omega
  have hl4 : (tkL (xo.toks.drop told)).length = (xo.toks.length - told) * 3 := by rw [tkL_len, List.length_drop]
  have hn1 : ∀ u ∈ rwL ((Lo.drop k).map tR), u.oneCell' = true := rwL_one _
  have hn2 : ∀ u ∈ mkL (vso.drop (k + 1)) (xo.marks.drop (k + 1)), u.oneCell' = true := mkL_one hone2
  have hn4 : ∀ u ∈ tkL (xo.toks.drop told), u.oneCell' = true := fun u hu => by obtain ⟨t, _, ht⟩ := List.mem_flatMap.1 hu; exact tk_one t u ht
  have hcb2 : ∀ c ∈ xo.counts.drop (k + 1), 0 ≤ c ∧ c ≤ 300000000 := fun c hc => hcb c (List.mem_of_mem_drop hc)
  -- the new ones
  obtain ⟨q1, k1, ev1, g1, -, -⟩ := hx.f1.at_ hs
  obtain ⟨q2, k2, ev2, g2, -, -⟩ := hx.f2.at_ hs.tl
  obtain ⟨q3, k3, ev3, g3, -, -⟩ := hx.f3.at_ hs.tl.tl
  obtain ⟨q4, k4, ev4, g4, -, -⟩ := hx.f4.at_ hs.tl.tl.tl
  subst ev1 ev2 ev3 ev4
  have F1 := Lib.hid hx.f1
  have F2 := Lib.hid hx.f2
  have F3 := Lib.hid hx.f3
  have F4 := Lib.hid hx.f4
  have HK := Lib.hid hk
  have HMD := Lib.hid hmd
  have hh2 := hold.h1
  have hh3 := hold.h2
  have hh4 := hold.h3
  have hh5 := hold.h4
  have S0 := Lib.hid hs
  have HFIN : Hid (∀ (w' : World) (u1 u2 u3 u4 : Value), Sep B w0 w' (fr true u1 38 3 (L.length + (Lo.length - k)) (rwL (L.map tR) ++ rwL ((Lo.drop k).map tR)) :: fr true u2 36 5 (ms.length + (Lo.length - k)) (mkL vs ms ++ mkL (vso.drop (k + 1)) (xo.marks.drop (k + 1))) :: fr true u3 3 1 (C.length + (Lo.length - k)) (zi (C ++ (xo.counts.drop (k + 1)).map (fun c => c + ((T.length : Int) - (told : Int))))) :: fr true u4 40 3 (T.length + (xo.toks.length - told)) (tkL T ++ tkL (xo.toks.drop told)) :: X) → JnP B w0 X L vs ms C T Lo xo k told (.returned (.agg #[u1, u2, u3, u4])) w') := Lib.hid (fun w' u1 u2 u3 u4 h => by
    have a1 : rwL (L.map tR) ++ rwL ((Lo.drop k).map tR) = rwL ((L ++ Lo.drop k).map tR) := by simp [rwL]
    have a2 : mkL vs ms ++ mkL (vso.drop (k + 1)) (xo.marks.drop (k + 1)) = mkL (vs ++ vso.drop (k + 1)) (ms ++ xo.marks.drop (k + 1)) := (mkL_app hk.1).symm
    have a4 : tkL T ++ tkL (xo.toks.drop told) = tkL (T ++ xo.toks.drop told) := (tkL_app _ _).symm
    have m1 : L.length + (Lo.length - k) = (L ++ Lo.drop k).length := by simp
    have m2 : ms.length + (Lo.length - k) = (ms ++ xo.marks.drop (k + 1)).length := by rw [List.length_append, List.length_drop, hml]; omega
    have m3 : C.length + (Lo.length - k) = (C ++ (xo.counts.drop (k + 1)).map (fun c => c + ((T.length : Int) - (told : Int)))).length := by rw [List.length_append, List.length_map, hl3]
    have m4 : T.length + (xo.toks.length - told) = (T ++ xo.toks.drop told).length := by simp
    rw [a1, a2, a4, m1, m2, m3, m4] at h
    exact ⟨u1, u2, u3, u4, vso.drop (k + 1), rfl, ⟨Fr.own h, Fr.own h.tl, Fr.own h.tl.tl, Fr.own h.tl.tl.tl⟩, hk.app hmd, h⟩)
  have HLOW : Hid (∀ z Y, Sep B w0 z Y → ∀ b, b < B → ∀ o v, w0.cell? ⟨b, o, none⟩ = some v → z.cell? ⟨b, o, none⟩ = some v) := Lib.hid fun z Y hz b hb o v h => (cell_same (hz.bel.block b hb) _).trans h
  have HY1 := Lib.hid hy1
  have HY2 := Lib.hid hy2'
  have HY3 := Lib.hid hy3
  have HY4 := Lib.hid hy4
  have HCT := Lib.hid hcount
  obtain ⟨x1, hx1⟩ : ∃ x, rwL (L.map tR) = x := ⟨_, rfl⟩
  obtain ⟨x2, hx2⟩ : ∃ x, mkL vs ms = x := ⟨_, rfl⟩
  obtain ⟨x4, hx4⟩ : ∃ x, tkL T = x := ⟨_, rfl⟩
  obtain ⟨y1, hyy1⟩ : ∃ x, rwL ((Lo.drop k).map tR) = x := ⟨_, rfl⟩
  obtain ⟨y2, hyy2⟩ : ∃ x, mkL (vso.drop (k + 1)) (xo.marks.drop (k + 1)) = x := ⟨_, rfl⟩
  obtain ⟨y3, hyy3⟩ : ∃ x, xo.counts.drop (k + 1) = x := ⟨_, rfl⟩
  obtain ⟨y4', hyy4⟩ : ∃ x, tkL (xo.toks.drop told) = x := ⟨_, rfl⟩
  unfold xI at S0
  rw [hx1] at F1 S0 HFIN
  rw [hx2] at F2 S0 HFIN
  rw [hx4] at F4 S0 HFIN
  rw [hyy1] at hl1 hn1 HY1 HFIN
  rw [hyy2] at hl2 hn2 HY2 HFIN
  rw [hyy3] at hl3 HY3 hcb2 HFIN
  rw [hyy4] at hl4 hn4 HY4 HFIN
  obtain ⟨n1, hn9⟩ : ∃ n, L.length = n := ⟨_, rfl⟩
  rw [hn9] at F1 S0 HFIN b1 g1 ⊢
  clear hn9
  obtain ⟨n2, hn9⟩ : ∃ n, ms.length = n := ⟨_, rfl⟩
  rw [hn9] at F2 S0 HFIN b2 g2 ⊢
  clear hn9
  obtain ⟨n3, hn9⟩ : ∃ n, C.length = n := ⟨_, rfl⟩
  rw [hn9] at F3 S0 HFIN b3' g3 ⊢
  clear hn9
  obtain ⟨n4, hn9⟩ : ∃ n, T.length = n := ⟨_, rfl⟩
  rw [hn9] at F4 S0 HFIN b4' g4 ⊢
  clear hn9
  obtain ⟨lo, hlo⟩ : ∃ n, Lo.length = n := ⟨_, rfl⟩
  obtain ⟨lt, hlt⟩ : ∃ n, xo.toks.length = n := ⟨_, rfl⟩
  rw [hml, hcl]
  rw [hml] at hh3
  rw [hcl] at hh4
  rw [hlo] at hkl hl1 hl2 hl3 HFIN b5 hh2 hh3 hh4 ⊢
  rw [hlt] at htl hl4 HFIN b6' hh5 ⊢
  obtain ⟨m1, hm1⟩ : ∃ m, lo - k = m := ⟨_, rfl⟩
  obtain ⟨m4, hm4⟩ : ∃ m, lt - told = m := ⟨_, rfl⟩
  rw [hm1] at hl1 hl2 hl3 HFIN
  rw [hm4] at hl4 HFIN
  clear hx hk hs hold hml hcl hct hcb hg1 hy1 hms2 hvs2 hy2 hy3 hy4 hy2' hcount hmd hone2 hzd hx1 hx2 hx4 hyy1 hyy2 hyy4 hlo hlt HMD
  obtain ⟨bx, hbx⟩ : ∃ b, w.heap.size = b := ⟨_, rfl⟩
  have SA := ((S0.out.allocAt hbx (.cells #[.slice q1 n1 k1, .slice q2 n2 k2, .slice q3 n3 k3, .slice q4 n4 k4] 28)).allocAt (b := bx + 1) (by simp [hbx]) (.cells #[.slice (some ⟨bo1, oo1, none⟩) lo c1, .slice (some ⟨bo2, oo2, none⟩) (lo + 1) c2, .slice (some ⟨bo3, oo3, none⟩) (lo + 1) c3, .slice (some ⟨bo4, oo4, none⟩) lt c4] 28)).allocAt (b := bx + 1 + 1) (by simp [hbx]) (.cells zL 28)
  obtain ⟨b3, hb3⟩ : ∃ b, bx = b := ⟨_, rfl⟩
  obtain ⟨b4, hb4⟩ : ∃ b, bx + 1 = b := ⟨_, rfl⟩
  obtain ⟨b6, hb6⟩ : ∃ b, b4 + 1 = b := ⟨_, rfl⟩
  rw [hb4, hb6] at SA
  rw [hb3] at SA hbx hb4
  have SA := Lib.hid SA
  clear hb3 S0
  go_enter Try.func67, Try.ntmps67
  go_upto_region 1 with fail
  clear hb4 hb6 hbx
  refine at_world (fun y => Sep B w0 y (bxL b6 zL :: bxL b4 #[.slice (some ⟨bo1, oo1, none⟩) lo c1, .slice (some ⟨bo2, oo2, none⟩) (lo + 1) c2, .slice (some ⟨bo3, oo3, none⟩) (lo + 1) c3, .slice (some ⟨bo4, oo4, none⟩) lt c4] :: bxL b3 #[.slice q1 n1 k1, .slice q2 n2 k2, .slice q3 n3 k3, .slice q4 n4 k4] :: fr o1 (.slice q1 n1 k1) 38 3 n1 x1 :: fr o2 (.slice q2 n2 k2) 36 5 n2 x2 :: fr o3 (.slice q3 n3 k3) 3 1 n3 (zi C) :: fr o4 (.slice q4 n4 k4) 40 3 n4 x4 :: X)) SA.out fun y hy => ?_
  have y2 : y.cell? ⟨b4, 2, none⟩ = some (.slice (some ⟨bo3, oo3, none⟩) (lo + 1) c3) := hy.tl.boxAt 2
  have yc := HLOW.out _ _ hy bo3 hbo3 _ _ HCT.out
  have y3 : y.cell? ⟨b3, 3, none⟩ = some (.slice q4 n4 k4) := hy.tl.tl.boxAt 3
  have SB := Lib.hid hy
  clear hy SA HCT
  have kI : (k : Int) < ((lo + 1 : Nat) : Int) := by omega
  have kI2 : (k : Int) < (lo : Int) + 1 := by omega
  have kI0 : ¬ (k : Int) < 0 := by omega
  have sT : IntKind.i64.wrap ((n4 : Int) - (told : Int)) = (n4 : Int) - (told : Int) := IntWalk.i64_in _ (by omega)
  go_upto_region 3 with fail
  have z0 : y.cell? ⟨b3, 0, none⟩ = some (.slice q1 n1 k1) := SB.out.tl.tl.boxAt 0
  have z1 : y.cell? ⟨b4, 0, none⟩ = some (.slice (some ⟨bo1, oo1, none⟩) lo c1) := SB.out.tl.boxAt 0
  have jx1 : (k : Int) ≤ (lo : Int) := by omega
  have jx2 : (lo : Int) ≤ (c1 : Int) := by omega
  have jx3 : ¬ c1 = k := by omega
  have jx4 : (0 : Int) ≤ (k : Int) := by omega
  have hN1 : Hid (∀ (z : World) (Y : List It), Sep B w0 z Y → ∀ j u, y1[j]? = some u → z.cell? ((⟨bo1, oo1 + k * 3, none⟩ : Addr).add j) = some u) := Lib.hid fun z Y hz j u hu => by rw [Addr.add_mid]; exact HLOW.out z Y hz bo1 hbo1 _ _ (HY1.out j u hu)
  clear y2 yc y3
  have SB1 := Lib.hid (SB.out.drew.to 3 (by simp))
  have L1 : Hid (∀ (z : World) (u : Value), Sep B w0 z (.row u 38 3 (n1 + m1) (x1 ++ y1) :: bxL b6 zL :: bxL b4 #[.slice (some ⟨bo1, oo1, none⟩) lo c1, .slice (some ⟨bo2, oo2, none⟩) (lo + 1) c2, .slice (some ⟨bo3, oo3, none⟩) (lo + 1) c3, .slice (some ⟨bo4, oo4, none⟩) lt c4] :: bxL b3 #[.slice q1 n1 k1, .slice q2 n2 k2, .slice q3 n3 k3, .slice q4 n4 k4] :: fr o2 (.slice q2 n2 k2) 36 5 n2 x2 :: fr o3 (.slice q3 n3 k3) 3 1 n3 (zi C) :: fr o4 (.slice q4 n4 k4) 40 3 n4 x4 :: X) → Sep B w0 z (bxL b6 zL :: bxL b4 #[.slice (some ⟨bo1, oo1, none⟩) lo c1, .slice (some ⟨bo2, oo2, none⟩) (lo + 1) c2, .slice (some ⟨bo3, oo3, none⟩) (lo + 1) c3, .slice (some ⟨bo4, oo4, none⟩) lt c4] :: bxL b3 #[.slice q1 n1 k1, .slice q2 n2 k2, .slice q3 n3 k3, .slice q4 n4 k4] :: .row u 38 3 (n1 + m1) (x1 ++ y1) :: fr o2 (.slice q2 n2 k2) 36 5 n2 x2 :: fr o3 (.slice q3 n3 k3) 3 1 n3 (zi C) :: fr o4 (.slice q4 n4 k4) 40 3 n4 x4 :: X)) := Lib.hid fun z u h => h.perm (List.perm_middle (l₁ := [_, _, _])).symm
  have m1pos : 0 < m1 := by omega
  have m1b : n1 + m1 ≤ 1000000000 := by omega
  go_cut [] from 21 to 28 (fun wx => ∃ r1 j1, Hid (Fr B w0 true (.slice r1 (n1 + m1) j1) 3 (n1 + m1) (x1 ++ y1)) ∧ Hid (Sep B w0 wx (bxL b6 zL :: bxL b4 #[.slice (some ⟨bo1, oo1, none⟩) lo c1, .slice (some ⟨bo2, oo2, none⟩) (lo + 1) c2, .slice (some ⟨bo3, oo3, none⟩) (lo + 1) c3, .slice (some ⟨bo4, oo4, none⟩) lt c4] :: bxL b3 #[.slice r1 (n1 + m1) j1, .slice q2 n2 k2, .slice q3 n3 k3, .slice q4 n4 k4] :: fr true (.slice r1 (n1 + m1) j1) 38 3 (n1 + m1) (x1 ++ y1) :: fr o2 (.slice q2 n2 k2) 36 5 n2 x2 :: fr o3 (.slice q3 n3 k3) 3 1 n3 (zi C) :: fr o4 (.slice q4 n4 k4) 40 3 n4 x4 :: X)))
  case first =>
   go_region_law (refine step_append_fr rfl (.tmp 22) (.tmp 26) 22 rfl i1 _ 24 Try.underlying22 hi1 ha0 ha1 ha2 rfl (by decide) F1.out SB1.out (by simp [Act.eval, Act.put]) ⟨bo1, oo1 + k * 3, none⟩ m1 (c1 - k) m1pos y1 (by simp [Act.eval, Act.put, hm1]) hl1 (hN1.out _ _ SB1.out) hn1 m1b (by decide) ?_; intro u1 w3 hs3 hf3; obtain ⟨r1, j1, rfl⟩ := row_form hs3.at; have S3 := Lib.hid (L1.out _ _ hs3); have F5 := Lib.hid hf3; have hc9 : w3.cell? ⟨b3, 0, none⟩ = some (.slice q1 n1 k1) := S3.out.tl.tl.boxAt 0; have hf9 : w3.frozen? ⟨b3, 0, none⟩ = false := S3.out.tl.tl.fz 0)
   all_goals
    have S4 := Lib.hid (S3.out.setAt [_, _] 0 (.slice r1 (n1 + m1) j1))
    go_wp2_with fail
    go_meet
    case rel => exact ⟨r1, j1, F5, S4⟩
  case rest =>
    obtain ⟨r1, j1, F5, SC⟩ := hcut
    obtain ⟨y4, rfl⟩ : ∃ y : World, y = wc := ⟨_, rfl⟩
    have w1c : y4.cell? ⟨b3, 1, none⟩ = some (.slice q2 n2 k2) := SC.out.tl.tl.boxAt 1
    have w1o : y4.cell? ⟨b4, 1, none⟩ = some (.slice (some ⟨bo2, oo2, none⟩) (lo + 1) c2) := SC.out.tl.boxAt 1
    have sk : IntKind.i64.wrap ((k : Int) + 1) = (k : Int) + 1 := IntWalk.i64_in _ (by omega)
    have jy1 : (k : Int) + 1 ≤ (lo : Int) + 1 := by omega
    have jy2 : (lo : Int) + 1 ≤ (c2 : Int) := by omega
    have jy3 : ¬ c2 = k + 1 := by omega
    have jy4 : (0 : Int) ≤ (k : Int) + 1 := by omega
    have hm1b : lo + 1 - (k + 1) = m1 := by omega
    have hN2 : Hid (∀ (z : World) (Y : List It), Sep B w0 z Y → ∀ j u, y2[j]? = some u → z.cell? ((⟨bo2, oo2 + (k + 1) * 5, none⟩ : Addr).add j) = some u) := Lib.hid fun z Y hz j u hu => by rw [Addr.add_mid]; exact HLOW.out z Y hz bo2 hbo2 _ _ (HY2.out j u hu)
    have SC1 := Lib.hid (SC.out.drew.to 4 (by simp))
    have L2 : Hid (∀ (z : World) (u : Value), Sep B w0 z (.row u 36 5 (n2 + m1) (x2 ++ y2) :: bxL b6 zL :: bxL b4 #[.slice (some ⟨bo1, oo1, none⟩) lo c1, .slice (some ⟨bo2, oo2, none⟩) (lo + 1) c2, .slice (some ⟨bo3, oo3, none⟩) (lo + 1) c3, .slice (some ⟨bo4, oo4, none⟩) lt c4] :: bxL b3 #[.slice r1 (n1 + m1) j1, .slice q2 n2 k2, .slice q3 n3 k3, .slice q4 n4 k4] :: fr true (.slice r1 (n1 + m1) j1) 38 3 (n1 + m1) (x1 ++ y1) :: fr o3 (.slice q3 n3 k3) 3 1 n3 (zi C) :: fr o4 (.slice q4 n4 k4) 40 3 n4 x4 :: X) → Sep B w0 z (bxL b6 zL :: bxL b4 #[.slice (some ⟨bo1, oo1, none⟩) lo c1, .slice (some ⟨bo2, oo2, none⟩) (lo + 1) c2, .slice (some ⟨bo3, oo3, none⟩) (lo + 1) c3, .slice (some ⟨bo4, oo4, none⟩) lt c4] :: bxL b3 #[.slice r1 (n1 + m1) j1, .slice q2 n2 k2, .slice q3 n3 k3, .slice q4 n4 k4] :: fr true (.slice r1 (n1 + m1) j1) 38 3 (n1 + m1) (x1 ++ y1) :: .row u 36 5 (n2 + m1) (x2 ++ y2) :: fr o3 (.slice q3 n3 k3) 3 1 n3 (zi C) :: fr o4 (.slice q4 n4 k4) 40 3 n4 x4 :: X)) := Lib.hid fun z u h => h.perm (List.perm_middle (l₁ := [_, _, _, _])).symm
    have m2b : n2 + m1 ≤ 1000000000 := by omega
    go_upto_region 4 with fail
    go_cut [] from 29 to 37 (fun wx => ∃ r2 j2, Hid (Fr B w0 true (.slice r2 (n2 + m1) j2) 5 (n2 + m1) (x2 ++ y2)) ∧ Hid (Sep B w0 wx (bxL b6 zL :: bxL b4 #[.slice (some ⟨bo1, oo1, none⟩) lo c1, .slice (some ⟨bo2, oo2, none⟩) (lo + 1) c2, .slice (some ⟨bo3, oo3, none⟩) (lo + 1) c3, .slice (some ⟨bo4, oo4, none⟩) lt c4] :: bxL b3 #[.slice r1 (n1 + m1) j1, .slice r2 (n2 + m1) j2, .slice q3 n3 k3, .slice q4 n4 k4] :: fr true (.slice r1 (n1 + m1) j1) 38 3 (n1 + m1) (x1 ++ y1) :: fr true (.slice r2 (n2 + m1) j2) 36 5 (n2 + m1) (x2 ++ y2) :: fr o3 (.slice q3 n3 k3) 3 1 n3 (zi C) :: fr o4 (.slice q4 n4 k4) 40 3 n4 x4 :: X)))
    case first =>
     go_region_law (refine step_append_fr rfl (.tmp 30) (.tmp 35) 24 rfl i2 _ 56 Try.underlying24 hi2 hb0 hb1 hb2 rfl (by decide) F2.out SC1.out (by simp [Act.eval, Act.put]) ⟨bo2, oo2 + (k + 1) * 5, none⟩ m1 (c2 - (k + 1)) m1pos y2 (by simp [Act.eval, Act.put, hm1b, hm1]) hl2 (hN2.out _ _ SC1.out) hn2 m2b (by decide) ?_; intro u2 w3 hs3 hf3; obtain ⟨r2, j2, rfl⟩ := row_form hs3.at; have S3 := Lib.hid (L2.out _ _ hs3); have F6 := Lib.hid hf3; have hc9 : w3.cell? ⟨b3, 1, none⟩ = some (.slice q2 n2 k2) := S3.out.tl.tl.boxAt 1; have hf9 : w3.frozen? ⟨b3, 1, none⟩ = false := S3.out.tl.tl.fz 1)
     all_goals
      have S4 := Lib.hid (S3.out.setAt [_, _] 1 (.slice r2 (n2 + m1) j2))
      go_wp2_with fail
      go_meet
      case rel => exact ⟨r2, j2, F6, S4⟩
    case rest =>
      obtain ⟨r2, j2, F6, SD⟩ := hcut
      obtain ⟨y5, rfl⟩ : ∃ y : World, y = wc := ⟨_, rfl⟩
      have w3c : y5.cell? ⟨b3, 3, none⟩ = some (.slice q4 n4 k4) := SD.out.tl.tl.boxAt 3
      have w3o : y5.cell? ⟨b4, 3, none⟩ = some (.slice (some ⟨bo4, oo4, none⟩) lt c4) := SD.out.tl.boxAt 3
      have jz1 : (told : Int) ≤ (lt : Int) := by omega
      have jz2 : (lt : Int) ≤ (c4 : Int) := by omega
      have jz3 : ¬ c4 = told := by omega
      have jz4 : (0 : Int) ≤ (told : Int) := by omega
      have hN4 : Hid (∀ (z : World) (Y : List It), Sep B w0 z Y → ∀ j u, y4'[j]? = some u → z.cell? ((⟨bo4, oo4 + told * 3, none⟩ : Addr).add j) = some u) := Lib.hid fun z Y hz j u hu => by rw [Addr.add_mid]; exact HLOW.out z Y hz bo4 hbo4 _ _ (HY4.out j u hu)
      have SD1 := Lib.hid (SD.out.drew.to 6 (by simp))
      have L4 : Hid (∀ (z : World) (u : Value), Sep B w0 z (.row u 40 3 (n4 + m4) (x4 ++ y4') :: bxL b6 zL :: bxL b4 #[.slice (some ⟨bo1, oo1, none⟩) lo c1, .slice (some ⟨bo2, oo2, none⟩) (lo + 1) c2, .slice (some ⟨bo3, oo3, none⟩) (lo + 1) c3, .slice (some ⟨bo4, oo4, none⟩) lt c4] :: bxL b3 #[.slice r1 (n1 + m1) j1, .slice r2 (n2 + m1) j2, .slice q3 n3 k3, .slice q4 n4 k4] :: fr true (.slice r1 (n1 + m1) j1) 38 3 (n1 + m1) (x1 ++ y1) :: fr true (.slice r2 (n2 + m1) j2) 36 5 (n2 + m1) (x2 ++ y2) :: fr o3 (.slice q3 n3 k3) 3 1 n3 (zi C) :: X) → Sep B w0 z (bxL b6 zL :: bxL b4 #[.slice (some ⟨bo1, oo1, none⟩) lo c1, .slice (some ⟨bo2, oo2, none⟩) (lo + 1) c2, .slice (some ⟨bo3, oo3, none⟩) (lo + 1) c3, .slice (some ⟨bo4, oo4, none⟩) lt c4] :: bxL b3 #[.slice r1 (n1 + m1) j1, .slice r2 (n2 + m1) j2, .slice q3 n3 k3, .slice q4 n4 k4] :: fr true (.slice r1 (n1 + m1) j1) 38 3 (n1 + m1) (x1 ++ y1) :: fr true (.slice r2 (n2 + m1) j2) 36 5 (n2 + m1) (x2 ++ y2) :: fr o3 (.slice q3 n3 k3) 3 1 n3 (zi C) :: .row u 40 3 (n4 + m4) (x4 ++ y4') :: X)) := Lib.hid fun z u h => h.perm (List.perm_middle (l₁ := [_, _, _, _, _, _])).symm
      have m4pos : 0 < m4 := by omega
      have m4b : n4 + m4 ≤ 1000000000 := by omega
      go_upto_region 5 with fail
      go_cut [] from 38 to 45 (fun wx => ∃ r4 j4, Hid (Fr B w0 true (.slice r4 (n4 + m4) j4) 3 (n4 + m4) (x4 ++ y4')) ∧ Hid (Sep B w0 wx (bxL b6 zL :: bxL b4 #[.slice (some ⟨bo1, oo1, none⟩) lo c1, .slice (some ⟨bo2, oo2, none⟩) (lo + 1) c2, .slice (some ⟨bo3, oo3, none⟩) (lo + 1) c3, .slice (some ⟨bo4, oo4, none⟩) lt c4] :: bxL b3 #[.slice r1 (n1 + m1) j1, .slice r2 (n2 + m1) j2, .slice q3 n3 k3, .slice r4 (n4 + m4) j4] :: fr true (.slice r1 (n1 + m1) j1) 38 3 (n1 + m1) (x1 ++ y1) :: fr true (.slice r2 (n2 + m1) j2) 36 5 (n2 + m1) (x2 ++ y2) :: fr o3 (.slice q3 n3 k3) 3 1 n3 (zi C) :: fr true (.slice r4 (n4 + m4) j4) 40 3 (n4 + m4) (x4 ++ y4') :: X)))
      case first =>
       go_region_law (refine step_append_fr rfl (.tmp 39) (.tmp 43) 26 rfl i4 _ 24 Try.underlying26 hi4 hd0 hd1 hd2 rfl (by decide) F4.out SD1.out (by simp [Act.eval, Act.put]) ⟨bo4, oo4 + told * 3, none⟩ m4 (c4 - told) m4pos y4' (by simp [Act.eval, Act.put, hm4]) hl4 (hN4.out _ _ SD1.out) hn4 m4b (by decide) ?_; intro u4 w3 hs3 hf3; obtain ⟨r4, j4, rfl⟩ := row_form hs3.at; have S3 := Lib.hid (L4.out _ _ hs3); have F8 := Lib.hid hf3; have hc9 : w3.cell? ⟨b3, 3, none⟩ = some (.slice q4 n4 k4) := S3.out.tl.tl.boxAt 3; have hf9 : w3.frozen? ⟨b3, 3, none⟩ = false := S3.out.tl.tl.fz 3)
       all_goals
        have S4 := Lib.hid (S3.out.setAt [_, _] 3 (.slice r4 (n4 + m4) j4))
        go_wp2_with fail
        go_meet
        case rel => exact ⟨r4, j4, F8, S4⟩
      case rest =>
        obtain ⟨r4, j4, F8, SE⟩ := hcut
        obtain ⟨y6, rfl⟩ : ∃ y : World, y = wc := ⟨_, rfl⟩
        clear w3c w3o
        have S7 : Hid (Sep B w0 y6 (bxL b6 zL :: bxL b4 #[.slice (some ⟨bo1, oo1, none⟩) lo c1, .slice (some ⟨bo2, oo2, none⟩) (lo + 1) c2, .slice (some ⟨bo3, oo3, none⟩) (lo + 1) c3, .slice (some ⟨bo4, oo4, none⟩) lt c4] :: bxL b3 #[.slice r1 (n1 + m1) j1, .slice r2 (n2 + m1) j2, (.slice q3 n3 k3), .slice r4 (n4 + m4) j4] :: fr true (.slice r1 (n1 + m1) j1) 38 3 (n1 + m1) (x1 ++ y1) :: fr true (.slice r2 (n2 + m1) j2) 36 5 (n2 + m1) (x2 ++ y2) :: fr true (.slice r4 (n4 + m4) j4) 40 3 (n4 + m4) (x4 ++ y4') :: fr o3 (.slice q3 n3 k3) 3 1 n3 (zi C) :: X)) := Lib.hid ((SE.out.perm ((((List.Perm.swap (fr true (.slice r4 (n4 + m4) j4) 40 3 (n4 + m4) (x4 ++ y4')) (fr o3 (.slice q3 n3 k3) 3 1 n3 (zi C)) X).cons _).cons _).cons _ |>.cons _ |>.cons _)))
        have c2' : y6.cell? ⟨b4, 2, none⟩ = some (.slice (some ⟨bo3, oo3, none⟩) (lo + 1) c3) := SE.out.tl.boxAt 2
        have jw1 : (k : Int) + 1 ≤ (lo : Int) + 1 := by omega
        have jw2 : (lo : Int) + 1 ≤ (c3 : Int) := by omega
        have jw3 : ¬ c3 = k + 1 := by omega
        have jw4 : (0 : Int) ≤ (k : Int) + 1 := by omega
        have hm3b : lo + 1 - (k + 1) = m1 := by omega
        have hN3 : Hid (∀ (z : World) (Y : List It), Sep B w0 z Y → ∀ j u, (zi y3)[j]? = some u → z.cell? ⟨bo3, oo3 + (k + 1) + j, none⟩ = some u) := Lib.hid fun z Y hz j u hu => HLOW.out z Y hz bo3 hbo3 _ _ (HY3.out j u hu)
        have F3' : Hid (Fr B w0 o3 (.slice q3 n3 k3) 1 (n3 + 0) (zi (C ++ (y3.take 0).map (fun c => c + ((n4 : Int) - (told : Int)))))) := Lib.hid (by simpa using F3.out)
        have S7' : Hid (Sep B w0 y6 (bxL b6 zL :: bxL b4 #[.slice (some ⟨bo1, oo1, none⟩) lo c1, .slice (some ⟨bo2, oo2, none⟩) (lo + 1) c2, .slice (some ⟨bo3, oo3, none⟩) (lo + 1) c3, .slice (some ⟨bo4, oo4, none⟩) lt c4] :: bxL b3 #[.slice r1 (n1 + m1) j1, .slice r2 (n2 + m1) j2, (.slice q3 n3 k3), .slice r4 (n4 + m4) j4] :: fr true (.slice r1 (n1 + m1) j1) 38 3 (n1 + m1) (x1 ++ y1) :: fr true (.slice r2 (n2 + m1) j2) 36 5 (n2 + m1) (x2 ++ y2) :: fr true (.slice r4 (n4 + m4) j4) 40 3 (n4 + m4) (x4 ++ y4') :: fr o3 (.slice q3 n3 k3) 3 1 (n3 + 0) (zi (C ++ (y3.take 0).map (fun c => c + ((n4 : Int) - (told : Int))))) :: X)) := Lib.hid (by simpa using S7.out)
        have HY3L := Lib.hid hl3
        have HCB := Lib.hid hcb2
        clear S7 SE SD SC SB SB1 SC1 SD1 hN1 hN2 hN4 L1 L2 L4 F3 HY3 HY1 HY2 HY4
        go_upto_region 7 with fail
        clear c2' jw1 jw2 jw3 jw4
        clear hm3b
        go_loopw [10, 52] (fun _ i wr => ∃ (j : Nat) (o3' : Bool) (v3 : Value), i = .int .i64 (j : Nat) ∧ j ≤ m1 ∧ (0 < j → o3' = true) ∧ Hid (Fr B w0 o3' v3 1 (n3 + j) (zi (C ++ (y3.take j).map (fun c => c + ((n4 : Int) - (told : Int)))))) ∧ Hid (Sep B w0 wr (bxL b6 zL :: bxL b4 #[.slice (some ⟨bo1, oo1, none⟩) lo c1, .slice (some ⟨bo2, oo2, none⟩) (lo + 1) c2, .slice (some ⟨bo3, oo3, none⟩) (lo + 1) c3, .slice (some ⟨bo4, oo4, none⟩) lt c4] :: bxL b3 #[.slice r1 (n1 + m1) j1, .slice r2 (n2 + m1) j2, v3, .slice r4 (n4 + m4) j4] :: fr true (.slice r1 (n1 + m1) j1) 38 3 (n1 + m1) (x1 ++ y1) :: fr true (.slice r2 (n2 + m1) j2) 36 5 (n2 + m1) (x2 ++ y2) :: fr true (.slice r4 (n4 + m4) j4) 40 3 (n4 + m4) (x4 ++ y4') :: fr o3' v3 3 1 (n3 + j) (zi (C ++ (y3.take j).map (fun c => c + ((n4 : Int) - (told : Int))))) :: X))) (fun _ i _ => m1 - (intOf i).toNat)
        case atStart => exact ⟨0, o3, _, rfl, by omega, fun h => by omega, F3', S7'⟩
        case round =>
          clear F3' S7'
          obtain ⟨j, o3', v3, rfl, hj, ho3, HF, HS⟩ := hrel
          obtain ⟨wo, rfl⟩ : ∃ wo : World, wo = wr := ⟨_, rfl⟩
          obtain ⟨Cj, hCj⟩ : ∃ x, zi (C ++ (y3.take j).map (fun c => c + ((n4 : Int) - (told : Int)))) = x := ⟨_, rfl⟩
          rw [hCj] at HF HS
          have HCJ := Lib.hid hCj
          clear hCj
          by_cases hlt : j < m1
          · have hjl : j < y3.length := by rw [HY3L.out]; exact hlt
            have cc := hN3.out wo _ HS.out j (.int .i64 y3[j]) (by simp [zi, hjl])
            have hcb3 := HCB.out y3[j] (List.getElem_mem _)
            have HTK := Lib.hid (snocL y3 hjl)
            obtain ⟨cx, hcx⟩ : ∃ x, y3[j] = x := ⟨_, rfl⟩
            rw [hcx] at cc hcb3 HTK
            obtain ⟨hcb4, hcb5⟩ := hcb3
            obtain ⟨q9, k9, e9, l9, -, -⟩ := HF.out.at_ (e := 3) (L := []) (by
              have e := (HS.out.to 6 (by simp))
              exact e.sub (.cons_cons _ (List.nil_sublist _)))
            subst e9
            have d3 : wo.cell? ⟨b3, 2, none⟩ = some (.slice q9 (n3 + j) k9) := HS.out.tl.tl.boxAt 2
            have hjI : (j : Int) < (m1 : Int) := by omega
            have hj0 : ¬ (j : Int) < 0 := by omega
            have sX : IntKind.i64.wrap (cx + ((n4 : Int) - (told : Int))) = cx + ((n4 : Int) - (told : Int)) := IntWalk.i64_in _ (by omega)
            clear hcx hjl
            have SZ := Lib.hid ((HS.out.alloc (.cells #[.int .i64 (cx + ((n4 : Int) - (told : Int)))] 3)).to 7 (by simp))
            have L9 : Hid (∀ (z : World) (u : Value) (ys : List Value), Sep B w0 z (.row u 3 1 (n3 + j + 1) ys :: .box wo.heap.size (.cells #[.int .i64 (cx + ((n4 : Int) - (told : Int)))] 3 (0, 0)) :: bxL b6 zL :: bxL b4 #[.slice (some ⟨bo1, oo1, none⟩) lo c1, .slice (some ⟨bo2, oo2, none⟩) (lo + 1) c2, .slice (some ⟨bo3, oo3, none⟩) (lo + 1) c3, .slice (some ⟨bo4, oo4, none⟩) lt c4] :: bxL b3 #[.slice r1 (n1 + m1) j1, .slice r2 (n2 + m1) j2, .slice q9 (n3 + j) k9, .slice r4 (n4 + m4) j4] :: fr true (.slice r1 (n1 + m1) j1) 38 3 (n1 + m1) (x1 ++ y1) :: fr true (.slice r2 (n2 + m1) j2) 36 5 (n2 + m1) (x2 ++ y2) :: fr true (.slice r4 (n4 + m4) j4) 40 3 (n4 + m4) (x4 ++ y4') :: X) → Sep B w0 z (bxL b6 zL :: bxL b4 #[.slice (some ⟨bo1, oo1, none⟩) lo c1, .slice (some ⟨bo2, oo2, none⟩) (lo + 1) c2, .slice (some ⟨bo3, oo3, none⟩) (lo + 1) c3, .slice (some ⟨bo4, oo4, none⟩) lt c4] :: bxL b3 #[.slice r1 (n1 + m1) j1, .slice r2 (n2 + m1) j2, .slice q9 (n3 + j) k9, .slice r4 (n4 + m4) j4] :: fr true (.slice r1 (n1 + m1) j1) 38 3 (n1 + m1) (x1 ++ y1) :: fr true (.slice r2 (n2 + m1) j2) 36 5 (n2 + m1) (x2 ++ y2) :: fr true (.slice r4 (n4 + m4) j4) 40 3 (n4 + m4) (x4 ++ y4') :: .row u 3 1 (n3 + j + 1) ys :: X)) := Lib.hid fun z u ys h => (h.swap.tl).perm (List.perm_middle (l₁ := [_, _, _, _, _, _])).symm
            have hone : ([Value.int .i64 (cx + ((n4 : Int) - (told : Int)))] : List Value).length = 1 * 1 := rfl
            have hb9 : n3 + j + 1 ≤ 1000000000 := by omega
            have HSP := Lib.hid HS.out
            clear HS
            go_wp2_with (at_builtin; refine wpList_append_fr rfl (.tmp 57) (.tmp 61) 25 rfl i3 (.int .i64 0) 8 Try.underlying25 hi3 hc0 hc1 hc2 rfl (by decide) HF.out SZ.out rfl ⟨wo.heap.size, 0, none⟩ 1 1 (by decide) [.int .i64 (cx + ((n4 : Int) - (told : Int)))] rfl hone (cell_one_new wo _ 3) (fun u hu => by obtain rfl := List.mem_singleton.1 hu; rfl) hb9 (by decide) ?_)
            intro u9 w9 hs9 hf9
            obtain ⟨q8, k8, rfl⟩ := row_form hs9.at
            have S9 := Lib.hid (L9.out _ _ _ hs9)
            have e9 : w9.cell? ⟨b3, 2, none⟩ = some (.slice q9 (n3 + j) k9) := S9.out.tl.tl.boxAt 2
            have f9 : w9.frozen? ⟨b3, 2, none⟩ = false := S9.out.tl.tl.fz 2
            have S10 := Lib.hid (S9.out.setAt [_, _] 2 (.slice q8 (n3 + j + 1) k8))
            have F10 := Lib.hid hf9
            clear hs9 hf9 S9 SZ L9 cc d3 HF HSP
            go_wp2_with fail
            go_roundw
            case rel =>
              refine ⟨j + 1, true, .slice q8 (n3 + j + 1) k8, by go_num, by omega, fun _ => rfl, Lib.hid ?_, Lib.hid ?_⟩
              · have e := F10.out
                have e1 : zi (C ++ (y3.take (j + 1)).map (fun c => c + ((n4 : Int) - (told : Int)))) = Cj ++ [.int .i64 (cx + ((n4 : Int) - (told : Int)))] := by rw [← HCJ.out, HTK.out]; simp [zi]
                rw [e1]; exact e
              · have e := S10.out
                have e1 : zi (C ++ (y3.take (j + 1)).map (fun c => c + ((n4 : Int) - (told : Int)))) = Cj ++ [.int .i64 (cx + ((n4 : Int) - (told : Int)))] := by rw [← HCJ.out, HTK.out]; simp [zi]
                rw [e1]; exact e
            case measure => simp [intOf]; omega
          · obtain rfl : m1 = j := by omega
            have hjI : ¬ (m1 : Int) < (m1 : Int) := by omega
            have hty : zi (C ++ y3.map (fun c => c + ((n4 : Int) - (told : Int)))) = Cj := by rw [← HCJ.out, ← HY3L.out, List.take_length]
            rw [hty] at HFIN
            clear hty
            obtain ⟨q9, k9, e9, l9, -, -⟩ := HF.out.at_ (e := 3) (L := []) (by
              have e := (HS.out.to 6 (by simp))
              exact e.sub (.cons_cons _ (List.nil_sublist _)))
            subst e9
            have e0 : wo.cell? ⟨b3, 0, none⟩ = some (.slice r1 (n1 + m1) j1) := HS.out.tl.tl.boxAt 0
            have e1 : wo.cell? ⟨b3, 1, none⟩ = some (.slice r2 (n2 + m1) j2) := HS.out.tl.tl.boxAt 1
            have e2 : wo.cell? ⟨b3, 2, none⟩ = some (.slice q9 (n3 + m1) k9) := HS.out.tl.tl.boxAt 2
            have e3 : wo.cell? ⟨b3, 3, none⟩ = some (.slice r4 (n4 + m4) j4) := HS.out.tl.tl.boxAt 3
            have g0 : wo.cell? ⟨b6, 0, none⟩ = some (.slice none 0 0) := HS.out.boxAt 0
            have g1 : wo.cell? ⟨b6, 1, none⟩ = some (.slice none 0 0) := HS.out.boxAt 1
            have g2 : wo.cell? ⟨b6, 2, none⟩ = some (.slice none 0 0) := HS.out.boxAt 2
            have g3 : wo.cell? ⟨b6, 3, none⟩ = some (.slice none 0 0) := HS.out.boxAt 3
            have f0 : wo.frozen? ⟨b6, 0, none⟩ = false := HS.out.fz 0
            have f1 : wo.frozen? ⟨b6, 1, none⟩ = false := HS.out.fz 1
            have f2 : wo.frozen? ⟨b6, 2, none⟩ = false := HS.out.fz 2
            have f3 : wo.frozen? ⟨b6, 3, none⟩ = false := HS.out.fz 3
            have ho3t : o3' = true := ho3 m1pos
            subst ho3t
            have SF := Lib.hid ((((HS.out.setc 0 (.slice r1 (n1 + m1) j1)).setc 1 (.slice r2 (n2 + m1) j2)).setc 2 (.slice q9 (n3 + m1) k9)).setc 3 (.slice r4 (n4 + m4) j4))
            clear HS
            go_wp2_with fail
            refine bodyPost_ret (results_cell_row rfl _ _ b6 28 _ (0, 0) _ rfl SF.out.at.2 Try.underlying28 rfl info28) rfl ?_
            refine HFIN.out _ _ _ _ _ ?_
            have e := (SF.out.sub (.cons _ (.cons _ (.cons _ (.refl _)))))
            exact e.perm (((List.Perm.swap _ _ _).cons _).cons _)
end Go.Proofs.Ytemkppjdfjoipaa.I1.X
