/- again -/
import Derived.Test.YtemkppjdfjoipaaProg
import Derived.Test.YtemkppjdfjoipaaW36
import Derived.Test.YtemkppjdfjoipaaW7
import Derived.Deep.SlicePairs
import Derived.Deep.Slices
import Derived.Laws.IdiomArrays
import Derived.OpenShut
import Derived.WideBlind
import Derived.Great.BuildSlice
import Derived.WalkKit
import Derived.Maps.OwnSet
import Derived.Maps.OwnOps
import Derived.Maps.Own
import Derived.DeepKeys5
import Derived.BigFrame
import Derived.WalkMore
import Derived.ScopeJumps
import Derived.StillTailTactics
import Derived.Stop.BytesEq
import Derived.WalkLawsBesides
import Derived.WalkSpells
import Derived.Outline
import Derived.Lib.Walk
import Derived.Lib.Hide
import Derived.Lib.Slices
import Derived.Lib.Strings
import Derived.RegionTactic
import Derived.LoopTactic
import Derived.Below
import Derived.IntWalk
import Derived.Deep.QuietTactic
import Derived.BigQuiet
import Derived.Deep.MidRow
import Derived.Maps.AppendAt
import Derived.Laws.Rows
import Derived.Laws.Tables
import Derived.Deep.WholeRow
import Derived.Deep.Cut
import Derived.Deep.CutRange
import Derived.Lib.SliceRun
import Derived.Laws.MakeOwn
import Derived.Deep.RegionLaw
import Derived.Deep.RegionLawGrows
import Derived.Deep.RegionHeld3
import Derived.RegionCalls
import Derived.Deep.RegionWith
import Derived.Deep.Light
import Derived.Laws.CopyOwn
import Derived.Laws.ResultCell
namespace Go.Proofs.Ytemkppjdfjoipaa.I1.X
set_option linter.unusedSimpArgs false
set_option linter.unusedVariables false
set_option maxRecDepth 100000
open Go.RowKit
/- again. -/
set_option maxHeartbeats 32000000 in
theorem again_any {N B : Nat} {w wa : World} {XF : List It} {b : Nat} {d : Df} {kl : List Int} {s t x : ByteArray} {st en bs : Nat} {p1 p2 p3 p4 : Option Addr} {c1 c2 c3 c4 : Nat} (hNB : N ≤ B) (hsep : Sep B w wa XF) (hsc : ScV0 N w b d kl s bs p1 p2 p3 p4 c1 c2 c3 c4) (hf : Fine d kl s) (hg : Fine d kl t) (he : Ed1 (bl s) (bl t) st en x.size) :
    Calls Try.prog 39 #[.pointer (some ⟨b, 0, none⟩), .string t, .agg #[.int .i64 (st : Nat), .int .i64 (en : Nat), .string x]] wa (AgP B w XF d kl s t st en (st + x.size)) := by
  have hz := zero28
  obtain ⟨be, hBE⟩ : ∃ b, st + x.size = b := ⟨_, rfl⟩
  have HBE := Lib.hid hBE
  rw [hBE]
  clear hBE
  have hz36 := zero24
  have hlen := hf.lens
  have hsm := hf.sm
  have hNw : N ≤ B := hNB
  have hNW : N ≤ w.heap.size := hsc.nw
  have hbw : b < B := Nat.lt_of_lt_of_le hsc.bn hNB
  have hsz := hf.sz
  have htz := hg.sz
  have hst : st ≤ 65536 := by have h1 := he.h1; have h2 := he.h2; rw [bl_len] at h2; omega
  have hen : en ≤ 65536 := by have h2 := he.h2; rw [bl_len] at h2; omega
  have hxz : x.size ≤ 65536 := by have := he.len; rw [bl_len, bl_len] at this; omega
  obtain ⟨k, HKEPT⟩ := kept_ex (scL d kl s) st (scL d kl s).length 0 (by omega) (fun i h => by omega)
  have HKC : Hid (∀ z, Below B w z → Calls Try.prog 63 #[.slice p1 (scL d kl s).length c1, .int .i64 (st : Nat)] z fun e w' => e = .returned (.tuple #[.int .i64 (k : Nat), .int .i64 (off (scL d kl s) k : Nat)]) ∧ w' = z) := Lib.hid fun z hz => by
    exact (kept_any (D := Lt N) hsm (by omega) (fun b (hb : b < N) => Nat.lt_of_lt_of_le hb (Nat.le_trans hNW hz.size)) (hsc.lv.r.mono (fun b h => h) (fun b (hb : b < N) _ => hz.block b (Nat.lt_of_lt_of_le hb hNw)))).mono (by rintro e w' ⟨k', he, hk', hw⟩; rw [kept_uniq hk' HKEPT] at he; exact ⟨he, hw⟩)
  have HSC := Lib.hid hsc
  have HF := Lib.hid hf
  have HG := Lib.hid hg
  have HE := Lib.hid he
  have HLEN := Lib.hid hlen
  have HCELL : Hid (∀ z, Below B w z → ∀ g, g < N → ∀ o v, w.cell? ⟨g, o, none⟩ = some v → z.cell? ⟨g, o, none⟩ = some v) := Lib.hid fun z hz g hg o v h => (cell_same (hz.block g (Nat.lt_of_lt_of_le hg hNw)) _).trans h
  have k2 := hsc.k2
  have k3 := hsc.k3
  have k4 := hsc.k4
  have k5 := hsc.k5
  have k0 := hsc.k0
  have hbN := hsc.bn
  obtain ⟨Lo, hLo⟩ : ∃ L, scL d kl s = L := ⟨_, rfl⟩
  obtain ⟨xo, hxo⟩ : ∃ x, scX d kl s = x := ⟨_, rfl⟩
  have HLO := Lib.hid hLo
  have HXO := Lib.hid hxo
  rw [hLo] at HKC HKEPT k2
  rw [hxo] at k3 k4 k5
  obtain ⟨lo, hlo⟩ : ∃ n, Lo.length = n := ⟨_, rfl⟩
  have hml : xo.marks.length = lo + 1 := by rw [← hxo, ← hlo, ← hLo]; exact hlen.l2
  have hcl : xo.counts.length = lo + 1 := by rw [← hxo, ← hlo, ← hLo]; exact hlen.l3
  obtain ⟨lt, hlt⟩ : ∃ n, xo.toks.length = n := ⟨_, rfl⟩
  have hlo1 : lo ≤ 65536 := by rw [← hlo, ← hLo]; exact hlen.l1
  have hlt1 : lt ≤ 270000000 := by rw [← hlt, ← hxo]; exact hlen.l4
  rw [hlo] at HKC k2
  rw [hml] at k3
  rw [hcl] at k4
  rw [hlt] at k5
  have HCS := Lib.hid (And.intro k2 (And.intro k3 (And.intro k4 k5)))
  have HLOL := Lib.hid hlo
  have HML := Lib.hid hml
  have HCL := Lib.hid hcl
  have HTL := Lib.hid hlt
  clear hsc hf hg he hlen hsm hLo hxo hlo hml hcl hlt
  obtain ⟨b5, hb5⟩ : ∃ b, wa.heap.size = b := ⟨_, rfl⟩
  have S0 := hsep.allocAt hb5 (.cells #[.int .i64 (st : Nat), .int .i64 (en : Nat), .string x] 45)
  have S0 := S0.allocAt (b := b5 + 1) (by simp [hb5]) (.cells zL 28)
  obtain ⟨b6, hb6⟩ : ∃ b, b5 + 1 = b := ⟨_, rfl⟩
  rw [hb6] at S0
  have S0 := Lib.hid S0
  go_enter Try.func39, Try.ntmps39
  go_upto_region 1 with fail
  refine at_world (fun y => Sep B w y (bxL b6 zL :: .box b5 (.cells #[.int .i64 (st : Nat), .int .i64 (en : Nat), .string x] 45 (0, 0)) :: XF)) S0.out fun y hy => ?_
  have y2 := HCELL.out y hy.bel b hbN _ _ k2
  have e0 : y.cell? ⟨b5, 0, none⟩ = some (.int .i64 (st : Nat)) := hy.tl.boxAt 0
  have S1 := Lib.hid hy
  have HK1 := Lib.hid (fun n => HKC.out (y.drewN n) (below_drewN hy.bel n))
  clear hy S0 HKC hb5 hb6
  go_quiet ((go_at_call 63; exact Calls.quiet_of_same (HK1.out _)))
  obtain ⟨y1, hy1⟩ : ∃ z, y.drewN nq = z := ⟨_, rfl⟩
  have S2 : Hid (Sep B w y1 (bxL b6 zL :: .box b5 (.cells #[.int .i64 (st : Nat), .int .i64 (en : Nat), .string x] 45 (0, 0)) :: XF)) := Lib.hid (by rw [← hy1]; exact S1.out.up (below_drewN (Below.refl _ _) nq))
  rw [hy1]
  clear hy1 S1 y2 e0 HK1
  have hkl : k ≤ Lo.length := HKEPT.hk
  have hklo : k ≤ lo := by rw [← HLOL.out]; exact hkl
  obtain ⟨told, htold⟩ : ∃ n, (runM m0 (bl s) (Lo.take k)).T.length = n := ⟨_, rfl⟩
  have hct : xo.counts[k]? = some (told : Int) := by
    rw [← HXO.out, ← htold, ← HLO.out]
    exact lx_count (scL d kl s) (bl s) (by rw [HLO.out]; exact hkl)
  have htl : told ≤ lt := by
    have e := (lx_toks (scL d kl s) (bl s) (n := k) (by rw [HLO.out]; exact hkl)).1
    have e2 := congrArg List.length e
    rw [List.length_take, HLO.out, htold] at e2
    have e3 := HTL.out
    rw [← HXO.out, scX, HLO.out] at e3
    rw [e3] at e2
    omega
  have hmk : xo.marks[k]? = some (runM m0 (bl s) (Lo.take k)).m := by
    rw [← HXO.out, ← HLO.out]
    exact lx_mark (scL d kl s) (bl s) (by rw [HLO.out]; exact hkl)
  obtain ⟨hkm, hmk⟩ := List.getElem?_eq_some_iff.1 hmk
  have HLV : Hid (LV N w Lo xo p1 p2 p3 p4 c1 c2 c3 c4) := Lib.hid (by have e := HSC.out.lv; rw [HLO.out, HXO.out] at e; exact e)
  have HTOLD := Lib.hid htold
  have HCT := Lib.hid hct
  have HBG : Hid (∀ z, Below B w z → Calls Try.prog 64 #[.agg #[.slice p1 lo c1, .slice p2 (lo + 1) c2, .slice p3 (lo + 1) c3, .slice p4 lt c4], .int .i64 (k : Nat)] z fun e w' => e = .returned (.agg #[.slice p1 k k, .slice p2 (k + 1) (k + 1), .slice p3 (k + 1) (k + 1), .slice p4 told told]) ∧ Below z.heap.size z w') := Lib.hid fun z hz => by
    have h1 := HLV.out.h1
    have h2 := HLV.out.h2
    have h3 := HLV.out.h3
    have h4 := HLV.out.h4
    rw [HLOL.out] at h1
    rw [HML.out] at h2
    rw [HCL.out] at h3
    rw [HTL.out] at h4
    have hiv := HLV.out.k
    rw [HCL.out] at hiv
    exact beginning_any (Nat.le_trans hNW hz.size) (hiv.mono (fun b h => h) (fun b (hb : b < N) _ => hz.block b (Nat.lt_of_lt_of_le hb hNw))) hct (by omega) (by omega) (by omega) (by omega) (by omega) (by omega)
  have hmv := HLV.out.m
  rw [HML.out] at hmv
  obtain ⟨-, g2, oo, q7, f7, rfl, hg2, iv7, m0_, m1_, m2_, m3_, m4_⟩ := mv_get hmv hkm
  rw [hmk] at iv7 m0_ m1_ m2_ m3_ m4_
  have HIV7 := Lib.hid iv7
  obtain ⟨mk, hmkE⟩ : ∃ m, (runM m0 (bl s) (Lo.take k)).m = m := ⟨_, rfl⟩
  rw [hmkE] at m0_ m1_ m2_ m3_ m4_ HIV7
  have HMKE := Lib.hid hmkE
  obtain ⟨lk, hlk⟩ : ∃ l, mk.cols.length = l := ⟨_, rfl⟩
  have HLK := Lib.hid hlk
  rw [hlk] at m0_
  have z2 := HCELL.out y1 S2.out.bel b hbN _ _ k2
  have z3 := HCELL.out y1 S2.out.bel b hbN _ _ k3
  have z4 := HCELL.out y1 S2.out.bel b hbN _ _ k4
  have z5 := HCELL.out y1 S2.out.bel b hbN _ _ k5
  have HB2 := Lib.hid (HBG.out y1 S2.out.bel)
  clear htold hct hmk hkm hmv iv7 hmkE hlk HBG
  go_wp2_with fail
  refine HB2.out.mono ?_
  rintro _ w2 ⟨rfl, hb2⟩
  have S3 := Lib.hid (S2.out.up hb2)
  clear hb2 S2 HB2 z2 z3 z4 z5
  obtain ⟨b10, hb10⟩ : ∃ b, w2.heap.size = b := ⟨_, rfl⟩
  have S4 := Lib.hid (S3.out.allocAt hb10 (.cells #[.slice p1 k k, .slice (some ⟨g2, oo, none⟩) (k + 1) (k + 1), .slice p3 (k + 1) (k + 1), .slice p4 told told] 28))
  clear S3
  go_upto_region 3 with fail
  refine at_world (fun y => Sep B w y (bxL b10 #[.slice p1 k k, .slice (some ⟨g2, oo, none⟩) (k + 1) (k + 1), .slice p3 (k + 1) (k + 1), .slice p4 told told] :: bxL b6 zL :: .box b5 (.cells #[.int .i64 (st : Nat), .int .i64 (en : Nat), .string x] 45 (0, 0)) :: XF)) S4.out fun y2 hy2 => ?_
  have x1 : y2.cell? ⟨b10, 1, none⟩ = some (.slice (some ⟨g2, oo, none⟩) (k + 1) (k + 1)) := hy2.boxAt 1
  have x0 := HCELL.out y2 hy2.bel g2 hg2 _ _ m0_
  have x2 := HCELL.out y2 hy2.bel g2 hg2 _ _ m1_
  have x3 := HCELL.out y2 hy2.bel g2 hg2 _ _ m2_
  have x4 := HCELL.out y2 hy2.bel g2 hg2 _ _ m3_
  have x5 := HCELL.out y2 hy2.bel g2 hg2 _ _ m4_
  have t0 : y2.cell? ⟨b5, 0, none⟩ = some (.int .i64 (st : Nat)) := hy2.tl.tl.boxAt 0
  have t2 : y2.cell? ⟨b5, 2, none⟩ = some (.string x) := hy2.tl.tl.boxAt 2
  have u2 := HCELL.out y2 hy2.bel b hbN _ _ k2
  have l5 : b5 < y2.heap.size := (It.lt hy2.tl.tl.at rfl).2
  have lb : b < y2.heap.size := Nat.lt_of_lt_of_le hbN (Nat.le_trans hNw hy2.sz)
  obtain ⟨b11, hb11⟩ : ∃ b, y2.heap.size = b := ⟨_, rfl⟩
  rw [hb11] at l5 lb
  obtain ⟨ak, hak⟩ : ∃ a, off Lo k = a := ⟨_, rfl⟩
  have HAK := Lib.hid hak
  rw [hak]
  have S5 := hy2.allocAt hb11 (.cells #[.slice q7 lk f7, .int .i64 mk.opn, .int .i64 mk.col, .bool mk.fresh, .int .i64 mk.lead] 36)
  have S5 := S5.allocAt (b := b11 + 1) (by simp [hb11]) (.cells #[.slice p1 lo c1, .int .i64 (k : Nat), .int .i64 (ak : Nat)] 117)
  obtain ⟨b13, hb13⟩ : ∃ b, b11 + 1 = b := ⟨_, rfl⟩
  rw [hb13] at S5
  have S5 := Lib.hid S5
  have kI : (k : Int) < (k : Int) + 1 := by omega
  have kI2 : (k : Int) < ((k + 1 : Nat) : Int) := by omega
  have k0' : ¬ (k : Int) < 0 := by omega
  have hbe : IntKind.i64.wrap ((st : Int) + (x.size : Nat)) = (be : Int) := by have := HBE.out; rw [IntWalk.i64_in _ (by omega)]; omega
  clear S4 hy2 hak hb10
  go_upto_region 6 with fail
  refine at_world (fun y => Sep B w y (bxT b13 (.slice p1 lo c1) k ak :: .box b11 (.cells #[.slice q7 lk f7, .int .i64 mk.opn, .int .i64 mk.col, .bool mk.fresh, .int .i64 mk.lead] 36 (0, 0)) :: bxL b10 #[.slice p1 k k, .slice (some ⟨g2, oo, none⟩) (k + 1) (k + 1), .slice p3 (k + 1) (k + 1), .slice p4 told told] :: bxL b6 zL :: .box b5 (.cells #[.int .i64 (st : Nat), .int .i64 (en : Nat), .string x] 45 (0, 0)) :: XF)) S5.out fun y3 hy3 => ?_
  obtain ⟨Ln, hLn⟩ : ∃ L, scL d kl t = L := ⟨_, rfl⟩
  have HLN := Lib.hid hLn
  have hag : off Ln k = ak ∧ ∃ vs, AgI B w b5 b6 b10 b11 b13 #[.int .i64 (st : Nat), .int .i64 (en : Nat), .string x] (.slice p1 lo c1) Lo Ln (bl s) (bl t) en be k k k false false false false (.slice p1 k k) (.slice (some ⟨g2, oo, none⟩) (k + 1) (k + 1)) (.slice p3 (k + 1) (k + 1)) (.slice p4 told told) vs q7 f7 XF y3 := by
    have h1 := HLO.out
    have h2 := HXO.out
    have h3 := HAK.out
    have h4 := HTOLD.out
    have h5 := HMKE.out
    have h6 := hy3
    have h7 := HKEPT
    have h8 := HLV.out
    rw [← h3, ← h1] at h6
    rw [← h1] at h4 h5 h7 h8
    rw [← h2] at h8
    have e := agi_start hNw HF.out.may HF.out.sz HE.out h7 h8 h4 h5 HLK.out HIV7.out HF.out.fit.one h6
    rw [hLn, h1, h3, HBE.out] at e
    exact e
  obtain ⟨hak, vs0, hag⟩ := hag
  have HAG := Lib.hid hag
  rw [← hak]
  have HAK2 := Lib.hid hak
  clear hag hak hy3 S5 x0 x1 x2 x3 x4 x5 t0 t2 u2 l5 lb kI kI2 k0' hb11 hb13 m0_ m1_ m2_ m3_ m4_
  go_loopw [9, 14, 15, 16] (fun av _ _ _ wr => ∃ (n k2 : Nat) (o1 o2 o3 o4 : Bool) (v1 v2 v3 v4 : Value) (vs : List Value) (q : Option Addr) (f : Nat) (Y : List It), av = .int .i64 (off Ln n : Nat) ∧ Hid (AgI B w b5 b6 b10 b11 b13 #[.int .i64 (st : Nat), .int .i64 (en : Nat), .string x] (.slice p1 lo c1) Lo Ln (bl s) (bl t) en be k n k2 o1 o2 o3 o4 v1 v2 v3 v4 vs q f Y wr) ∧ Hid (∃ J, Y = J ++ XF)) (fun av _ _ _ _ => t.size - (intOf av).toNat)
  case atStart => exact ⟨k, k, _, _, _, _, _, _, _, _, vs0, q7, f7, XF, rfl, HAG, Lib.hid ⟨[], rfl⟩⟩
  case round =>
    clear HAG
    obtain ⟨n, k2, o1, o2, o3, o4, v1, v2, v3, v4, vs, q, f, Y, rfl, HI, HJY⟩ := hrel
    obtain ⟨wo, rfl⟩ : ∃ wo : World, wo = wr := ⟨_, rfl⟩
    have hLen : off Ln Ln.length = t.size := by
      rw [off, List.take_length, ← HLN.out]
      have e := (pcA_fit HG.out.may (ksL kl) _ (bl t) (Nat.le_refl _)).2
      rw [bl_len] at e
      exact e
    have hOne : ∀ r ∈ Ln, 1 ≤ r.2.1 := by rw [← HLN.out]; exact HG.out.fit.one
    by_cases hlt : off Ln n < t.size
    · have hnl : n < Ln.length := by
        rcases Nat.lt_or_ge n Ln.length with h | h
        · exact h
        · have e : n = Ln.length := by have := HI.out.nl; omega
          rw [e, hLen] at hlt; omega
      have hrd : ∃ at_ rn rk rl m' E, at_ = off Ln n ∧ RdF d kl t Ln n at_ rn rk rl (runM m0 (bl t) (Ln.take n)).m m' (runM m0 (bl t) (Ln.take n)).T E := by
        have e := rd_ex HG.out (n := n) (by rw [HLN.out]; exact hnl)
        rw [HLN.out] at e; exact e
      obtain ⟨at_, rn, rk, rl, m', E, hat, hrd⟩ := hrd
      obtain ⟨R, hR⟩ : ∃ R, runM m0 (bl t) (Ln.take n) = R := ⟨_, rfl⟩
      rw [hR] at hrd
      have hX := HI.out.xs
      have hIV := HI.out.iv
      have hSP := HI.out.sp
      have hMK := HI.out.mks
      rw [hR] at hX hIV hSP hMK
      obtain ⟨r1, l1, rfl, -, -, -⟩ := hX.f1.at_ hSP
      obtain ⟨r2, l2, rfl, -, -, -⟩ := hX.f2.at_ hSP.tl
      obtain ⟨r3, l3, rfl, -, -, -⟩ := hX.f3.at_ hSP.tl.tl
      obtain ⟨r4, l4, rfl, -, -, -⟩ := hX.f4.at_ hSP.tl.tl.tl
      have F1 := Lib.hid hX.f1
      have F2 := Lib.hid hX.f2
      have F3 := Lib.hid hX.f3
      have F4 := Lib.hid hX.f4
      unfold xI at hSP
      obtain ⟨m, hm⟩ : ∃ m, R.m = m := ⟨_, rfl⟩
      obtain ⟨lm, hlm⟩ : ∃ l, m.cols.length = l := ⟨_, rfl⟩
      obtain ⟨lm2, hlm2⟩ : ∃ l, m'.cols.length = l := ⟨_, rfl⟩
      have hlm0 := Lib.hid hlm
      have hlm02 := Lib.hid hlm2
      obtain ⟨nT, hnT⟩ : ∃ l, R.T.length = l := ⟨_, rfl⟩
      obtain ⟨nE, hnE⟩ : ∃ l, E.length = l := ⟨_, rfl⟩
      obtain ⟨z1, hz1⟩ : ∃ z, (Ln.take n).length = z := ⟨_, rfl⟩
      obtain ⟨z2, hz2⟩ : ∃ z, (m0 :: R.M).length = z := ⟨_, rfl⟩
      obtain ⟨z3, hz3⟩ : ∃ z, ((0 : Int) :: R.C).length = z := ⟨_, rfl⟩
      obtain ⟨x1, hx1⟩ : ∃ z, rwL ((Ln.take n).map tR) = z := ⟨_, rfl⟩
      obtain ⟨x2, hx2⟩ : ∃ z, mkL vs (m0 :: R.M) = z := ⟨_, rfl⟩
      obtain ⟨x3, hx3⟩ : ∃ z, zi (0 :: R.C) = z := ⟨_, rfl⟩
      obtain ⟨x4, hx4⟩ : ∃ z, tkL R.T = z := ⟨_, rfl⟩
      obtain ⟨xE, hxE⟩ : ∃ z, tkL E = z := ⟨_, rfl⟩
      have hn6 : n ≤ 65536 := by
        have e := HG.out.lens.l1
        rw [HLN.out] at e
        omega
      have hrl := runM_len (Ln.take n) m0 (bl t)
      rw [hR] at hrl
      have hz1n : z1 = n := by rw [← hz1, List.length_take]; omega
      have hz2n : z2 = n + 1 := by rw [← hz2, List.length_cons, hrl.1, hz1, hz1n]
      have hz3n : z3 = n + 1 := by rw [← hz3, List.length_cons, hrl.2, hz1, hz1n]
      have HSTEP : Hid (∀ (w' : World) (k3 : Nat) (u4 : Bool) (y1 y2 y3 y4 : Value) (q' : Option Addr) (f' : Nat) (v' : Value) (Y' : List It), k2 ≤ k3 → k3 ≤ Lo.length → (∀ j, j < k3 → off Lo j < en + (at_ - be)) → (∀ j, ¬ Back Lo Ln (bl s) (bl t) en be n j) → shV m m' (.slice q lm f) v' = .slice q' lm2 f' → rI v' m'.cols ∈ Y' → (∀ x ∈ Y, x ∈ Y') → Fr B w u4 y4 3 (nT + nE) (x4 ++ xE) → Sep B w w' (fr true y1 38 3 (z1 + 1) (x1 ++ [.int .i64 rk, .int .i64 (rn : Nat), .int .i64 (rl : Nat)]) :: fr true y2 36 5 (z2 + 1) (x2 ++ [.slice q' lm2 f', .int .i64 m'.opn, .int .i64 m'.col, .bool m'.fresh, .int .i64 m'.lead]) :: fr true y3 3 1 (z3 + 1) (x3 ++ [.int .i64 ((nT + nE : Nat) : Int)]) :: fr u4 y4 40 3 (nT + nE) (x4 ++ xE) :: bxT b13 (.slice p1 lo c1) k3 (off Lo k3) :: .box b11 (.cells #[.slice q' lm2 f', .int .i64 m'.opn, .int .i64 m'.col, .bool m'.fresh, .int .i64 m'.lead] 36 (0, 0)) :: bxL b10 #[y1, y2, y3, y4] :: bxL b6 zL :: .box b5 (.cells #[.int .i64 (st : Nat), .int .i64 (en : Nat), .string x] 45 (0, 0)) :: Y') → off Ln (n + 1) = at_ + rn ∧ AgI B w b5 b6 b10 b11 b13 #[.int .i64 (st : Nat), .int .i64 (en : Nat), .string x] (.slice p1 lo c1) Lo Ln (bl s) (bl t) en be k (n + 1) k3 true true true u4 y1 y2 y3 y4 (vs ++ [.slice q' lm2 f']) q' f' Y' w') := Lib.hid (by
        intro w' k3 u4 y1 y2 y3 y4 q' f' v' Y' a1 a2 a3 a4 a5 a6 a7 a8 a9
        subst hx1 hx2 hx3 hx4 hxE hz1 hz2 hz3 hnT hnE hlm hlm2 hm
        rw [hat] at a3
        exact agi_step HI.out hR hrd hat a1 a2 a3 a4 a7 (agi_sh HI.out hR a5 a6 a7) a8 a9)
      have HBACK : Hid (∀ (w' : World) (k3 told3 : Nat) (X : List It) (e : Ending), Back Lo Ln (bl s) (bl t) en be n k3 → xo.counts[k3]? = some (told3 : Int) → JnP B w X (Ln.take n) vs (m0 :: R.M) (0 :: R.C) R.T Lo xo k3 told3 e w' → ∃ u1 u2 u3 u4 vs2, e = .returned (.agg #[u1, u2, u3, u4]) ∧ XS B w true true true true u1 u2 u3 u4 (scL d kl t) vs2 (scX d kl t).marks (scX d kl t).counts (scX d kl t).toks ∧ MkS B w X vs2 (scX d kl t).marks ∧ Sep B w w' (xI true true true true u1 u2 u3 u4 (scL d kl t) vs2 (scX d kl t).marks (scX d kl t).counts (scX d kl t).toks X) ∧ Cnt (scL d kl s) (scL d kl t) (bl s) (bl t) st en be ((n : Int) - (k : Int))) := Lib.hid (by
        intro w' k3 told3 X e hb ht hj
        have h0 := HI.out
        have h7 := HKEPT
        rw [← HLN.out, ← HLO.out, ← HBE.out] at h0 hb
        rw [← HLO.out] at h7 hj
        rw [← HXO.out] at ht hj
        rw [← hR, ← HLN.out] at hj
        have e := agi_back3 HF.out.may HE.out h0 h7 hb ht hj
        rw [HBE.out] at e
        exact e)
      have HJN : Hid (∀ (z : World) (k3 told3 : Nat), k3 < Lo.length → xo.counts[k3]? = some (told3 : Int) → told3 < xo.toks.length → Sep B w z (fr o1 (.slice r1 z1 l1) 38 3 z1 x1 :: fr o2 (.slice r2 z2 l2) 36 5 z2 x2 :: fr o3 (.slice r3 z3 l3) 3 1 z3 x3 :: fr o4 (.slice r4 nT l4) 40 3 nT x4 :: bxT b13 (.slice p1 lo c1) k3 (off Lo k3) :: .box b11 (.cells #[.slice q lm f, .int .i64 m.opn, .int .i64 m.col, .bool m.fresh, .int .i64 m.lead] 36 (0, 0)) :: bxL b10 #[.slice r1 z1 l1, .slice r2 z2 l2, .slice r3 z3 l3, .slice r4 nT l4] :: bxL b6 zL :: .box b5 (.cells #[.int .i64 (st : Nat), .int .i64 (en : Nat), .string x] 45 (0, 0)) :: Y) → Calls Try.prog 67 #[.agg #[.slice r1 z1 l1, .slice r2 z2 l2, .slice r3 z3 l3, .slice r4 nT l4], .agg #[.slice p1 lo c1, .slice (some ⟨g2, oo, none⟩) (lo + 1) c2, .slice p3 (lo + 1) c3, .slice p4 lt c4], .int .i64 (k3 : Nat)] z (JnP B w (bxT b13 (.slice p1 lo c1) k3 (off Lo k3) :: .box b11 (.cells #[.slice q lm f, .int .i64 m.opn, .int .i64 m.col, .bool m.fresh, .int .i64 m.lead] 36 (0, 0)) :: bxL b10 #[.slice r1 z1 l1, .slice r2 z2 l2, .slice r3 z3 l3, .slice r4 nT l4] :: bxL b6 zL :: .box b5 (.cells #[.int .i64 (st : Nat), .int .i64 (en : Nat), .string x] 45 (0, 0)) :: Y) (Ln.take n) vs (m0 :: R.M) (0 :: R.C) R.T Lo xo k3 told3)) := Lib.hid (by
        intro z k3 told3 a1 a2 a3 a4
        have h1 := HLOL.out
        have h2 := HML.out
        have h3 := HCL.out
        have h4 := HTL.out
        have hmkl : MkS B w (bxT b13 (.slice p1 lo c1) k3 (off Lo k3) :: .box b11 (.cells #[.slice q lm f, .int .i64 m.opn, .int .i64 m.col, .bool m.fresh, .int .i64 m.lead] 36 (0, 0)) :: bxL b10 #[.slice r1 z1 l1, .slice r2 z2 l2, .slice r3 z3 l3, .slice r4 nT l4] :: bxL b6 zL :: .box b5 (.cells #[.int .i64 (st : Nat), .int .i64 (en : Nat), .string x] 45 (0, 0)) :: Y) vs (m0 :: R.M) := hMK.sub (fun x hx => by simp [hx])
        subst hx1 hx2 hx3 hx4 hz1 hz2 hz3 hnT
        have hcb : ∀ c ∈ xo.counts, 0 ≤ c ∧ c ≤ 300000000 := by
          intro c hc
          have e := lx_cb (scL d kl s) (bl s) c (by show c ∈ (scX d kl s).counts; rw [HXO.out]; exact hc)
          have e2 : (lxM (scL d kl s) (bl s)).toks.length = lt := by rw [← h4, ← HXO.out]
          omega
        have hT := hrd.tl
        have e := joined_any (k := k3) (told := told3) hX hmkl a4 (HLV.out.up hNw (Below.refl _ _)) a1 (by omega) (by omega) a2 a3 (by omega) (by omega) (by omega) (by omega) (by omega) (by omega) hcb
        rw [h1, h2, h3, h4] at e
        exact e)
      have HPC : Hid (∀ (z : World), Below B w z → Calls Try.prog 68 #[.pointer (some ⟨bs, 0, none⟩), .string (t.extract at_ t.size)] z fun e w' => e = .returned (.agg #[.int .i64 rk, .int .i64 (rn : Nat), .int .i64 (rl : Nat)]) ∧ Below z.heap.size z w') := Lib.hid (by
        intro z hz
        have h1 := hrd.lt
        have hexs : (t.extract at_ t.size).size = t.size - at_ := by simp
        have hkn := HG.out.kn
        have e := piece_any12 (t := t.extract at_ t.size) (HSC.out.sn.up (Nat.le_refl _) (Nat.le_trans hNW hz.size) (hz.mono hNw)) HG.out.may HG.out.rl (by omega) (by omega) (by omega)
        rw [hrd.pc] at e
        exact e)
      have HIVY := fun z X hs hY => agi_iv HI.out hR z X hs hY
      rw [hm, hlm] at HIVY
      have HIVY : Hid (∀ (z : World) (X : List It), Sep B w z X → (∀ x ∈ Y, x ∈ X) → IV (fun g => g < z.heap.size) z m.cols (.slice q lm f)) := Lib.hid HIVY
      have HST : Hid (∀ (z : World) (X : List It), (∀ x ∈ Y, x ∈ X) → Sep B w z X → Calls Try.prog 69 #[.agg #[.slice q lm f, .int .i64 m.opn, .int .i64 m.col, .bool m.fresh, .int .i64 m.lead], .string (t.extract at_ (at_ + rn)), .agg #[.int .i64 rk, .int .i64 (rn : Nat), .int .i64 (rl : Nat)]] z fun e w' => ∃ q8 f8 rE cE, e = .returned (.tuple #[.agg #[.slice q8 lm2 f8, .int .i64 m'.opn, .int .i64 m'.col, .bool m'.fresh, .int .i64 m'.lead], .slice rE nE cE]) ∧ Sep B w w' (.row (.slice rE nE cE) 40 3 nE xE :: rI (.slice q8 lm2 f8) m'.cols :: X)) := Lib.hid (by
        intro z X hz hzs
        have hexs : (t.extract at_ (at_ + rn)).size = rn := by have := hrd.le; simp; omega
        have h1 := hrd.le
        have h2 := hrd.may.len
        have h3 := hrd.st
        rw [hm] at h2 h3
        have hiv := HIVY.out z X hzs hz
        subst hlm
        have e := step_any (D := fun g => g < z.heap.size) (m := m) (k := rk) (n := rn) (lk := rl) (s := t.extract at_ (at_ + rn)) (p := q) (c := f) (by omega) (by omega) (fun g hg => hg) hiv hzs
        rw [h3] at e
        refine e.mono ?_
        rintro e w' ⟨v, tE, rfl, hs⟩
        obtain ⟨q8, f8, rfl⟩ := row_form hs.tl.at
        obtain ⟨rE, cE, rfl⟩ := row_form hs.at
        subst hlm2 hnE hxE
        exact ⟨q8, f8, rE, cE, rfl, hs⟩)
      have HSH : Hid (∀ (z : World) (X : List It) (q8 : Option Addr) (f8 : Nat) (q9 : Option Addr) (f9 : Nat), (∀ x ∈ Y, x ∈ X) → Sep B w z (rI (.slice q8 lm2 f8) m'.cols :: X) → shV m m' (.slice q lm f) (.slice q8 lm2 f8) = .slice q9 lm2 f9 → Calls Try.prog 47 #[.agg #[.slice q lm f, .int .i64 m.opn, .int .i64 m.col, .bool m.fresh, .int .i64 m.lead], .agg #[.slice q8 lm2 f8, .int .i64 m'.opn, .int .i64 m'.col, .bool m'.fresh, .int .i64 m'.lead]] z fun e w' => e = .returned (.agg #[.slice q9 lm2 f9, .int .i64 m'.opn, .int .i64 m'.col, .bool m'.fresh, .int .i64 m'.lead]) ∧ Below z.heap.size z w') := Lib.hid (by
        intro z X q8 f8 q9 f9 hz hzs hsv
        have h2 := hrd.may.len
        rw [hm] at h2
        have hiv := HIVY.out z X hzs.tl hz
        subst hlm hlm2
        have e := sharing_any (D := fun b => b < z.heap.size) (E := fun b => b < z.heap.size) (w := z) (m := m) (n := m') (by omega) (fun b h => h) (fun b h => h) hiv ((own_iv hzs.at).mono (fun g hg => hg.2.1) (fun _ _ _ => rfl))
        rw [hsv] at e
        exact e)
      have HBEG : Hid (∀ (z : World) (pl k3 : Nat), pl ≤ lens Lo → (∀ i, i < k2 → off Lo i < pl) → k3 ≤ Lo.length → pl ≤ off Lo k3 → (∀ i, i < k3 → off Lo i < pl) → Sep B w z (fr o1 (.slice r1 z1 l1) 38 3 z1 x1 :: fr o2 (.slice r2 z2 l2) 36 5 z2 x2 :: fr o3 (.slice r3 z3 l3) 3 1 z3 x3 :: fr o4 (.slice r4 nT l4) 40 3 nT x4 :: bxT b13 (.slice p1 lo c1) k2 (off Lo k2) :: .box b11 (.cells #[.slice q lm f, .int .i64 m.opn, .int .i64 m.col, .bool m.fresh, .int .i64 m.lead] 36 (0, 0)) :: bxL b10 #[.slice r1 z1 l1, .slice r2 z2 l2, .slice r3 z3 l3, .slice r4 nT l4] :: bxL b6 zL :: .box b5 (.cells #[.int .i64 (st : Nat), .int .i64 (en : Nat), .string x] 45 (0, 0)) :: Y) → Calls Try.prog 65 #[.pointer (some ⟨b13, 0, none⟩), .int .i64 (pl : Nat)] z fun e w' => e = .returned (.bool (decide (off Lo k3 = pl))) ∧ Sep B w w' (fr o1 (.slice r1 z1 l1) 38 3 z1 x1 :: fr o2 (.slice r2 z2 l2) 36 5 z2 x2 :: fr o3 (.slice r3 z3 l3) 3 1 z3 x3 :: fr o4 (.slice r4 nT l4) 40 3 nT x4 :: bxT b13 (.slice p1 lo c1) k3 (off Lo k3) :: .box b11 (.cells #[.slice q lm f, .int .i64 m.opn, .int .i64 m.col, .bool m.fresh, .int .i64 m.lead] 36 (0, 0)) :: bxL b10 #[.slice r1 z1 l1, .slice r2 z2 l2, .slice r3 z3 l3, .slice r4 nT l4] :: bxL b6 zL :: .box b5 (.cells #[.int .i64 (st : Nat), .int .i64 (en : Nat), .string x] 45 (0, 0)) :: Y)) := Lib.hid (by
        intro z pl k3 a1 a2 a3 a4 a5 a6
        have hsm : Sm Lo := by have e := HF.out.sm; rw [HLO.out] at e; exact e
        have hkl9 := HI.out.kl
        have h1 := HLOL.out
        have e := begins_any12 (B := B) (D := Lt N) (w0 := w) hsm a1 hkl9 a2 (fun b hb => Nat.lt_of_lt_of_le hb hNw) HLV.out.r (by have e := a6.to 4 (by simp); rw [← h1] at e; exact e)
        rw [h1] at e
        refine e.mono ?_
        rintro e w' ⟨k', rfl, b1, b2, b3, b4, b5⟩
        have hk' : k' = k3 := beg_uniq b3 b4 a4 a5
        subst hk'
        exact ⟨rfl, b5.perm (List.perm_middle (l₁ := [_, _, _, _])).symm⟩)
      have HSM : Hid (∀ (z : World) (k3 : Nat) (h3 : k3 < xo.marks.length) (q6 : Option Addr) (f6 : Nat) (X : List It), Sep B w z X → (∀ x ∈ Y, x ∈ X) → IV (Lt N) w (xo.marks[k3]).cols (.slice q6 (xo.marks[k3]).cols.length f6) → Calls Try.prog 66 #[.agg (mkA (.slice q6 (xo.marks[k3]).cols.length f6) xo.marks[k3]), .agg #[.slice q lm f, .int .i64 m.opn, .int .i64 m.col, .bool m.fresh, .int .i64 m.lead]] z fun e w' => e = .returned (.bool (sameB xo.marks[k3] m)) ∧ Below z.heap.size z w') := Lib.hid (by
        intro z k3 h3 q6 f6 X hzs hYX hiv
        have hiv2 := HIVY.out z X hzs hYX
        have hz := hzs.bel
        have hlm9 := hrd.may.len
        rw [hm] at hlm9
        subst hlm
        have h2 : (xo.marks[k3]).cols.length ≤ 4097 := by
          have e := (HF.out.mks.1 xo.marks[k3] (by have e := HXO.out; rw [e]; exact List.getElem_mem _)).len
          exact e
        exact samemk_any (D := Lt N) (E := fun b => b < z.heap.size) (w := z) (m := xo.marks[k3]) (n := m) (by omega) (fun b (hb : b < N) => Nat.lt_of_lt_of_le (Nat.lt_of_lt_of_le hb hNW) hz.size) (fun b h => h) (hiv.mono (fun b h => h) (fun b (hb : b < N) _ => hz.block b (Nat.lt_of_lt_of_le hb hNw))) hiv2)
      have S1 : Hid (Sep B w wo (fr o1 (.slice r1 z1 l1) 38 3 z1 x1 :: fr o2 (.slice r2 z2 l2) 36 5 z2 x2 :: fr o3 (.slice r3 z3 l3) 3 1 z3 x3 :: fr o4 (.slice r4 nT l4) 40 3 nT x4 :: bxT b13 (.slice p1 lo c1) k2 (off Lo k2) :: .box b11 (.cells #[.slice q lm f, .int .i64 m.opn, .int .i64 m.col, .bool m.fresh, .int .i64 m.lead] 36 (0, 0)) :: bxL b10 #[.slice r1 z1 l1, .slice r2 z2 l2, .slice r3 z3 l3, .slice r4 nT l4] :: bxL b6 zL :: .box b5 (.cells #[.int .i64 (st : Nat), .int .i64 (en : Nat), .string x] 45 (0, 0)) :: Y)) := Lib.hid (by
        subst hx1 hx2 hx3 hx4 hz1 hz2 hz3 hnT hlm hm
        exact hSP)
      have HRD := Lib.hid hrd
      have HAT := Lib.hid hat
      rw [hx1, hz1] at F1
      rw [hx2, hz2] at F2
      rw [hx3, hz3] at F3
      rw [hx4, hnT] at F4
      have hrn1 := hrd.one
      have hrle := hrd.le
      have hat9 := hrd.lt
      have htl9 := hrd.tl
      have hlm9 := hrd.may.len
      have hlm9' := hrd.may'.len
      have hrl9 := hrd.rl
      rw [hm, hlm] at hlm9
      rw [hlm2] at hlm9'
      rw [hnT, hnE] at htl9
      have HNE : Hid (xE.length = nE * 3 ∧ ∀ u ∈ xE, u.oneCell' = true) := Lib.hid ⟨by rw [← hxE, tkL_len, hnE], fun u hu => by rw [← hxE] at hu; obtain ⟨t, _, ht⟩ := List.mem_flatMap.1 hu; exact tk_one t u ht⟩
      have HXE := Lib.hid hxE
      have HNEE := Lib.hid hnE
      have HMM := Lib.hid hm
      have HRR := Lib.hid hR
      rw [← hat] at hlt
      rw [← hat]
      have hz1b : z1 ≤ 65537 := by omega
      have hz2b : z2 ≤ 65537 := by omega
      have hz3b : z3 ≤ 65537 := by omega
      have HZ1N := Lib.hid hz1n
      clear hz1n hz2n hz3n
      clear hnl hR hX hIV hSP hMK hm hlm hlm2 hnT hnE hz1 hz2 hz3 hx1 hx2 hx3 hx4 hxE hrl hrd hat hLen hOne
      have kL3 := HLV.out.h3
      rw [HCL.out] at kL3
      have HHI : Hid (k2 ≤ Lo.length ∧ ∀ j, j < k2 → off Lo j < en + (at_ - be)) := Lib.hid ⟨HI.out.kl, by rw [HAT.out]; exact HI.out.bef⟩
      have hatI : (at_ : Int) < (t.size : Int) := by omega
      go_upto_region 7 with fail
      go_cut [81] from 53 to 147 (fun s81 wx => ∃ (bb : Bool) (k3 : Nat), s81 = .bool bb ∧ k2 ≤ k3 ∧ k3 ≤ Lo.length ∧ Hid (∀ j, j < k3 → off Lo j < en + (at_ - be)) ∧ Hid (bb = false → ∀ j, ¬ Back Lo Ln (bl s) (bl t) en be n j) ∧ Hid (bb = true → Back Lo Ln (bl s) (bl t) en be n k3) ∧ Hid (Sep B w wx (fr o1 (.slice r1 z1 l1) 38 3 z1 x1 :: fr o2 (.slice r2 z2 l2) 36 5 z2 x2 :: fr o3 (.slice r3 z3 l3) 3 1 z3 x3 :: fr o4 (.slice r4 nT l4) 40 3 nT x4 :: bxT b13 (.slice p1 lo c1) k3 (off Lo k3) :: .box b11 (.cells #[.slice q lm f, .int .i64 m.opn, .int .i64 m.col, .bool m.fresh, .int .i64 m.lead] 36 (0, 0)) :: bxL b10 #[.slice r1 z1 l1, .slice r2 z2 l2, .slice r3 z3 l3, .slice r4 nT l4] :: bxL b6 zL :: .box b5 (.cells #[.int .i64 (st : Nat), .int .i64 (en : Nat), .string x] 45 (0, 0)) :: Y)))
      case first =>
        by_cases hle : be ≤ at_
        · have hgd : decide ((at_ : Int) ≥ (be : Int)) = true := by simp; omega
          obtain ⟨pl, hpl⟩ : ∃ p, en + (at_ - be) = p := ⟨_, rfl⟩
          have hw1 : IntKind.i64.wrap ((en : Int) + (at_ : Int)) = (en : Int) + (at_ : Int) := IntWalk.i64_in _ (by omega)
          have hw2 : IntKind.i64.wrap ((en : Int) + (at_ : Int) - (be : Int)) = (pl : Int) := by rw [IntWalk.i64_in _ (by omega)]; omega
          have hlL : lens Lo = s.size := by
            rw [← HLO.out, (pcA_fit HF.out.may (ksL kl) _ (bl s) (Nat.le_refl _)).2, bl_len]
          have hplL : pl < lens Lo := by
            have h1 := HE.out.h1
            have h2 := HE.out.h2
            have h3 := HE.out.len
            have h4 := HBE.out
            rw [bl_len] at h2 h3
            rw [bl_len] at h3
            omega
          have hOne2 : ∀ r ∈ Lo, 1 ≤ r.2.1 := by rw [← HLO.out]; exact HF.out.fit.one
          obtain ⟨k3, g1, g2', g3, g4⟩ := beg_ex Lo pl (Lo.length - k2) k2 (by have := HHI.out.1; omega) (by rw [← hpl]; exact HHI.out.2) (by rw [off_all]; omega)
          have HBF := Lib.hid g4
          have HG3 := Lib.hid g3
          have HKK : Hid (k2 ≤ k3 ∧ k3 ≤ Lo.length) := Lib.hid ⟨g1, g2'⟩
          have HPL := Lib.hid hpl
          have HBG := Lib.hid (HBEG.out wo.drew pl k3 (by omega) (by rw [← hpl]; exact HHI.out.2) g2' g3 g4 S1.out.drew)
          have w51 : wo.cell? ⟨b5, 1, none⟩ = some (.int .i64 (en : Nat)) := S1.out.tl.tl.tl.tl.tl.tl.tl.tl.boxAt 1
          have HATB : Hid (at_ = off Ln n) := HAT
          by_cases hp : off Lo k3 = pl
          · have hkl3 : k3 < Lo.length := by
              rcases Nat.lt_or_ge k3 Lo.length with h | h
              · exact h
              · have e : k3 = Lo.length := by omega
                rw [e, off_all] at hp; omega
            rw [decide_eq_true hp] at HBG
            have hkm3 : k3 < xo.marks.length := by rw [HML.out]; have := HLOL.out; omega
            have hkI3 : (k3 : Int) < ((lo + 1 : Nat) : Int) := by have := HLOL.out; omega
            have hkI4 : (k3 : Int) < (lo : Int) + 1 := by omega
            have hk03 : ¬ (k3 : Int) < 0 := by omega
            have hmv := HLV.out.m
            rw [HML.out] at hmv
            obtain ⟨-, g6, o6, q6, f6, he6, hg6, iv6, n0, n1, n2, n3, n4⟩ := mv_get hmv hkm3
            injection he6 with he6
            injection he6 with e1 e2 e3
            subst e1 e2
            have HSM2 := Lib.hid (fun (z : World) (hz : Sep B w z (fr o1 (.slice r1 z1 l1) 38 3 z1 x1 :: fr o2 (.slice r2 z2 l2) 36 5 z2 x2 :: fr o3 (.slice r3 z3 l3) 3 1 z3 x3 :: fr o4 (.slice r4 nT l4) 40 3 nT x4 :: bxT b13 (.slice p1 lo c1) k3 (off Lo k3) :: .box b11 (.cells #[.slice q lm f, .int .i64 m.opn, .int .i64 m.col, .bool m.fresh, .int .i64 m.lead] 36 (0, 0)) :: bxL b10 #[.slice r1 z1 l1, .slice r2 z2 l2, .slice r3 z3 l3, .slice r4 nT l4] :: bxL b6 zL :: .box b5 (.cells #[.int .i64 (st : Nat), .int .i64 (en : Nat), .string x] 45 (0, 0)) :: Y)) => HSM.out z k3 hkm3 q6 f6 _ hz (fun x hx => by simp [hx]) iv6)
            have hmk3 : xo.marks[k3] = (runM m0 (bl s) (Lo.take k3)).m := by
              have e := lx_mark (scL d kl s) (bl s) (n := k3) (by rw [HLO.out]; omega)
              rw [show lxM (scL d kl s) (bl s) = xo from HXO.out, HLO.out, List.getElem?_eq_getElem hkm3] at e
              injection e
            unfold mkA at HSM2
            obtain ⟨mo, hmo⟩ : ∃ m, xo.marks[k3] = m := ⟨_, rfl⟩
            rw [hmo] at HSM2 n0 n1 n2 n3 n4 hmk3
            obtain ⟨lmo, hlmo⟩ : ∃ l, mo.cols.length = l := ⟨_, rfl⟩
            rw [hlmo] at HSM2 n0
            obtain ⟨bsm, hbsm⟩ : ∃ b, sameB mo m = b := ⟨_, rfl⟩
            rw [hbsm] at HSM2
            have HN5 := Lib.hid (And.intro n0 (And.intro n1 (And.intro n2 (And.intro n3 n4))))
            have HMO : Hid (sameB (runM m0 (bl s) (Lo.take k3)).m (runM m0 (bl t) (Ln.take n)).m = bsm) := Lib.hid (by rw [← hmk3, HRR.out, HMM.out]; exact hbsm)
            have HP := Lib.hid hp
            have HKL3 := Lib.hid hkl3
            clear n0 n1 n2 n3 n4 hmk3 hmo hlmo hbsm iv6 hmv hp hkl3 g1 g2' g3 g4 hpl hplL hlL hOne2 HSM
            have HS0 : Hid ((fun z => ∃ kk, Sep B w z (fr o1 (.slice r1 z1 l1) 38 3 z1 x1 :: fr o2 (.slice r2 z2 l2) 36 5 z2 x2 :: fr o3 (.slice r3 z3 l3) 3 1 z3 x3 :: fr o4 (.slice r4 nT l4) 40 3 nT x4 :: bxT b13 (.slice p1 lo c1) kk (off Lo kk) :: .box b11 (.cells #[.slice q lm f, .int .i64 m.opn, .int .i64 m.col, .bool m.fresh, .int .i64 m.lead] 36 (0, 0)) :: bxL b10 #[.slice r1 z1 l1, .slice r2 z2 l2, .slice r3 z3 l3, .slice r4 nT l4] :: bxL b6 zL :: .box b5 (.cells #[.int .i64 (st : Nat), .int .i64 (en : Nat), .string x] 45 (0, 0)) :: Y)) wo.drew) := Lib.hid ⟨k2, S1.out.drew⟩
            refine wp_region_held_drew (S := fun z => ∃ kk, Sep B w z (fr o1 (.slice r1 z1 l1) 38 3 z1 x1 :: fr o2 (.slice r2 z2 l2) 36 5 z2 x2 :: fr o3 (.slice r3 z3 l3) 3 1 z3 x3 :: fr o4 (.slice r4 nT l4) 40 3 nT x4 :: bxT b13 (.slice p1 lo c1) kk (off Lo kk) :: .box b11 (.cells #[.slice q lm f, .int .i64 m.opn, .int .i64 m.col, .bool m.fresh, .int .i64 m.lead] 36 (0, 0)) :: bxL b10 #[.slice r1 z1 l1, .slice r2 z2 l2, .slice r3 z3 l3, .slice r4 nT l4] :: bxL b6 zL :: .box b5 (.cells #[.int .i64 (st : Nat), .int .i64 (en : Nat), .string x] 45 (0, 0)) :: Y)) (by kernel_rfl) HS0.out (fun hHeld => ?_)
            refine wpAnyH_take (i := 0) (v := .int .i64 (at_ : Nat)) rfl (by kernel_rfl) (by kernel_rfl) (by kernel_rfl) (fun _ _ _ h => h) (Or.inl ⟨by rfl, by (intro w hSw; (try dsimp only at hSw); go_simp)⟩) hHeld ?_
            (try simp only [Act.put, List.getElem_toArray, List.getElem_cons_zero, List.getElem_cons_succ, List.setIfInBounds_toArray, List.set_cons_zero, List.set_cons_succ])
            refine wpAnyH_take (i := 1) (v := .int .i64 (be : Nat)) rfl (by kernel_rfl) (by kernel_rfl) (by kernel_rfl) (fun _ _ _ h => h) (Or.inl ⟨by rfl, by (intro w hSw; (try dsimp only at hSw); go_simp)⟩) hHeld ?_
            (try simp only [Act.put, List.getElem_toArray, List.getElem_cons_zero, List.getElem_cons_succ, List.setIfInBounds_toArray, List.set_cons_zero, List.set_cons_succ])
            refine wpAnyH_take (i := 2) (v := .bool true) rfl (by kernel_rfl) (by kernel_rfl) (by kernel_rfl) (fun _ _ _ h => h) (Or.inl ⟨by rfl, by (intro w hSw; (try dsimp only at hSw); go_simp)⟩) hHeld ?_
            (try simp only [Act.put, List.getElem_toArray, List.getElem_cons_zero, List.getElem_cons_succ, List.setIfInBounds_toArray, List.set_cons_zero, List.set_cons_succ])
            refine wpAnyH_take (i := 3) (v := .bool true) rfl (by kernel_rfl) (by kernel_rfl) (by kernel_rfl) (fun _ _ _ h => h) (Or.inl ⟨by rfl, by (intro w hSw; (try dsimp only at hSw); go_simp)⟩) hHeld ?_
            (try simp only [Act.put, List.getElem_toArray, List.getElem_cons_zero, List.getElem_cons_succ, List.setIfInBounds_toArray, List.set_cons_zero, List.set_cons_succ])
            refine wpAnyH_take (i := 4) (v := .pointer (some ⟨b5, 1, none⟩)) rfl (by kernel_rfl) (by kernel_rfl) (by kernel_rfl) (fun _ _ _ h => h) (Or.inl ⟨by rfl, by (intro w hSw; (try dsimp only at hSw); go_simp)⟩) hHeld ?_
            (try simp only [Act.put, List.getElem_toArray, List.getElem_cons_zero, List.getElem_cons_succ, List.setIfInBounds_toArray, List.set_cons_zero, List.set_cons_succ])
            refine wpAnyH_take (i := 5) (v := .int .i64 (en : Nat)) rfl (by kernel_rfl) (by kernel_rfl) (by kernel_rfl) (fun _ _ _ h => h) (Or.inl ⟨by rfl, (by intro w9 hSw; (try dsimp only at hSw); obtain ⟨kk, hs⟩ := hSw; have c1 : w9.cell? ⟨b5, 1, none⟩ = some (.int .i64 (en : Nat)) := hs.tl.tl.tl.tl.tl.tl.tl.tl.boxAt 1; go_simp)⟩) hHeld ?_
            (try simp only [Act.put, List.getElem_toArray, List.getElem_cons_zero, List.getElem_cons_succ, List.setIfInBounds_toArray, List.set_cons_zero, List.set_cons_succ])
            refine wpAnyH_take (i := 6) (v := .int .i64 (at_ : Nat)) rfl (by kernel_rfl) (by kernel_rfl) (by kernel_rfl) (fun _ _ _ h => h) (Or.inl ⟨by rfl, by (intro w hSw; (try dsimp only at hSw); go_simp)⟩) hHeld ?_
            (try simp only [Act.put, List.getElem_toArray, List.getElem_cons_zero, List.getElem_cons_succ, List.setIfInBounds_toArray, List.set_cons_zero, List.set_cons_succ])
            refine wpAnyH_take (i := 7) (v := .int .i64 ((en : Int) + (at_ : Int))) rfl (by kernel_rfl) (by kernel_rfl) (by kernel_rfl) (fun _ _ _ h => h) (Or.inl ⟨by rfl, by (intro w hSw; (try dsimp only at hSw); go_simp)⟩) hHeld ?_
            (try simp only [Act.put, List.getElem_toArray, List.getElem_cons_zero, List.getElem_cons_succ, List.setIfInBounds_toArray, List.set_cons_zero, List.set_cons_succ])
            refine wpAnyH_take (i := 8) (v := .int .i64 (be : Nat)) rfl (by kernel_rfl) (by kernel_rfl) (by kernel_rfl) (fun _ _ _ h => h) (Or.inl ⟨by rfl, by (intro w hSw; (try dsimp only at hSw); go_simp)⟩) hHeld ?_
            (try simp only [Act.put, List.getElem_toArray, List.getElem_cons_zero, List.getElem_cons_succ, List.setIfInBounds_toArray, List.set_cons_zero, List.set_cons_succ])
            refine wpAnyH_take (i := 9) (v := .int .i64 (pl : Nat)) rfl (by kernel_rfl) (by kernel_rfl) (by kernel_rfl) (fun _ _ _ h => h) (Or.inl ⟨by rfl, by (intro w hSw; (try dsimp only at hSw); go_simp)⟩) hHeld ?_
            (try simp only [Act.put, List.getElem_toArray, List.getElem_cons_zero, List.getElem_cons_succ, List.setIfInBounds_toArray, List.set_cons_zero, List.set_cons_succ])
            refine wpAnyH_ready (rs := [10]) (by kernel_rfl) (by simp) ?_
            refine AllReadyH.cons rfl (fun K hK => ?_) (AllReadyH.nil)
            rw [if_pos (by rfl)]
            go_wp2_with fail
            refine HBG.out.mono ?_
            rintro _ y5 ⟨rfl, hs5⟩
            have S5 := Lib.hid hs5
            refine hK.out _ _ ⟨k3, hs5⟩ (fun hHeld2 => ?_)
            clear hHeld hK
            have hHeld := hHeld2
            clear hHeld2
            (try simp only [Act.put, List.getElem_toArray, List.getElem_cons_zero, List.getElem_cons_succ, List.setIfInBounds_toArray, List.set_cons_zero, List.set_cons_succ])
            have e13 : y5.cell? ⟨b13, 1, none⟩ = some (.int .i64 (k3 : Nat)) := hs5.tl.tl.tl.tl.boxAt 1
            clear hs5
            refine wpAnyH_take (i := 11) (v := .bool true) rfl (by kernel_rfl) (by kernel_rfl) (by kernel_rfl) (fun _ _ _ h => h) (Or.inl ⟨by rfl, by (intro w hSw; (try dsimp only at hSw); go_simp)⟩) hHeld ?_
            (try simp only [Act.put, List.getElem_toArray, List.getElem_cons_zero, List.getElem_cons_succ, List.setIfInBounds_toArray, List.set_cons_zero, List.set_cons_succ])
            refine wpAnyH_take (i := 12) (v := .bool true) rfl (by kernel_rfl) (by kernel_rfl) (by kernel_rfl) (fun _ _ _ h => h) (Or.inl ⟨by rfl, by (intro w hSw; (try dsimp only at hSw); go_simp)⟩) hHeld ?_
            (try simp only [Act.put, List.getElem_toArray, List.getElem_cons_zero, List.getElem_cons_succ, List.setIfInBounds_toArray, List.set_cons_zero, List.set_cons_succ])
            refine wpAnyH_take (i := 13) (v := .pointer (some ⟨b, 0, none⟩)) rfl (by kernel_rfl) (by kernel_rfl) (by kernel_rfl) (fun _ _ _ h => h) (Or.inl ⟨by rfl, by (intro w hSw; (try dsimp only at hSw); go_simp)⟩) hHeld ?_
            (try simp only [Act.put, List.getElem_toArray, List.getElem_cons_zero, List.getElem_cons_succ, List.setIfInBounds_toArray, List.set_cons_zero, List.set_cons_succ])
            refine wpAnyH_take (i := 14) (v := .pointer (some ⟨b, 0, none⟩)) rfl (by kernel_rfl) (by kernel_rfl) (by kernel_rfl) (fun _ _ _ h => h) (Or.inl ⟨by rfl, by (intro w hSw; (try dsimp only at hSw); go_simp)⟩) hHeld ?_
            (try simp only [Act.put, List.getElem_toArray, List.getElem_cons_zero, List.getElem_cons_succ, List.setIfInBounds_toArray, List.set_cons_zero, List.set_cons_succ])
            refine wpAnyH_take (i := 15) (v := .pointer (some ⟨b, 2, none⟩)) rfl (by kernel_rfl) (by kernel_rfl) (by kernel_rfl) (fun _ _ _ h => h) (Or.inl ⟨by rfl, by (intro w hSw; (try dsimp only at hSw); go_simp)⟩) hHeld ?_
            (try simp only [Act.put, List.getElem_toArray, List.getElem_cons_zero, List.getElem_cons_succ, List.setIfInBounds_toArray, List.set_cons_zero, List.set_cons_succ])
            refine wpAnyH_take (i := 16) (v := .pointer (some ⟨b, 3, none⟩)) rfl (by kernel_rfl) (by kernel_rfl) (by kernel_rfl) (fun _ _ _ h => h) (Or.inl ⟨by rfl, by (intro w hSw; (try dsimp only at hSw); go_simp)⟩) hHeld ?_
            (try simp only [Act.put, List.getElem_toArray, List.getElem_cons_zero, List.getElem_cons_succ, List.setIfInBounds_toArray, List.set_cons_zero, List.set_cons_succ])
            refine wpAnyH_take (i := 17) (v := .slice (some ⟨g2, oo, none⟩) (lo + 1) c2) rfl (by kernel_rfl) (by kernel_rfl) (by kernel_rfl) (fun _ _ _ h => h) (Or.inl ⟨by rfl, (by intro w9 hSw; (try dsimp only at hSw); obtain ⟨kk, hs⟩ := hSw; have c1 := HCELL.out w9 hs.bel b hbN _ _ HCS.out.2.1; go_simp)⟩) hHeld ?_
            (try simp only [Act.put, List.getElem_toArray, List.getElem_cons_zero, List.getElem_cons_succ, List.setIfInBounds_toArray, List.set_cons_zero, List.set_cons_succ])
            refine wpAnyH_take (i := 18) (v := .pointer (some ⟨b13, 1, none⟩)) rfl (by kernel_rfl) (by kernel_rfl) (by kernel_rfl) (fun _ _ _ h => h) (Or.inl ⟨by rfl, by (intro w hSw; (try dsimp only at hSw); go_simp)⟩) hHeld ?_
            (try simp only [Act.put, List.getElem_toArray, List.getElem_cons_zero, List.getElem_cons_succ, List.setIfInBounds_toArray, List.set_cons_zero, List.set_cons_succ])
            refine wpAnyH_take (i := 22) (v := .agg #[.slice q lm f, .int .i64 m.opn, .int .i64 m.col, .bool m.fresh, .int .i64 m.lead]) rfl (by kernel_rfl) (by kernel_rfl) (by kernel_rfl) (fun _ _ _ h => h) (Or.inl ⟨by rfl, (by intro w9 hSw; (try dsimp only at hSw); obtain ⟨kk, hs⟩ := hSw; have c0 : w9.cell? ⟨b11, 0, none⟩ = some (.slice q lm f) := hs.tl.tl.tl.tl.tl.boxAt 0; have c1 : w9.cell? ⟨b11, 1, none⟩ = some (.int .i64 m.opn) := hs.tl.tl.tl.tl.tl.boxAt 1; have c2 : w9.cell? ⟨b11, 2, none⟩ = some (.int .i64 m.col) := hs.tl.tl.tl.tl.tl.boxAt 2; have c3 : w9.cell? ⟨b11, 3, none⟩ = some (.bool m.fresh) := hs.tl.tl.tl.tl.tl.boxAt 3; have c4 : w9.cell? ⟨b11, 4, none⟩ = some (.int .i64 m.lead) := hs.tl.tl.tl.tl.tl.boxAt 4; go_simp)⟩) hHeld ?_
            (try simp only [Act.put, List.getElem_toArray, List.getElem_cons_zero, List.getElem_cons_succ, List.setIfInBounds_toArray, List.set_cons_zero, List.set_cons_succ])
            refine wpAnyH_ready (rs := [19]) (by kernel_rfl) (by simp) ?_
            refine AllReadyH.cons rfl (fun K hK => ?_) (AllReadyH.nil)
            rw [if_pos (by rfl)]
            go_wp2_with fail
            refine hK.out _ _ ⟨k3, S5.out⟩ (fun hHeld2 => ?_)
            clear hHeld hK
            have hHeld := hHeld2
            clear hHeld2
            (try simp only [Act.put, List.getElem_toArray, List.getElem_cons_zero, List.getElem_cons_succ, List.setIfInBounds_toArray, List.set_cons_zero, List.set_cons_succ])
            refine wpAnyH_take (i := 20) (v := .pointer (some ⟨g2, oo + k3 * 5, none⟩)) rfl (by kernel_rfl) (by kernel_rfl) (by kernel_rfl) (fun _ _ _ h => h) (Or.inl ⟨by rfl, by (intro w hSw; (try dsimp only at hSw); go_simp)⟩) hHeld ?_
            (try simp only [Act.put, List.getElem_toArray, List.getElem_cons_zero, List.getElem_cons_succ, List.setIfInBounds_toArray, List.set_cons_zero, List.set_cons_succ])
            refine wpAnyH_take (i := 21) (v := .agg #[.slice q6 lmo f6, .int .i64 mo.opn, .int .i64 mo.col, .bool mo.fresh, .int .i64 mo.lead]) rfl (by kernel_rfl) (by kernel_rfl) (by kernel_rfl) (fun _ _ _ h => h) (Or.inl ⟨by rfl, (by intro w9 hSw; (try dsimp only at hSw); obtain ⟨kk, hs⟩ := hSw; have c0 := HCELL.out w9 hs.bel g2 hg2 _ _ HN5.out.1; have c1 := HCELL.out w9 hs.bel g2 hg2 _ _ HN5.out.2.1; have c2 := HCELL.out w9 hs.bel g2 hg2 _ _ HN5.out.2.2.1; have c3 := HCELL.out w9 hs.bel g2 hg2 _ _ HN5.out.2.2.2.1; have c4 := HCELL.out w9 hs.bel g2 hg2 _ _ HN5.out.2.2.2.2; go_simp)⟩) hHeld ?_
            (try simp only [Act.put, List.getElem_toArray, List.getElem_cons_zero, List.getElem_cons_succ, List.setIfInBounds_toArray, List.set_cons_zero, List.set_cons_succ])
            refine wpAnyH_ready (rs := [23]) (by kernel_rfl) (by simp) ?_
            refine AllReadyH.cons rfl (fun K hK => ?_) (AllReadyH.nil)
            rw [if_pos (by rfl)]
            go_wp2_with fail
            refine (HSM2.out _ S5.out).mono ?_
            rintro _ y6 ⟨rfl, hb6⟩
            have S6 := Lib.hid (S5.out.up hb6)
            refine hK.out _ _ ⟨k3, S6.out⟩ (fun hHeld2 => ?_)
            clear hHeld hK
            have hHeld := hHeld2
            clear hHeld2
            (try simp only [Act.put, List.getElem_toArray, List.getElem_cons_zero, List.getElem_cons_succ, List.setIfInBounds_toArray, List.set_cons_zero, List.set_cons_succ])
            clear hb6
            refine wpAnyH_take (i := 24) (v := .bool bsm) rfl (by kernel_rfl) (by kernel_rfl) (by kernel_rfl) (fun _ _ _ h => h) (Or.inl ⟨by rfl, by (intro w hSw; (try dsimp only at hSw); go_simp)⟩) hHeld ?_
            (try simp only [Act.put, List.getElem_toArray, List.getElem_cons_zero, List.getElem_cons_succ, List.setIfInBounds_toArray, List.set_cons_zero, List.set_cons_succ])
            refine wpAnyH_done (by kernel_rfl) ?_ _
            clear hHeld
            all_goals
              go_wp2_with fail
              go_meet
              case rel =>
                have hOne2 : ∀ r ∈ Lo, 1 ≤ r.2.1 := by rw [← HLO.out]; exact HF.out.fit.one
                have hpe : off Lo k3 = en + (off Ln n - be) := by rw [HP.out, ← HPL.out, HAT.out]
                refine ⟨bsm, k3, rfl, HKK.out.1, HKK.out.2, Lib.hid (by rw [HPL.out]; exact HBF.out), Lib.hid (fun hb => back_no_mark hOne2 HKK.out.2 hpe (by rw [HMO.out]; exact hb)), Lib.hid (fun hb => back_yes HRD.out.hn HKL3.out (by rw [← HAT.out]; exact hle) hpe (by rw [HMO.out]; exact hb)), S6⟩
          · rw [decide_eq_false hp] at HBG
            have HP := Lib.hid hp
            clear hp g1 g2' g3 g4 hpl hplL hlL hOne2 HSM
            have HS0 : Hid ((fun z => ∃ kk, Sep B w z (fr o1 (.slice r1 z1 l1) 38 3 z1 x1 :: fr o2 (.slice r2 z2 l2) 36 5 z2 x2 :: fr o3 (.slice r3 z3 l3) 3 1 z3 x3 :: fr o4 (.slice r4 nT l4) 40 3 nT x4 :: bxT b13 (.slice p1 lo c1) kk (off Lo kk) :: .box b11 (.cells #[.slice q lm f, .int .i64 m.opn, .int .i64 m.col, .bool m.fresh, .int .i64 m.lead] 36 (0, 0)) :: bxL b10 #[.slice r1 z1 l1, .slice r2 z2 l2, .slice r3 z3 l3, .slice r4 nT l4] :: bxL b6 zL :: .box b5 (.cells #[.int .i64 (st : Nat), .int .i64 (en : Nat), .string x] 45 (0, 0)) :: Y)) wo.drew) := Lib.hid ⟨k2, S1.out.drew⟩
            refine wp_region_held_drew (S := fun z => ∃ kk, Sep B w z (fr o1 (.slice r1 z1 l1) 38 3 z1 x1 :: fr o2 (.slice r2 z2 l2) 36 5 z2 x2 :: fr o3 (.slice r3 z3 l3) 3 1 z3 x3 :: fr o4 (.slice r4 nT l4) 40 3 nT x4 :: bxT b13 (.slice p1 lo c1) kk (off Lo kk) :: .box b11 (.cells #[.slice q lm f, .int .i64 m.opn, .int .i64 m.col, .bool m.fresh, .int .i64 m.lead] 36 (0, 0)) :: bxL b10 #[.slice r1 z1 l1, .slice r2 z2 l2, .slice r3 z3 l3, .slice r4 nT l4] :: bxL b6 zL :: .box b5 (.cells #[.int .i64 (st : Nat), .int .i64 (en : Nat), .string x] 45 (0, 0)) :: Y)) (by kernel_rfl) HS0.out (fun hHeld => ?_)
            refine wpAnyH_take (i := 0) (v := .int .i64 (at_ : Nat)) rfl (by kernel_rfl) (by kernel_rfl) (by kernel_rfl) (fun _ _ _ h => h) (Or.inl ⟨by rfl, by (intro w hSw; (try dsimp only at hSw); go_simp)⟩) hHeld ?_
            (try simp only [Act.put, List.getElem_toArray, List.getElem_cons_zero, List.getElem_cons_succ, List.setIfInBounds_toArray, List.set_cons_zero, List.set_cons_succ])
            refine wpAnyH_take (i := 1) (v := .int .i64 (be : Nat)) rfl (by kernel_rfl) (by kernel_rfl) (by kernel_rfl) (fun _ _ _ h => h) (Or.inl ⟨by rfl, by (intro w hSw; (try dsimp only at hSw); go_simp)⟩) hHeld ?_
            (try simp only [Act.put, List.getElem_toArray, List.getElem_cons_zero, List.getElem_cons_succ, List.setIfInBounds_toArray, List.set_cons_zero, List.set_cons_succ])
            refine wpAnyH_take (i := 2) (v := .bool true) rfl (by kernel_rfl) (by kernel_rfl) (by kernel_rfl) (fun _ _ _ h => h) (Or.inl ⟨by rfl, by (intro w hSw; (try dsimp only at hSw); go_simp)⟩) hHeld ?_
            (try simp only [Act.put, List.getElem_toArray, List.getElem_cons_zero, List.getElem_cons_succ, List.setIfInBounds_toArray, List.set_cons_zero, List.set_cons_succ])
            refine wpAnyH_take (i := 3) (v := .bool true) rfl (by kernel_rfl) (by kernel_rfl) (by kernel_rfl) (fun _ _ _ h => h) (Or.inl ⟨by rfl, by (intro w hSw; (try dsimp only at hSw); go_simp)⟩) hHeld ?_
            (try simp only [Act.put, List.getElem_toArray, List.getElem_cons_zero, List.getElem_cons_succ, List.setIfInBounds_toArray, List.set_cons_zero, List.set_cons_succ])
            refine wpAnyH_take (i := 4) (v := .pointer (some ⟨b5, 1, none⟩)) rfl (by kernel_rfl) (by kernel_rfl) (by kernel_rfl) (fun _ _ _ h => h) (Or.inl ⟨by rfl, by (intro w hSw; (try dsimp only at hSw); go_simp)⟩) hHeld ?_
            (try simp only [Act.put, List.getElem_toArray, List.getElem_cons_zero, List.getElem_cons_succ, List.setIfInBounds_toArray, List.set_cons_zero, List.set_cons_succ])
            refine wpAnyH_take (i := 5) (v := .int .i64 (en : Nat)) rfl (by kernel_rfl) (by kernel_rfl) (by kernel_rfl) (fun _ _ _ h => h) (Or.inl ⟨by rfl, (by intro w9 hSw; (try dsimp only at hSw); obtain ⟨kk, hs⟩ := hSw; have c1 : w9.cell? ⟨b5, 1, none⟩ = some (.int .i64 (en : Nat)) := hs.tl.tl.tl.tl.tl.tl.tl.tl.boxAt 1; go_simp)⟩) hHeld ?_
            (try simp only [Act.put, List.getElem_toArray, List.getElem_cons_zero, List.getElem_cons_succ, List.setIfInBounds_toArray, List.set_cons_zero, List.set_cons_succ])
            refine wpAnyH_take (i := 6) (v := .int .i64 (at_ : Nat)) rfl (by kernel_rfl) (by kernel_rfl) (by kernel_rfl) (fun _ _ _ h => h) (Or.inl ⟨by rfl, by (intro w hSw; (try dsimp only at hSw); go_simp)⟩) hHeld ?_
            (try simp only [Act.put, List.getElem_toArray, List.getElem_cons_zero, List.getElem_cons_succ, List.setIfInBounds_toArray, List.set_cons_zero, List.set_cons_succ])
            refine wpAnyH_take (i := 7) (v := .int .i64 ((en : Int) + (at_ : Int))) rfl (by kernel_rfl) (by kernel_rfl) (by kernel_rfl) (fun _ _ _ h => h) (Or.inl ⟨by rfl, by (intro w hSw; (try dsimp only at hSw); go_simp)⟩) hHeld ?_
            (try simp only [Act.put, List.getElem_toArray, List.getElem_cons_zero, List.getElem_cons_succ, List.setIfInBounds_toArray, List.set_cons_zero, List.set_cons_succ])
            refine wpAnyH_take (i := 8) (v := .int .i64 (be : Nat)) rfl (by kernel_rfl) (by kernel_rfl) (by kernel_rfl) (fun _ _ _ h => h) (Or.inl ⟨by rfl, by (intro w hSw; (try dsimp only at hSw); go_simp)⟩) hHeld ?_
            (try simp only [Act.put, List.getElem_toArray, List.getElem_cons_zero, List.getElem_cons_succ, List.setIfInBounds_toArray, List.set_cons_zero, List.set_cons_succ])
            refine wpAnyH_take (i := 9) (v := .int .i64 (pl : Nat)) rfl (by kernel_rfl) (by kernel_rfl) (by kernel_rfl) (fun _ _ _ h => h) (Or.inl ⟨by rfl, by (intro w hSw; (try dsimp only at hSw); go_simp)⟩) hHeld ?_
            (try simp only [Act.put, List.getElem_toArray, List.getElem_cons_zero, List.getElem_cons_succ, List.setIfInBounds_toArray, List.set_cons_zero, List.set_cons_succ])
            refine wpAnyH_ready (rs := [10]) (by kernel_rfl) (by simp) ?_
            refine AllReadyH.cons rfl (fun K hK => ?_) (AllReadyH.nil)
            rw [if_pos (by rfl)]
            go_wp2_with fail
            refine HBG.out.mono ?_
            rintro _ y5 ⟨rfl, hs5⟩
            have S5 := Lib.hid hs5
            refine hK.out _ _ ⟨k3, hs5⟩ (fun hHeld2 => ?_)
            clear hHeld hK
            have hHeld := hHeld2
            clear hHeld2
            (try simp only [Act.put, List.getElem_toArray, List.getElem_cons_zero, List.getElem_cons_succ, List.setIfInBounds_toArray, List.set_cons_zero, List.set_cons_succ])
            clear hs5
            refine wpAnyH_take (i := 11) (v := .bool false) rfl (by kernel_rfl) (by kernel_rfl) (by kernel_rfl) (fun _ _ _ h => h) (Or.inl ⟨by rfl, by (intro w hSw; (try dsimp only at hSw); go_simp)⟩) hHeld ?_
            (try simp only [Act.put, List.getElem_toArray, List.getElem_cons_zero, List.getElem_cons_succ, List.setIfInBounds_toArray, List.set_cons_zero, List.set_cons_succ])
            refine wpAnyH_take (i := 12) (v := .bool false) rfl (by kernel_rfl) (by kernel_rfl) (by kernel_rfl) (fun _ _ _ h => h) (Or.inl ⟨by rfl, by (intro w hSw; (try dsimp only at hSw); go_simp)⟩) hHeld ?_
            (try simp only [Act.put, List.getElem_toArray, List.getElem_cons_zero, List.getElem_cons_succ, List.setIfInBounds_toArray, List.set_cons_zero, List.set_cons_succ])
            refine wpAnyH_take (i := 13) (v := undef) rfl (by kernel_rfl) (by kernel_rfl) (by kernel_rfl) (fun _ _ _ h => h) (Or.inr ⟨by rfl, rfl⟩) hHeld ?_
            (try simp only [Act.put, List.getElem_toArray, List.getElem_cons_zero, List.getElem_cons_succ, List.setIfInBounds_toArray, List.set_cons_zero, List.set_cons_succ])
            refine wpAnyH_take (i := 14) (v := undef) rfl (by kernel_rfl) (by kernel_rfl) (by kernel_rfl) (fun _ _ _ h => h) (Or.inr ⟨by rfl, rfl⟩) hHeld ?_
            (try simp only [Act.put, List.getElem_toArray, List.getElem_cons_zero, List.getElem_cons_succ, List.setIfInBounds_toArray, List.set_cons_zero, List.set_cons_succ])
            refine wpAnyH_take (i := 15) (v := undef) rfl (by kernel_rfl) (by kernel_rfl) (by kernel_rfl) (fun _ _ _ h => h) (Or.inr ⟨by rfl, rfl⟩) hHeld ?_
            (try simp only [Act.put, List.getElem_toArray, List.getElem_cons_zero, List.getElem_cons_succ, List.setIfInBounds_toArray, List.set_cons_zero, List.set_cons_succ])
            refine wpAnyH_take (i := 16) (v := undef) rfl (by kernel_rfl) (by kernel_rfl) (by kernel_rfl) (fun _ _ _ h => h) (Or.inr ⟨by rfl, rfl⟩) hHeld ?_
            (try simp only [Act.put, List.getElem_toArray, List.getElem_cons_zero, List.getElem_cons_succ, List.setIfInBounds_toArray, List.set_cons_zero, List.set_cons_succ])
            refine wpAnyH_take (i := 17) (v := undef) rfl (by kernel_rfl) (by kernel_rfl) (by kernel_rfl) (fun _ _ _ h => h) (Or.inr ⟨by rfl, rfl⟩) hHeld ?_
            (try simp only [Act.put, List.getElem_toArray, List.getElem_cons_zero, List.getElem_cons_succ, List.setIfInBounds_toArray, List.set_cons_zero, List.set_cons_succ])
            refine wpAnyH_take (i := 18) (v := undef) rfl (by kernel_rfl) (by kernel_rfl) (by kernel_rfl) (fun _ _ _ h => h) (Or.inr ⟨by rfl, rfl⟩) hHeld ?_
            (try simp only [Act.put, List.getElem_toArray, List.getElem_cons_zero, List.getElem_cons_succ, List.setIfInBounds_toArray, List.set_cons_zero, List.set_cons_succ])
            refine wpAnyH_take (i := 19) (v := undef) rfl (by kernel_rfl) (by kernel_rfl) (by kernel_rfl) (fun _ _ _ h => h) (Or.inr ⟨by rfl, rfl⟩) hHeld ?_
            (try simp only [Act.put, List.getElem_toArray, List.getElem_cons_zero, List.getElem_cons_succ, List.setIfInBounds_toArray, List.set_cons_zero, List.set_cons_succ])
            refine wpAnyH_take (i := 20) (v := undef) rfl (by kernel_rfl) (by kernel_rfl) (by kernel_rfl) (fun _ _ _ h => h) (Or.inr ⟨by rfl, rfl⟩) hHeld ?_
            (try simp only [Act.put, List.getElem_toArray, List.getElem_cons_zero, List.getElem_cons_succ, List.setIfInBounds_toArray, List.set_cons_zero, List.set_cons_succ])
            refine wpAnyH_take (i := 21) (v := undef) rfl (by kernel_rfl) (by kernel_rfl) (by kernel_rfl) (fun _ _ _ h => h) (Or.inr ⟨by rfl, rfl⟩) hHeld ?_
            (try simp only [Act.put, List.getElem_toArray, List.getElem_cons_zero, List.getElem_cons_succ, List.setIfInBounds_toArray, List.set_cons_zero, List.set_cons_succ])
            refine wpAnyH_take (i := 22) (v := undef) rfl (by kernel_rfl) (by kernel_rfl) (by kernel_rfl) (fun _ _ _ h => h) (Or.inr ⟨by rfl, rfl⟩) hHeld ?_
            (try simp only [Act.put, List.getElem_toArray, List.getElem_cons_zero, List.getElem_cons_succ, List.setIfInBounds_toArray, List.set_cons_zero, List.set_cons_succ])
            refine wpAnyH_take (i := 23) (v := undef) rfl (by kernel_rfl) (by kernel_rfl) (by kernel_rfl) (fun _ _ _ h => h) (Or.inr ⟨by rfl, rfl⟩) hHeld ?_
            (try simp only [Act.put, List.getElem_toArray, List.getElem_cons_zero, List.getElem_cons_succ, List.setIfInBounds_toArray, List.set_cons_zero, List.set_cons_succ])
            refine wpAnyH_take (i := 24) (v := .bool false) rfl (by kernel_rfl) (by kernel_rfl) (by kernel_rfl) (fun _ _ _ h => h) (Or.inl ⟨by rfl, by (intro w hSw; (try dsimp only at hSw); go_simp)⟩) hHeld ?_
            (try simp only [Act.put, List.getElem_toArray, List.getElem_cons_zero, List.getElem_cons_succ, List.setIfInBounds_toArray, List.set_cons_zero, List.set_cons_succ])
            refine wpAnyH_done (by kernel_rfl) ?_ _
            clear hHeld
            all_goals
              go_wp2_with fail
              go_meet
              case rel =>
                have hOne2 : ∀ r ∈ Lo, 1 ≤ r.2.1 := by rw [← HLO.out]; exact HF.out.fit.one
                have hpe : en + (off Ln n - be) = pl := by rw [← HAT.out, HPL.out]
                refine ⟨false, k3, rfl, HKK.out.1, HKK.out.2, Lib.hid (by rw [HPL.out]; exact HBF.out), Lib.hid (fun hb => back_no_at hOne2 HKK.out.2 (by rw [hpe]; exact HG3.out) (by rw [hpe]; exact HBF.out) (by rw [hpe]; exact HP.out)), Lib.hid (fun h => by cases h), S5⟩
        · have hgd : decide ((at_ : Int) ≥ (be : Int)) = false := by simp; omega
          have HNB : Hid (∀ j, ¬ Back Lo Ln (bl s) (bl t) en be n j) := Lib.hid (back_no_le (by rw [← HAT.out]; omega))
          go_quiet (fail)
          have S2 : Hid (Sep B w (wo.drewN nq) (fr o1 (.slice r1 z1 l1) 38 3 z1 x1 :: fr o2 (.slice r2 z2 l2) 36 5 z2 x2 :: fr o3 (.slice r3 z3 l3) 3 1 z3 x3 :: fr o4 (.slice r4 nT l4) 40 3 nT x4 :: bxT b13 (.slice p1 lo c1) k2 (off Lo k2) :: .box b11 (.cells #[.slice q lm f, .int .i64 m.opn, .int .i64 m.col, .bool m.fresh, .int .i64 m.lead] 36 (0, 0)) :: bxL b10 #[.slice r1 z1 l1, .slice r2 z2 l2, .slice r3 z3 l3, .slice r4 nT l4] :: bxL b6 zL :: .box b5 (.cells #[.int .i64 (st : Nat), .int .i64 (en : Nat), .string x] 45 (0, 0)) :: Y)) := Lib.hid (S1.out.up (below_drewN (Below.refl _ _) nq))
          go_wp2_with fail
          go_meet
          case rel => exact ⟨false, k2, rfl, Nat.le_refl _, HHI.out.1, Lib.hid HHI.out.2, Lib.hid (fun _ => HNB.out), Lib.hid (fun h => by cases h), S2⟩
      case rest =>
        obtain ⟨bb, k3, rfl, hk3, hkl3, HBF3, HNB3, HYB3, SC⟩ := hcut
        obtain ⟨y7, rfl⟩ : ∃ y : World, y = wc := ⟨_, rfl⟩
        have hb81 : bb = true ∨ bb = false := by cases bb <;> simp
        rcases hb81 with rfl | rfl
        · have HYB := Lib.hid (HYB3.out rfl)
          clear HNB3 HYB3
          obtain ⟨told3, htold3⟩ : ∃ n, (runM m0 (bl s) (Lo.take k3)).T.length = n := ⟨_, rfl⟩
          have hk3l : k3 < Lo.length := HYB.out.hk
          have hct3 : xo.counts[k3]? = some (told3 : Int) := by
            rw [← HXO.out, ← htold3, ← HLO.out]
            exact lx_count (scL d kl s) (bl s) (by rw [HLO.out]; omega)
          have htl3 : told3 < xo.toks.length := by
            have e := lx_ct (scL d kl s) (bl s) (n := k3) (by rw [HLO.out]; exact hk3l)
            rw [HLO.out, htold3] at e
            rw [← HXO.out, scX, HLO.out]
            exact e
          have HCT3 := Lib.hid hct3
          have HJ1 : Hid (Calls Try.prog 67 #[.agg #[.slice r1 z1 l1, .slice r2 z2 l2, .slice r3 z3 l3, .slice r4 nT l4], .agg #[.slice p1 lo c1, .slice (some ⟨g2, oo, none⟩) (lo + 1) c2, .slice p3 (lo + 1) c3, .slice p4 lt c4], .int .i64 (k3 : Nat)] y7.drew fun e w' => ∃ a1 n1 d1 a2 n2 d2 a3 n3 d3 a4 n4 d4, e = .returned (.agg #[.slice a1 n1 d1, .slice a2 n2 d2, .slice a3 n3 d3, .slice a4 n4 d4]) ∧ Hid (JnP B w (bxT b13 (.slice p1 lo c1) k3 (off Lo k3) :: .box b11 (.cells #[.slice q lm f, .int .i64 m.opn, .int .i64 m.col, .bool m.fresh, .int .i64 m.lead] 36 (0, 0)) :: bxL b10 #[.slice r1 z1 l1, .slice r2 z2 l2, .slice r3 z3 l3, .slice r4 nT l4] :: bxL b6 zL :: .box b5 (.cells #[.int .i64 (st : Nat), .int .i64 (en : Nat), .string x] 45 (0, 0)) :: Y) (Ln.take n) vs (m0 :: R.M) (0 :: R.C) R.T Lo xo k3 told3 e w') ∧ Hid (Sep B w w' (bxT b13 (.slice p1 lo c1) k3 (off Lo k3) :: .box b11 (.cells #[.slice q lm f, .int .i64 m.opn, .int .i64 m.col, .bool m.fresh, .int .i64 m.lead] 36 (0, 0)) :: bxL b10 #[.slice r1 z1 l1, .slice r2 z2 l2, .slice r3 z3 l3, .slice r4 nT l4] :: bxL b6 zL :: .box b5 (.cells #[.int .i64 (st : Nat), .int .i64 (en : Nat), .string x] 45 (0, 0)) :: Y))) := Lib.hid (by
            refine (HJN.out y7.drew k3 told3 hk3l hct3 htl3 SC.out.drew).mono ?_
            rintro e w' hj
            have HJ := Lib.hid hj
            obtain ⟨u1, u2, u3, u4, vsO, rfl, hx, hm, hs⟩ := hj
            obtain ⟨a1, a2, a3, a4, d1, d2, d3, d4, rfl, rfl, rfl, rfl, -⟩ := hx.lv hm hs
            exact ⟨_, _, _, _, _, _, _, _, _, _, _, _, rfl, HJ, Lib.hid hs.tl.tl.tl.tl⟩)
          have HFB : Hid (∀ (w' : World) (a1 a2 a3 a4 : Option Addr) (n1 d1 n2 d2 n3 d3 n4 d4 : Nat), JnP B w (bxT b13 (.slice p1 lo c1) k3 (off Lo k3) :: .box b11 (.cells #[.slice q lm f, .int .i64 m.opn, .int .i64 m.col, .bool m.fresh, .int .i64 m.lead] 36 (0, 0)) :: bxL b10 #[.slice r1 z1 l1, .slice r2 z2 l2, .slice r3 z3 l3, .slice r4 nT l4] :: bxL b6 #[.slice a1 n1 d1, .slice a2 n2 d2, .slice a3 n3 d3, .slice a4 n4 d4] :: .box b5 (.cells #[.int .i64 (st : Nat), .int .i64 (en : Nat), .string x] 45 (0, 0)) :: Y) (Ln.take n) vs (m0 :: R.M) (0 :: R.C) R.T Lo xo k3 told3 (.returned (.agg #[.slice a1 n1 d1, .slice a2 n2 d2, .slice a3 n3 d3, .slice a4 n4 d4])) w' → AgP B w XF d kl s t st en be (.returned (.tuple #[.agg #[.slice a1 n1 d1, .slice a2 n2 d2, .slice a3 n3 d3, .slice a4 n4 d4], .int .i64 ((n : Int) - (k : Int))])) w') := Lib.hid (by
            intro w' a1 a2 a3 a4 n1 d1 n2 d2 n3 d3 n4 d4 hj
            obtain ⟨u1, u2, u3, u4, vs2, he, hx, hm, hs, hc⟩ := HBACK.out w' k3 told3 _ _ HYB.out HCT3.out hj
            injection he with he
            injection he with he
            obtain ⟨J, hJ⟩ := HJY.out
            subst hJ
            exact ⟨true, true, true, true, u1, u2, u3, u4, vs2, (_ :: _ :: _ :: _ :: _ :: J), (n : Int) - (k : Int), by rw [he], hx, hm, hs, hc⟩)
          have hkn9 : k ≤ n := HI.out.kn
          have hsub : IntKind.i64.wrap ((z1 : Int) - (k : Int)) = (n : Int) - (k : Int) := by have := HZ1N.out; rw [IntWalk.i64_in _ (by omega)]; omega
          go_upto_region 8 with fail
          clear htold3 hk3l hct3 htl3 hkn9 HJN HBACK
          have HS0 : Hid ((fun z => Below B w z ∧ z.heap[b10]? = some (.cells #[.slice r1 z1 l1, .slice r2 z2 l2, .slice r3 z3 l3, .slice r4 nT l4] 28) ∧ z.heap[b13]? = some (.cells #[.slice p1 lo c1, .int .i64 (k3 : Nat), .int .i64 (off Lo k3 : Nat)] 117)) y7.drew) := Lib.hid ⟨SC.out.drew.bel, SC.out.drew.tl.tl.tl.tl.tl.tl.at.2, SC.out.drew.tl.tl.tl.tl.at.2⟩
          refine wp_region_held_drew (S := fun z => Below B w z ∧ z.heap[b10]? = some (.cells #[.slice r1 z1 l1, .slice r2 z2 l2, .slice r3 z3 l3, .slice r4 nT l4] 28) ∧ z.heap[b13]? = some (.cells #[.slice p1 lo c1, .int .i64 (k3 : Nat), .int .i64 (off Lo k3 : Nat)] 117)) (by kernel_rfl) HS0.out (fun hHeld => ?_)
          refine wpAnyH_take (i := 0) (v := .agg #[.slice r1 z1 l1, .slice r2 z2 l2, .slice r3 z3 l3, .slice r4 nT l4]) rfl (by kernel_rfl) (by kernel_rfl) (by kernel_rfl) (fun _ _ _ h => h) (Or.inl ⟨by rfl, (by intro w9 hSw; (try dsimp only at hSw); obtain ⟨hs1, hs2, hs3⟩ := hSw; have c0 := cell_of_row w9 b10 0 _ 28 (0, 0) hs2; have c1 := cell_of_row w9 b10 1 _ 28 (0, 0) hs2; have c2 := cell_of_row w9 b10 2 _ 28 (0, 0) hs2; have c3 := cell_of_row w9 b10 3 _ 28 (0, 0) hs2; simp only [List.getElem?_toArray, List.getElem?_cons_zero, List.getElem?_cons_succ] at c0 c1 c2 c3; go_simp)⟩) hHeld ?_
          (try simp only [Act.put, List.getElem_toArray, List.getElem_cons_zero, List.getElem_cons_succ, List.setIfInBounds_toArray, List.set_cons_zero, List.set_cons_succ])
          refine wpAnyH_take (i := 1) (v := .pointer (some ⟨b, 0, none⟩)) rfl (by kernel_rfl) (by kernel_rfl) (by kernel_rfl) (fun _ _ _ h => h) (Or.inl ⟨by rfl, by (intro w hSw; (try dsimp only at hSw); go_simp)⟩) hHeld ?_
          (try simp only [Act.put, List.getElem_toArray, List.getElem_cons_zero, List.getElem_cons_succ, List.setIfInBounds_toArray, List.set_cons_zero, List.set_cons_succ])
          refine wpAnyH_take (i := 2) (v := .pointer (some ⟨b, 0, none⟩)) rfl (by kernel_rfl) (by kernel_rfl) (by kernel_rfl) (fun _ _ _ h => h) (Or.inl ⟨by rfl, by (intro w hSw; (try dsimp only at hSw); go_simp)⟩) hHeld ?_
          (try simp only [Act.put, List.getElem_toArray, List.getElem_cons_zero, List.getElem_cons_succ, List.setIfInBounds_toArray, List.set_cons_zero, List.set_cons_succ])
          refine wpAnyH_take (i := 3) (v := .pointer (some ⟨b, 2, none⟩)) rfl (by kernel_rfl) (by kernel_rfl) (by kernel_rfl) (fun _ _ _ h => h) (Or.inl ⟨by rfl, by (intro w hSw; (try dsimp only at hSw); go_simp)⟩) hHeld ?_
          (try simp only [Act.put, List.getElem_toArray, List.getElem_cons_zero, List.getElem_cons_succ, List.setIfInBounds_toArray, List.set_cons_zero, List.set_cons_succ])
          refine wpAnyH_take (i := 4) (v := .agg #[.slice p1 lo c1, .slice (some ⟨g2, oo, none⟩) (lo + 1) c2, .slice p3 (lo + 1) c3, .slice p4 lt c4]) rfl (by kernel_rfl) (by kernel_rfl) (by kernel_rfl) (fun _ _ _ h => h) (Or.inl ⟨by rfl, (by intro w9 hSw; (try dsimp only at hSw); obtain ⟨hs1, hs2, hs3⟩ := hSw; have c0 := HCELL.out w9 hs1 b hbN _ _ HCS.out.1; have c1 := HCELL.out w9 hs1 b hbN _ _ HCS.out.2.1; have c2 := HCELL.out w9 hs1 b hbN _ _ HCS.out.2.2.1; have c3 := HCELL.out w9 hs1 b hbN _ _ HCS.out.2.2.2; go_simp)⟩) hHeld ?_
          (try simp only [Act.put, List.getElem_toArray, List.getElem_cons_zero, List.getElem_cons_succ, List.setIfInBounds_toArray, List.set_cons_zero, List.set_cons_succ])
          refine wpAnyH_take (i := 5) (v := .pointer (some ⟨b13, 1, none⟩)) rfl (by kernel_rfl) (by kernel_rfl) (by kernel_rfl) (fun _ _ _ h => h) (Or.inl ⟨by rfl, by (intro w hSw; (try dsimp only at hSw); go_simp)⟩) hHeld ?_
          (try simp only [Act.put, List.getElem_toArray, List.getElem_cons_zero, List.getElem_cons_succ, List.setIfInBounds_toArray, List.set_cons_zero, List.set_cons_succ])
          refine wpAnyH_take (i := 6) (v := .int .i64 (k3 : Nat)) rfl (by kernel_rfl) (by kernel_rfl) (by kernel_rfl) (fun _ _ _ h => h) (Or.inl ⟨by rfl, (by intro w9 hSw; (try dsimp only at hSw); obtain ⟨hs1, hs2, hs3⟩ := hSw; have c1 := cell_of_row w9 b13 1 _ 117 (0, 0) hs3; simp only [List.getElem?_toArray, List.getElem?_cons_zero, List.getElem?_cons_succ] at c1; go_simp)⟩) hHeld ?_
          (try simp only [Act.put, List.getElem_toArray, List.getElem_cons_zero, List.getElem_cons_succ, List.setIfInBounds_toArray, List.set_cons_zero, List.set_cons_succ])
          refine wpAnyH_take (i := 8) (v := .pointer (some ⟨b10, 0, none⟩)) rfl (by kernel_rfl) (by kernel_rfl) (by kernel_rfl) (fun _ _ _ h => h) (Or.inl ⟨by rfl, by (intro w hSw; (try dsimp only at hSw); go_simp)⟩) hHeld ?_
          (try simp only [Act.put, List.getElem_toArray, List.getElem_cons_zero, List.getElem_cons_succ, List.setIfInBounds_toArray, List.set_cons_zero, List.set_cons_succ])
          refine wpAnyH_take (i := 9) (v := .slice r1 z1 l1) rfl (by kernel_rfl) (by kernel_rfl) (by kernel_rfl) (fun _ _ _ h => h) (Or.inl ⟨by rfl, (by intro w9 hSw; (try dsimp only at hSw); obtain ⟨hs1, hs2, hs3⟩ := hSw; have c0 := cell_of_row w9 b10 0 _ 28 (0, 0) hs2; simp only [List.getElem?_toArray, List.getElem?_cons_zero, List.getElem?_cons_succ] at c0; go_simp)⟩) hHeld ?_
          (try simp only [Act.put, List.getElem_toArray, List.getElem_cons_zero, List.getElem_cons_succ, List.setIfInBounds_toArray, List.set_cons_zero, List.set_cons_succ])
          refine wpAnyH_take (i := 10) (v := .int .i64 (z1 : Nat)) rfl (by kernel_rfl) (by kernel_rfl) (by kernel_rfl) (fun _ _ _ h => h) (Or.inl ⟨by rfl, by (intro w hSw; (try dsimp only at hSw); go_simp)⟩) hHeld ?_
          (try simp only [Act.put, List.getElem_toArray, List.getElem_cons_zero, List.getElem_cons_succ, List.setIfInBounds_toArray, List.set_cons_zero, List.set_cons_succ])
          refine wpAnyH_take (i := 11) (v := .int .i64 (k : Nat)) rfl (by kernel_rfl) (by kernel_rfl) (by kernel_rfl) (fun _ _ _ h => h) (Or.inl ⟨by rfl, by (intro w hSw; (try dsimp only at hSw); go_simp)⟩) hHeld ?_
          (try simp only [Act.put, List.getElem_toArray, List.getElem_cons_zero, List.getElem_cons_succ, List.setIfInBounds_toArray, List.set_cons_zero, List.set_cons_succ])
          refine wpAnyH_take (i := 12) (v := .int .i64 ((n : Int) - (k : Int))) rfl (by kernel_rfl) (by kernel_rfl) (by kernel_rfl) (fun _ _ _ h => h) (Or.inl ⟨by rfl, by (intro w hSw; (try dsimp only at hSw); go_simp)⟩) hHeld ?_
          (try simp only [Act.put, List.getElem_toArray, List.getElem_cons_zero, List.getElem_cons_succ, List.setIfInBounds_toArray, List.set_cons_zero, List.set_cons_succ])
          refine wpAnyH_ready (rs := [7]) (by kernel_rfl) (by simp) ?_
          refine AllReadyH.cons rfl (fun K hK => ?_) (AllReadyH.nil)
          rw [if_pos (by rfl)]
          go_wp2_with fail
          refine HJ1.out.mono ?_
          rintro _ y5 ⟨a1, n1, d1, a2, n2, d2, a3, n3, d3, a4, n4, d4, rfl, HJ, HS5⟩
          refine hK.out _ _ ⟨HS5.out.bel, HS5.out.tl.tl.at.2, HS5.out.at.2⟩ (fun hHeld2 => ?_)
          clear hHeld hK
          have hHeld := hHeld2
          clear hHeld2
          (try simp only [Act.put, List.getElem_toArray, List.getElem_cons_zero, List.getElem_cons_succ, List.setIfInBounds_toArray, List.set_cons_zero, List.set_cons_succ])
          have e0 : y5.cell? ⟨b6, 0, none⟩ = some (.slice none 0 0) := HS5.out.tl.tl.tl.boxAt 0
          have e1 : y5.cell? ⟨b6, 1, none⟩ = some (.slice none 0 0) := HS5.out.tl.tl.tl.boxAt 1
          have e2 : y5.cell? ⟨b6, 2, none⟩ = some (.slice none 0 0) := HS5.out.tl.tl.tl.boxAt 2
          have e3 : y5.cell? ⟨b6, 3, none⟩ = some (.slice none 0 0) := HS5.out.tl.tl.tl.boxAt 3
          have g0 : y5.frozen? ⟨b6, 0, none⟩ = false := HS5.out.tl.tl.tl.fz 0
          have g1 : y5.frozen? ⟨b6, 1, none⟩ = false := HS5.out.tl.tl.tl.fz 1
          have g2 : y5.frozen? ⟨b6, 2, none⟩ = false := HS5.out.tl.tl.tl.fz 2
          have g3 : y5.frozen? ⟨b6, 3, none⟩ = false := HS5.out.tl.tl.tl.fz 3
          have S6 := Lib.hid ((((HS5.out.setAt [_, _, _] 0 (.slice a1 n1 d1)).setAt [_, _, _] 1 (.slice a2 n2 d2)).setAt [_, _, _] 2 (.slice a3 n3 d3)).setAt [_, _, _] 3 (.slice a4 n4 d4))
          refine wpAnyH_ready (rs := [13]) (by kernel_rfl) (by simp) ?_
          refine AllReadyH.cons rfl (fun K hK => ?_) (AllReadyH.nil)
          rw [if_pos (by rfl)]
          go_wp2_with fail
          refine hK.out _ _ ⟨S6.out.bel, S6.out.tl.tl.at.2, S6.out.at.2⟩ (fun hHeld2 => ?_)
          clear hHeld hK
          have hHeld := hHeld2
          clear hHeld2
          (try simp only [Act.put, List.getElem_toArray, List.getElem_cons_zero, List.getElem_cons_succ, List.setIfInBounds_toArray, List.set_cons_zero, List.set_cons_succ])
          refine wpAnyH_take (i := 14) (v := .int .i64 ((n : Int) - (k : Int))) rfl (by kernel_rfl) (by kernel_rfl) (by kernel_rfl) (fun _ _ _ h => h) (Or.inl ⟨by rfl, by (intro w hSw; (try dsimp only at hSw); go_simp)⟩) hHeld ?_
          (try simp only [Act.put, List.getElem_toArray, List.getElem_cons_zero, List.getElem_cons_succ, List.setIfInBounds_toArray, List.set_cons_zero, List.set_cons_succ])
          refine wpAnyH_done (by kernel_rfl) ?_ _
          clear hHeld e0 e1 e2 e3 g0 g1 g2 g3
          have HFF := Lib.hid (HFB.out _ a1 a2 a3 a4 n1 d1 n2 d2 n3 d3 n4 d4 (by
            obtain ⟨u1, u2, u3, u4, vsO, he, hx, hm, hs⟩ := HJ.out
            injection he with he
            injection he with he
            injection he with he
            injection he with h1 he
            injection he with h2 he
            injection he with h3 he
            injection he with h4 he
            subst h1 h2 h3 h4
            exact ⟨_, _, _, _, vsO, rfl, hx, hm.subI (fun v l hv => by simpa using hv), ((((hs.setAt [_, _, _, _, _, _, _] 0 (.slice a1 n1 d1)).setAt [_, _, _, _, _, _, _] 1 (.slice a2 n2 d2)).setAt [_, _, _, _, _, _, _] 2 (.slice a3 n3 d3)).setAt [_, _, _, _, _, _, _] 3 (.slice a4 n4 d4))⟩))
          go_wp2_with fail
          refine bodyPost_ret (results_lt rfl _ _ b6 _ rfl S6.out.tl.tl.tl.at.2 rfl) rfl ?_
          exact HFF.out
        · have HNB := Lib.hid (HNB3.out rfl)
          clear HNB3 HYB3
          have w0c := HCELL.out y7 SC.out.bel b hbN _ _ k0
          have sl1 : (at_ : Int) ≤ (t.size : Int) := by omega
          have sl2 : (0 : Int) ≤ (at_ : Int) := by omega
          have hz38 := zero38
          have lb : b < y7.heap.size := Nat.lt_of_lt_of_le (Nat.lt_of_lt_of_le hbN hNW) SC.out.bel.size
          have SD := Lib.hid SC.out.drew
          have SD2 := Lib.hid (SC.out.drew.alloc (.cells #[.int .i64 0, .int .i64 0, .int .i64 0] 38))
          clear SC
          go_upto_region 9 with fail
          go_cut [14] from 53 to 147 (fun s14 wx => ∃ b14, s14 = .pointer (some ⟨b14, 0, none⟩) ∧ Hid (Sep B w wx (.box b14 (.cells #[.int .i64 rk, .int .i64 (rn : Nat), .int .i64 (rl : Nat)] 38 (0, 0)) :: (fr o1 (.slice r1 z1 l1) 38 3 z1 x1 :: fr o2 (.slice r2 z2 l2) 36 5 z2 x2 :: fr o3 (.slice r3 z3 l3) 3 1 z3 x3 :: fr o4 (.slice r4 nT l4) 40 3 nT x4 :: bxT b13 (.slice p1 lo c1) k3 (off Lo k3) :: .box b11 (.cells #[.slice q lm f, .int .i64 m.opn, .int .i64 m.col, .bool m.fresh, .int .i64 m.lead] 36 (0, 0)) :: bxL b10 #[.slice r1 z1 l1, .slice r2 z2 l2, .slice r3 z3 l3, .slice r4 nT l4] :: bxL b6 zL :: .box b5 (.cells #[.int .i64 (st : Nat), .int .i64 (en : Nat), .string x] 45 (0, 0)) :: Y))))
          case first =>
            go_region_law (go_simp; go_at_call 68; first | (refine (HPC.out _ SD.out.bel).mono ?_; rintro _ y5 ⟨rfl, hb5⟩; have S5 := Lib.hid (SD.out.up hb5)) | (refine (HPC.out _ SD2.out.bel).mono ?_; rintro _ y5 ⟨rfl, hb5⟩; have S5 := Lib.hid (SD2.out.up hb5); have e0 : y5.cell? ⟨y7.heap.size, 0, none⟩ = some (.int .i64 0) := S5.out.boxAt 0; have e1 : y5.cell? ⟨y7.heap.size, 1, none⟩ = some (.int .i64 0) := S5.out.boxAt 1; have e2 : y5.cell? ⟨y7.heap.size, 2, none⟩ = some (.int .i64 0) := S5.out.boxAt 2; have e3 : y5.frozen? ⟨y7.heap.size, 0, none⟩ = false := S5.out.fz 0; have e4 : y5.frozen? ⟨y7.heap.size, 1, none⟩ = false := S5.out.fz 1; have e5 : y5.frozen? ⟨y7.heap.size, 2, none⟩ = false := S5.out.fz 2))
            all_goals
              clear SD SD2
              go_wp2_with fail
              go_meet
              case rel => first | exact ⟨_, rfl, Lib.hid (S5.out.alloc (.cells #[.int .i64 rk, .int .i64 (rn : Nat), .int .i64 (rl : Nat)] 38))⟩ | exact ⟨_, rfl, Lib.hid (((S5.out.setAt [] 0 (.int .i64 rk)).setAt [] 1 (.int .i64 (rn : Nat))).setAt [] 2 (.int .i64 (rl : Nat)))⟩
          case rest =>
            obtain ⟨b14, rfl, SE⟩ := hcut
            obtain ⟨y8, rfl⟩ : ∃ y : World, y = wc := ⟨_, rfl⟩
            clear w0c sl1 SD SD2
            have hms : IntKind.i64.wrap ((at_ : Int) + (rn : Int)) = ((at_ + rn : Nat) : Int) := by rw [IntWalk.i64_in _ (by omega)]; push_cast; rfl
            obtain ⟨ae, hae⟩ : ∃ a, at_ + rn = a := ⟨_, rfl⟩
            have HAE := Lib.hid hae
            rw [hae] at hms HST
            have sl1 : (at_ : Int) ≤ (ae : Int) := by omega
            have sl2 : (0 : Int) ≤ (at_ : Int) := by omega
            have sl3 : (ae : Int) ≤ (t.size : Int) := by omega
            have wm0 : y8.cell? ⟨b11, 0, none⟩ = some (.slice q lm f) := SE.out.tl.tl.tl.tl.tl.tl.boxAt 0
            have wm1 : y8.cell? ⟨b11, 1, none⟩ = some (.int .i64 m.opn) := SE.out.tl.tl.tl.tl.tl.tl.boxAt 1
            have wm2 : y8.cell? ⟨b11, 2, none⟩ = some (.int .i64 m.col) := SE.out.tl.tl.tl.tl.tl.tl.boxAt 2
            have wm3 : y8.cell? ⟨b11, 3, none⟩ = some (.bool m.fresh) := SE.out.tl.tl.tl.tl.tl.tl.boxAt 3
            have wm4 : y8.cell? ⟨b11, 4, none⟩ = some (.int .i64 m.lead) := SE.out.tl.tl.tl.tl.tl.tl.boxAt 4
            have wr0 : y8.cell? ⟨b14, 0, none⟩ = some (.int .i64 rk) := SE.out.boxAt 0
            have wr1 : y8.cell? ⟨b14, 1, none⟩ = some (.int .i64 (rn : Nat)) := SE.out.boxAt 1
            have wr2 : y8.cell? ⟨b14, 2, none⟩ = some (.int .i64 (rl : Nat)) := SE.out.boxAt 2
            have l14 : b14 < y8.heap.size := (It.lt SE.out.at rfl).2
            have l11 : b11 < y8.heap.size := (It.lt SE.out.tl.tl.tl.tl.tl.tl.at rfl).2
            have hz36 := zero24
            have SD := Lib.hid SE.out.drew
            have SD2 := Lib.hid ((SE.out.alloc (.cells zA 36)).drew)
            clear SE
            go_upto_region 10 with fail
            go_cut [15, 16] from 53 to 147 (fun s15 s16 wx => ∃ (b15 : Nat) (rE : Option Addr) (cE : Nat) (q8 : Option Addr) (f8 : Nat), s15 = .pointer (some ⟨b15, 0, none⟩) ∧ s16 = .slice rE nE cE ∧ Hid (Sep B w wx (.box b15 (.cells #[.slice q8 lm2 f8, .int .i64 m'.opn, .int .i64 m'.col, .bool m'.fresh, .int .i64 m'.lead] 36 (0, 0)) :: .row (.slice rE nE cE) 40 3 nE xE :: rI (.slice q8 lm2 f8) m'.cols :: .box b14 (.cells #[.int .i64 rk, .int .i64 (rn : Nat), .int .i64 (rl : Nat)] 38 (0, 0)) :: (fr o1 (.slice r1 z1 l1) 38 3 z1 x1 :: fr o2 (.slice r2 z2 l2) 36 5 z2 x2 :: fr o3 (.slice r3 z3 l3) 3 1 z3 x3 :: fr o4 (.slice r4 nT l4) 40 3 nT x4 :: bxT b13 (.slice p1 lo c1) k3 (off Lo k3) :: .box b11 (.cells #[.slice q lm f, .int .i64 m.opn, .int .i64 m.col, .bool m.fresh, .int .i64 m.lead] 36 (0, 0)) :: bxL b10 #[.slice r1 z1 l1, .slice r2 z2 l2, .slice r3 z3 l3, .slice r4 nT l4] :: bxL b6 zL :: .box b5 (.cells #[.int .i64 (st : Nat), .int .i64 (en : Nat), .string x] 45 (0, 0)) :: Y))))
            case first =>
              have HS0 : Hid ((fun z => z.heap[b11]? = some (.cells #[.slice q lm f, .int .i64 m.opn, .int .i64 m.col, .bool m.fresh, .int .i64 m.lead] 36) ∧ z.heap[b14]? = some (.cells #[.int .i64 rk, .int .i64 (rn : Nat), .int .i64 (rl : Nat)] 38)) y8.drew) := Lib.hid ⟨SD.out.tl.tl.tl.tl.tl.tl.at.2, SD.out.at.2⟩
              refine wp_region_held_drew (S := fun z => z.heap[b11]? = some (.cells #[.slice q lm f, .int .i64 m.opn, .int .i64 m.col, .bool m.fresh, .int .i64 m.lead] 36) ∧ z.heap[b14]? = some (.cells #[.int .i64 rk, .int .i64 (rn : Nat), .int .i64 (rl : Nat)] 38)) (by kernel_rfl) HS0.out (fun hHeld => ?_)
              refine wpAnyH_take (i := 0) (v := .agg #[.slice q lm f, .int .i64 m.opn, .int .i64 m.col, .bool m.fresh, .int .i64 m.lead]) rfl (by kernel_rfl) (by kernel_rfl) (by kernel_rfl) (fun _ _ _ h => h) (Or.inl ⟨by rfl, (by intro w hSw; (try dsimp only at hSw); have c0 := cell_of_row w b11 0 _ 36 (0, 0) hSw.1; have c1 := cell_of_row w b11 1 _ 36 (0, 0) hSw.1; have c2 := cell_of_row w b11 2 _ 36 (0, 0) hSw.1; have c3 := cell_of_row w b11 3 _ 36 (0, 0) hSw.1; have c4 := cell_of_row w b11 4 _ 36 (0, 0) hSw.1; simp only [List.getElem?_toArray, List.getElem?_cons_zero, List.getElem?_cons_succ] at c0 c1 c2 c3 c4; go_simp)⟩) hHeld ?_
              (try simp only [Act.put, List.getElem_toArray, List.getElem_cons_zero, List.getElem_cons_succ, List.setIfInBounds_toArray, List.set_cons_zero, List.set_cons_succ])
              refine wpAnyH_take (i := 1) (v := .string t) rfl (by kernel_rfl) (by kernel_rfl) (by kernel_rfl) (fun _ _ _ h => h) (Or.inl ⟨by rfl, by (intro w hSw; (try dsimp only at hSw); go_simp)⟩) hHeld ?_
              (try simp only [Act.put, List.getElem_toArray, List.getElem_cons_zero, List.getElem_cons_succ, List.setIfInBounds_toArray, List.set_cons_zero, List.set_cons_succ])
              refine wpAnyH_take (i := 2) (v := .int .i64 (at_ : Nat)) rfl (by kernel_rfl) (by kernel_rfl) (by kernel_rfl) (fun _ _ _ h => h) (Or.inl ⟨by rfl, by (intro w hSw; (try dsimp only at hSw); go_simp)⟩) hHeld ?_
              (try simp only [Act.put, List.getElem_toArray, List.getElem_cons_zero, List.getElem_cons_succ, List.setIfInBounds_toArray, List.set_cons_zero, List.set_cons_succ])
              refine wpAnyH_take (i := 3) (v := .int .i64 (at_ : Nat)) rfl (by kernel_rfl) (by kernel_rfl) (by kernel_rfl) (fun _ _ _ h => h) (Or.inl ⟨by rfl, by (intro w hSw; (try dsimp only at hSw); go_simp)⟩) hHeld ?_
              (try simp only [Act.put, List.getElem_toArray, List.getElem_cons_zero, List.getElem_cons_succ, List.setIfInBounds_toArray, List.set_cons_zero, List.set_cons_succ])
              refine wpAnyH_take (i := 4) (v := .pointer (some ⟨b14, 1, none⟩)) rfl (by kernel_rfl) (by kernel_rfl) (by kernel_rfl) (fun _ _ _ h => h) (Or.inl ⟨by rfl, by (intro w hSw; (try dsimp only at hSw); go_simp)⟩) hHeld ?_
              (try simp only [Act.put, List.getElem_toArray, List.getElem_cons_zero, List.getElem_cons_succ, List.setIfInBounds_toArray, List.set_cons_zero, List.set_cons_succ])
              refine wpAnyH_take (i := 5) (v := .int .i64 (rn : Nat)) rfl (by kernel_rfl) (by kernel_rfl) (by kernel_rfl) (fun _ _ _ h => h) (Or.inl ⟨by rfl, (by intro w hSw; (try dsimp only at hSw); have c0 := cell_of_row w b14 0 _ 38 (0, 0) hSw.2; have c1 := cell_of_row w b14 1 _ 38 (0, 0) hSw.2; have c2 := cell_of_row w b14 2 _ 38 (0, 0) hSw.2; simp only [List.getElem?_toArray, List.getElem?_cons_zero, List.getElem?_cons_succ] at c0 c1 c2; go_simp)⟩) hHeld ?_
              (try simp only [Act.put, List.getElem_toArray, List.getElem_cons_zero, List.getElem_cons_succ, List.setIfInBounds_toArray, List.set_cons_zero, List.set_cons_succ])
              refine wpAnyH_take (i := 6) (v := .int .i64 (ae : Nat)) rfl (by kernel_rfl) (by kernel_rfl) (by kernel_rfl) (fun _ _ _ h => h) (Or.inl ⟨by rfl, by (intro w hSw; (try dsimp only at hSw); go_simp)⟩) hHeld ?_
              (try simp only [Act.put, List.getElem_toArray, List.getElem_cons_zero, List.getElem_cons_succ, List.setIfInBounds_toArray, List.set_cons_zero, List.set_cons_succ])
              refine wpAnyH_take (i := 7) (v := .string (t.extract at_ ae)) rfl (by kernel_rfl) (by kernel_rfl) (by kernel_rfl) (fun _ _ _ h => h) (Or.inl ⟨by rfl, by (intro w hSw; (try dsimp only at hSw); go_simp)⟩) hHeld ?_
              (try simp only [Act.put, List.getElem_toArray, List.getElem_cons_zero, List.getElem_cons_succ, List.setIfInBounds_toArray, List.set_cons_zero, List.set_cons_succ])
              refine wpAnyH_take (i := 8) (v := .agg #[.int .i64 rk, .int .i64 (rn : Nat), .int .i64 (rl : Nat)]) rfl (by kernel_rfl) (by kernel_rfl) (by kernel_rfl) (fun _ _ _ h => h) (Or.inl ⟨by rfl, (by intro w hSw; (try dsimp only at hSw); have c0 := cell_of_row w b14 0 _ 38 (0, 0) hSw.2; have c1 := cell_of_row w b14 1 _ 38 (0, 0) hSw.2; have c2 := cell_of_row w b14 2 _ 38 (0, 0) hSw.2; simp only [List.getElem?_toArray, List.getElem?_cons_zero, List.getElem?_cons_succ] at c0 c1 c2; go_simp)⟩) hHeld ?_
              (try simp only [Act.put, List.getElem_toArray, List.getElem_cons_zero, List.getElem_cons_succ, List.setIfInBounds_toArray, List.set_cons_zero, List.set_cons_succ])
              refine wpAnyH_ready (rs := [9, 13]) (by kernel_rfl) (by simp) ?_
              refine AllReadyH.cons rfl (fun K hK => ?_) (AllReadyH.cons rfl (fun K hK => ?_) AllReadyH.nil)
              · rw [if_pos (by rfl)]
                go_wp2_with fail
                refine (HST.out _ _ (fun x hx => by simp [hx]) SD.out).mono ?_
                rintro _ y5 ⟨q8, f8, rE, cE, rfl, hs5⟩
                have S5 := Lib.hid hs5
                refine hK.out _ _ ⟨hs5.tl.tl.tl.tl.tl.tl.tl.tl.at.2, hs5.tl.tl.at.2⟩ (fun hHeld2 => ?_)
                clear hHeld hK
                have hHeld := hHeld2
                clear hHeld2
                (try simp only [Act.put, List.getElem_toArray, List.getElem_cons_zero, List.getElem_cons_succ, List.setIfInBounds_toArray, List.set_cons_zero, List.set_cons_succ])
                clear hs5
                refine wpAnyH_take (i := 10) (v := .tuple #[.agg #[.slice q8 lm2 f8, .int .i64 m'.opn, .int .i64 m'.col, .bool m'.fresh, .int .i64 m'.lead], .slice rE nE cE]) rfl (by kernel_rfl) (by kernel_rfl) (by kernel_rfl) (fun _ _ _ h => h) (Or.inl ⟨by rfl, by (intro w hSw; (try dsimp only at hSw); go_simp)⟩) hHeld ?_
                (try simp only [Act.put, List.getElem_toArray, List.getElem_cons_zero, List.getElem_cons_succ, List.setIfInBounds_toArray, List.set_cons_zero, List.set_cons_succ])
                refine wpAnyH_take (i := 11) (v := .agg #[.slice q8 lm2 f8, .int .i64 m'.opn, .int .i64 m'.col, .bool m'.fresh, .int .i64 m'.lead]) rfl (by kernel_rfl) (by kernel_rfl) (by kernel_rfl) (fun _ _ _ h => h) (Or.inl ⟨by rfl, by (intro w hSw; (try dsimp only at hSw); go_simp)⟩) hHeld ?_
                (try simp only [Act.put, List.getElem_toArray, List.getElem_cons_zero, List.getElem_cons_succ, List.setIfInBounds_toArray, List.set_cons_zero, List.set_cons_succ])
                refine wpAnyH_take (i := 12) (v := .slice rE nE cE) rfl (by kernel_rfl) (by kernel_rfl) (by kernel_rfl) (fun _ _ _ h => h) (Or.inl ⟨by rfl, by (intro w hSw; (try dsimp only at hSw); go_simp)⟩) hHeld ?_
                (try simp only [Act.put, List.getElem_toArray, List.getElem_cons_zero, List.getElem_cons_succ, List.setIfInBounds_toArray, List.set_cons_zero, List.set_cons_succ])
                refine wpAnyH_ready (rs := [13]) (by kernel_rfl) (by simp) ?_
                refine AllReadyH.cons rfl (fun K hK => ?_) (AllReadyH.nil)
                rw [if_pos (by rfl)]
                go_wp2_with fail
                have S6 := Lib.hid (S5.out.alloc (.cells zA 36))
                refine hK.out _ _ ⟨S6.out.tl.tl.tl.tl.tl.tl.tl.tl.tl.at.2, S6.out.tl.tl.tl.at.2⟩ (fun hHeld2 => ?_)
                clear hHeld hK
                have hHeld := hHeld2
                clear hHeld2
                (try simp only [Act.put, List.getElem_toArray, List.getElem_cons_zero, List.getElem_cons_succ, List.setIfInBounds_toArray, List.set_cons_zero, List.set_cons_succ])
                obtain ⟨b15, hb15⟩ : ∃ b, y5.heap.size = b := ⟨_, rfl⟩
                obtain ⟨y6, hy6⟩ : ∃ y, y5.alloc (.cells zA 36) = y := ⟨_, rfl⟩
                unfold zA at hy6 S6
                simp only [hb15, hy6] at S6 hHeld ⊢
                have S7 := Lib.hid (((((S6.out.setAt [] 0 (.slice q8 lm2 f8)).setAt [] 1 (.int .i64 m'.opn)).setAt [] 2 (.int .i64 m'.col)).setAt [] 3 (.bool m'.fresh)).setAt [] 4 (.int .i64 m'.lead))
                have e0 : y6.cell? ⟨b15, 0, none⟩ = some (.slice none 0 0) := S6.out.boxAt 0
                have e1 : y6.cell? ⟨b15, 1, none⟩ = some (.int .i64 0) := S6.out.boxAt 1
                have e2 : y6.cell? ⟨b15, 2, none⟩ = some (.int .i64 0) := S6.out.boxAt 2
                have e3 : y6.cell? ⟨b15, 3, none⟩ = some (.bool false) := S6.out.boxAt 3
                have e4 : y6.cell? ⟨b15, 4, none⟩ = some (.int .i64 0) := S6.out.boxAt 4
                have g0 : y6.frozen? ⟨b15, 0, none⟩ = false := S6.out.fz 0
                have g1 : y6.frozen? ⟨b15, 1, none⟩ = false := S6.out.fz 1
                have g2 : y6.frozen? ⟨b15, 2, none⟩ = false := S6.out.fz 2
                have g3 : y6.frozen? ⟨b15, 3, none⟩ = false := S6.out.fz 3
                have g4 : y6.frozen? ⟨b15, 4, none⟩ = false := S6.out.fz 4
                refine wpAnyH_ready (rs := [14]) (by kernel_rfl) (by simp) ?_
                refine AllReadyH.cons rfl (fun K hK => ?_) (AllReadyH.nil)
                rw [if_pos (by rfl)]
                go_wp2_with fail
                refine hK.out _ _ ⟨S7.out.tl.tl.tl.tl.tl.tl.tl.tl.tl.at.2, S7.out.tl.tl.tl.at.2⟩ (fun hHeld2 => ?_)
                clear hHeld hK
                have hHeld := hHeld2
                clear hHeld2
                (try simp only [Act.put, List.getElem_toArray, List.getElem_cons_zero, List.getElem_cons_succ, List.setIfInBounds_toArray, List.set_cons_zero, List.set_cons_succ])
                refine wpAnyH_take (i := 15) (v := .slice rE nE cE) rfl (by kernel_rfl) (by kernel_rfl) (by kernel_rfl) (fun _ _ _ h => h) (Or.inl ⟨by rfl, by (intro w hSw; (try dsimp only at hSw); go_simp)⟩) hHeld ?_
                (try simp only [Act.put, List.getElem_toArray, List.getElem_cons_zero, List.getElem_cons_succ, List.setIfInBounds_toArray, List.set_cons_zero, List.set_cons_succ])
                refine wpAnyH_done (by kernel_rfl) ?_ _
                go_wp2_with fail
                go_meet
                case rel => exact ⟨b15, rE, cE, q8, f8, rfl, rfl, S7⟩
              · rw [if_pos (by rfl)]
                go_wp2_with fail
                have S5 := SD2
                refine hK.out _ _ ⟨S5.out.tl.tl.tl.tl.tl.tl.tl.at.2, S5.out.tl.at.2⟩ (fun hHeld2 => ?_)
                clear hHeld hK
                have hHeld := hHeld2
                clear hHeld2
                (try simp only [Act.put, List.getElem_toArray, List.getElem_cons_zero, List.getElem_cons_succ, List.setIfInBounds_toArray, List.set_cons_zero, List.set_cons_succ])
                obtain ⟨b15, hb15⟩ : ∃ b, y8.heap.size = b := ⟨_, rfl⟩
                obtain ⟨y5, hy5⟩ : ∃ y, (y8.alloc (.cells zA 36)).drew = y := ⟨_, rfl⟩
                unfold zA at hy5 S5
                simp only [hb15, hy5] at S5 hHeld ⊢
                refine wpAnyH_ready (rs := [9]) (by kernel_rfl) (by simp) ?_
                refine AllReadyH.cons rfl (fun K hK => ?_) (AllReadyH.nil)
                rw [if_pos (by rfl)]
                go_wp2_with fail
                refine (HST.out _ _ (fun x hx => by simp [hx]) S5.out).mono ?_
                rintro _ y6 ⟨q8, f8, rE, cE, rfl, hs6⟩
                have S6 := Lib.hid (hs6.to 2 (by simp))
                refine hK.out _ _ ⟨hs6.tl.tl.tl.tl.tl.tl.tl.tl.tl.at.2, hs6.tl.tl.tl.at.2⟩ (fun hHeld2 => ?_)
                clear hHeld hK
                have hHeld := hHeld2
                clear hHeld2
                (try simp only [Act.put, List.getElem_toArray, List.getElem_cons_zero, List.getElem_cons_succ, List.setIfInBounds_toArray, List.set_cons_zero, List.set_cons_succ])
                clear hs6
                refine wpAnyH_take (i := 10) (v := .tuple #[.agg #[.slice q8 lm2 f8, .int .i64 m'.opn, .int .i64 m'.col, .bool m'.fresh, .int .i64 m'.lead], .slice rE nE cE]) rfl (by kernel_rfl) (by kernel_rfl) (by kernel_rfl) (fun _ _ _ h => h) (Or.inl ⟨by rfl, by (intro w hSw; (try dsimp only at hSw); go_simp)⟩) hHeld ?_
                (try simp only [Act.put, List.getElem_toArray, List.getElem_cons_zero, List.getElem_cons_succ, List.setIfInBounds_toArray, List.set_cons_zero, List.set_cons_succ])
                refine wpAnyH_take (i := 11) (v := .agg #[.slice q8 lm2 f8, .int .i64 m'.opn, .int .i64 m'.col, .bool m'.fresh, .int .i64 m'.lead]) rfl (by kernel_rfl) (by kernel_rfl) (by kernel_rfl) (fun _ _ _ h => h) (Or.inl ⟨by rfl, by (intro w hSw; (try dsimp only at hSw); go_simp)⟩) hHeld ?_
                (try simp only [Act.put, List.getElem_toArray, List.getElem_cons_zero, List.getElem_cons_succ, List.setIfInBounds_toArray, List.set_cons_zero, List.set_cons_succ])
                refine wpAnyH_take (i := 12) (v := .slice rE nE cE) rfl (by kernel_rfl) (by kernel_rfl) (by kernel_rfl) (fun _ _ _ h => h) (Or.inl ⟨by rfl, by (intro w hSw; (try dsimp only at hSw); go_simp)⟩) hHeld ?_
                (try simp only [Act.put, List.getElem_toArray, List.getElem_cons_zero, List.getElem_cons_succ, List.setIfInBounds_toArray, List.set_cons_zero, List.set_cons_succ])
                have S7 := Lib.hid (((((S6.out.setAt [] 0 (.slice q8 lm2 f8)).setAt [] 1 (.int .i64 m'.opn)).setAt [] 2 (.int .i64 m'.col)).setAt [] 3 (.bool m'.fresh)).setAt [] 4 (.int .i64 m'.lead))
                have e0 : y6.cell? ⟨b15, 0, none⟩ = some (.slice none 0 0) := S6.out.boxAt 0
                have e1 : y6.cell? ⟨b15, 1, none⟩ = some (.int .i64 0) := S6.out.boxAt 1
                have e2 : y6.cell? ⟨b15, 2, none⟩ = some (.int .i64 0) := S6.out.boxAt 2
                have e3 : y6.cell? ⟨b15, 3, none⟩ = some (.bool false) := S6.out.boxAt 3
                have e4 : y6.cell? ⟨b15, 4, none⟩ = some (.int .i64 0) := S6.out.boxAt 4
                have g0 : y6.frozen? ⟨b15, 0, none⟩ = false := S6.out.fz 0
                have g1 : y6.frozen? ⟨b15, 1, none⟩ = false := S6.out.fz 1
                have g2 : y6.frozen? ⟨b15, 2, none⟩ = false := S6.out.fz 2
                have g3 : y6.frozen? ⟨b15, 3, none⟩ = false := S6.out.fz 3
                have g4 : y6.frozen? ⟨b15, 4, none⟩ = false := S6.out.fz 4
                refine wpAnyH_ready (rs := [14]) (by kernel_rfl) (by simp) ?_
                refine AllReadyH.cons rfl (fun K hK => ?_) (AllReadyH.nil)
                rw [if_pos (by rfl)]
                go_wp2_with fail
                refine hK.out _ _ ⟨S7.out.tl.tl.tl.tl.tl.tl.tl.tl.tl.at.2, S7.out.tl.tl.tl.at.2⟩ (fun hHeld2 => ?_)
                clear hHeld hK
                have hHeld := hHeld2
                clear hHeld2
                (try simp only [Act.put, List.getElem_toArray, List.getElem_cons_zero, List.getElem_cons_succ, List.setIfInBounds_toArray, List.set_cons_zero, List.set_cons_succ])
                refine wpAnyH_take (i := 15) (v := .slice rE nE cE) rfl (by kernel_rfl) (by kernel_rfl) (by kernel_rfl) (fun _ _ _ h => h) (Or.inl ⟨by rfl, by (intro w hSw; (try dsimp only at hSw); go_simp)⟩) hHeld ?_
                (try simp only [Act.put, List.getElem_toArray, List.getElem_cons_zero, List.getElem_cons_succ, List.setIfInBounds_toArray, List.set_cons_zero, List.set_cons_succ])
                refine wpAnyH_done (by kernel_rfl) ?_ _
                go_wp2_with fail
                go_meet
                case rel => exact ⟨b15, rE, cE, q8, f8, rfl, rfl, S7⟩
            case rest =>
              obtain ⟨b15, rE, cE, q8, f8, rfl, rfl, SF⟩ := hcut
              obtain ⟨y9, rfl⟩ : ∃ y : World, y = wc := ⟨_, rfl⟩
              clear sl1 sl2 sl3 wm0 wm1 wm2 wm3 wm4 wr0 wr1 wr2 l14 l11 SD SD2 HST HPC
              obtain ⟨q9, f9, hsv⟩ := shV_slice m m' q q8 f f8
              rw [hlm0.out, hlm02.out] at hsv
              have HSV := Lib.hid hsv
              have wm0 : y9.cell? ⟨b11, 0, none⟩ = some (.slice q lm f) := SF.out.tl.tl.tl.tl.tl.tl.tl.tl.tl.boxAt 0
              have wm1 : y9.cell? ⟨b11, 1, none⟩ = some (.int .i64 m.opn) := SF.out.tl.tl.tl.tl.tl.tl.tl.tl.tl.boxAt 1
              have wm2 : y9.cell? ⟨b11, 2, none⟩ = some (.int .i64 m.col) := SF.out.tl.tl.tl.tl.tl.tl.tl.tl.tl.boxAt 2
              have wm3 : y9.cell? ⟨b11, 3, none⟩ = some (.bool m.fresh) := SF.out.tl.tl.tl.tl.tl.tl.tl.tl.tl.boxAt 3
              have wm4 : y9.cell? ⟨b11, 4, none⟩ = some (.int .i64 m.lead) := SF.out.tl.tl.tl.tl.tl.tl.tl.tl.tl.boxAt 4
              have wn0 : y9.cell? ⟨b15, 0, none⟩ = some (.slice q8 lm2 f8) := SF.out.boxAt 0
              have wn1 : y9.cell? ⟨b15, 1, none⟩ = some (.int .i64 m'.opn) := SF.out.boxAt 1
              have wn2 : y9.cell? ⟨b15, 2, none⟩ = some (.int .i64 m'.col) := SF.out.boxAt 2
              have wn3 : y9.cell? ⟨b15, 3, none⟩ = some (.bool m'.fresh) := SF.out.boxAt 3
              have wn4 : y9.cell? ⟨b15, 4, none⟩ = some (.int .i64 m'.lead) := SF.out.boxAt 4
              have wr1 : y9.cell? ⟨b14, 1, none⟩ = some (.int .i64 (rn : Nat)) := SF.out.tl.tl.tl.boxAt 1
              have hne : b14 ≠ b11 := fun e => (List.pairwise_cons.1 SF.out.tl.tl.tl.ap).1 (.box b11 (.cells #[.slice q lm f, .int .i64 m.opn, .int .i64 m.col, .bool m.fresh, .int .i64 m.lead] 36 (0, 0))) (by simp) b14 rfl (by rw [e]; rfl)
              have hne2 : b11 ≠ b14 := fun e => hne e.symm
              have SD := Lib.hid SF.out.drew
              have HS1 := Lib.hid (HSH.out _ _ _ _ _ _ (fun x hx => by simp [hx]) (SF.out.drew.to 2 (by simp)) hsv)
              clear SF HSH hsv
              go_upto_region 11 with fail
              go_cut [9] from 53 to 147 (fun s9 wx => s9 = .int .i64 (ae : Nat) ∧ Hid (Sep B w wx (.box b15 (.cells #[.slice q8 lm2 f8, .int .i64 m'.opn, .int .i64 m'.col, .bool m'.fresh, .int .i64 m'.lead] 36 (0, 0)) :: .row (.slice rE nE cE) 40 3 nE xE :: rI (.slice q8 lm2 f8) m'.cols :: .box b14 (.cells #[.int .i64 rk, .int .i64 (rn : Nat), .int .i64 (rl : Nat)] 38 (0, 0)) :: (fr o1 (.slice r1 z1 l1) 38 3 z1 x1 :: fr o2 (.slice r2 z2 l2) 36 5 z2 x2 :: fr o3 (.slice r3 z3 l3) 3 1 z3 x3 :: fr o4 (.slice r4 nT l4) 40 3 nT x4 :: bxT b13 (.slice p1 lo c1) k3 (off Lo k3) :: .box b11 (.cells #[.slice q9 lm2 f9, .int .i64 m'.opn, .int .i64 m'.col, .bool m'.fresh, .int .i64 m'.lead] 36 (0, 0)) :: bxL b10 #[.slice r1 z1 l1, .slice r2 z2 l2, .slice r3 z3 l3, .slice r4 nT l4] :: bxL b6 zL :: .box b5 (.cells #[.int .i64 (st : Nat), .int .i64 (en : Nat), .string x] 45 (0, 0)) :: Y))))
              case first =>
                go_region_law (go_simp; go_at_call 47; refine HS1.out.mono ?_; rintro _ y5 ⟨rfl, hb5⟩; have S5 := Lib.hid (SD.out.up hb5); have e9 : y5.cell? ⟨b14, 1, none⟩ = some (.int .i64 (rn : Nat)) := S5.out.tl.tl.tl.boxAt 1; have h0 : y5.cell? ⟨b11, 0, none⟩ = some (.slice q lm f) := S5.out.tl.tl.tl.tl.tl.tl.tl.tl.tl.boxAt 0; have g0 : y5.frozen? ⟨b11, 0, none⟩ = false := S5.out.tl.tl.tl.tl.tl.tl.tl.tl.tl.fz 0; have h1 : y5.cell? ⟨b11, 1, none⟩ = some (.int .i64 m.opn) := S5.out.tl.tl.tl.tl.tl.tl.tl.tl.tl.boxAt 1; have g1 : y5.frozen? ⟨b11, 1, none⟩ = false := S5.out.tl.tl.tl.tl.tl.tl.tl.tl.tl.fz 1; have h2 : y5.cell? ⟨b11, 2, none⟩ = some (.int .i64 m.col) := S5.out.tl.tl.tl.tl.tl.tl.tl.tl.tl.boxAt 2; have g2 : y5.frozen? ⟨b11, 2, none⟩ = false := S5.out.tl.tl.tl.tl.tl.tl.tl.tl.tl.fz 2; have h3 : y5.cell? ⟨b11, 3, none⟩ = some (.bool m.fresh) := S5.out.tl.tl.tl.tl.tl.tl.tl.tl.tl.boxAt 3; have g3 : y5.frozen? ⟨b11, 3, none⟩ = false := S5.out.tl.tl.tl.tl.tl.tl.tl.tl.tl.fz 3; have h4 : y5.cell? ⟨b11, 4, none⟩ = some (.int .i64 m.lead) := S5.out.tl.tl.tl.tl.tl.tl.tl.tl.tl.boxAt 4; have g4 : y5.frozen? ⟨b11, 4, none⟩ = false := S5.out.tl.tl.tl.tl.tl.tl.tl.tl.tl.fz 4)
                all_goals
                  go_wp2_with fail
                  go_meet
                  case rel => exact ⟨rfl, Lib.hid (((((S5.out.setAt [_, _, _, _, _, _, _, _, _] 0 (.slice q9 lm2 f9)).setAt [_, _, _, _, _, _, _, _, _] 1 (.int .i64 m'.opn)).setAt [_, _, _, _, _, _, _, _, _] 2 (.int .i64 m'.col)).setAt [_, _, _, _, _, _, _, _, _] 3 (.bool m'.fresh)).setAt [_, _, _, _, _, _, _, _, _] 4 (.int .i64 m'.lead))⟩
              case rest =>
                obtain ⟨rfl, SG⟩ := hcut
                obtain ⟨y10, rfl⟩ : ∃ y : World, y = wc := ⟨_, rfl⟩
                clear wm0 wm1 wm2 wm3 wm4 wn0 wn1 wn2 wn3 wn4 wr1 hne hne2 SD HS1
                obtain ⟨i1, hi1, ha0, ha1, ha2⟩ := info_parts info26z
                obtain ⟨i2, hi2, hb0, hb1, hb2⟩ := info_parts info24z
                obtain ⟨i3, hi3, hc0, hc1, hc2⟩ := info_parts info3b
                obtain ⟨i4, hi4, hd0, hd1, hd2⟩ := info_parts info35
                have S0 : Hid (Sep B w y10 (fr o1 (.slice r1 z1 l1) 38 3 z1 x1 :: fr o2 (.slice r2 z2 l2) 36 5 z2 x2 :: fr o3 (.slice r3 z3 l3) 3 1 z3 x3 :: fr o4 (.slice r4 nT l4) 40 3 nT x4 :: bxT b13 (.slice p1 lo c1) k3 (off Lo k3) :: .box b11 (.cells #[.slice q9 lm2 f9, .int .i64 m'.opn, .int .i64 m'.col, .bool m'.fresh, .int .i64 m'.lead] 36 (0, 0)) :: bxL b10 #[.slice r1 z1 l1, .slice r2 z2 l2, .slice r3 z3 l3, .slice r4 nT l4] :: bxL b6 zL :: .box b5 (.cells #[.int .i64 (st : Nat), .int .i64 (en : Nat), .string x] 45 (0, 0)) :: .box b15 (.cells #[.slice q8 lm2 f8, .int .i64 m'.opn, .int .i64 m'.col, .bool m'.fresh, .int .i64 m'.lead] 36 (0, 0)) :: .row (.slice rE nE cE) 40 3 nE xE :: rI (.slice q8 lm2 f8) m'.cols :: .box b14 (.cells #[.int .i64 rk, .int .i64 (rn : Nat), .int .i64 (rl : Nat)] 38 (0, 0)) :: Y)) := Lib.hid (SG.out.perm (List.perm_append_comm_assoc [_, _, _, _] [_, _, _, _, _, _, _, _, _] Y))
                clear SG
                -- 12
                have wx0 : y10.cell? ⟨b10, 0, none⟩ = some (.slice r1 z1 l1) := S0.out.tl.tl.tl.tl.tl.tl.boxAt 0
                have wr0 : y10.cell? ⟨b14, 0, none⟩ = some (.int .i64 rk) := S0.out.tl.tl.tl.tl.tl.tl.tl.tl.tl.tl.tl.tl.boxAt 0
                have wr1 : y10.cell? ⟨b14, 1, none⟩ = some (.int .i64 (rn : Nat)) := S0.out.tl.tl.tl.tl.tl.tl.tl.tl.tl.tl.tl.tl.boxAt 1
                have wr2 : y10.cell? ⟨b14, 2, none⟩ = some (.int .i64 (rl : Nat)) := S0.out.tl.tl.tl.tl.tl.tl.tl.tl.tl.tl.tl.tl.boxAt 2
                have SB := Lib.hid (S0.out.alloc (.cells #[.int .i64 rk, .int .i64 (rn : Nat), .int .i64 (rl : Nat)] 38))
                have SZ := Lib.hid (SB.out.to 1 (by simp))
                have hnw := news_of (vs := [.int .i64 rk, .int .i64 (rn : Nat), .int .i64 (rl : Nat)]) (fun j => SB.out.boxAt j) rfl
                have HNW := Lib.hid hnw
                clear S0 SB hnw
                have hb9 : z1 + 1 ≤ 1000000000 := by omega
                have hone : ∀ u ∈ ([.int .i64 rk, .int .i64 (rn : Nat), .int .i64 (rl : Nat)] : List Value), u.oneCell' = true := fun u hu => by simp only [List.mem_cons, List.mem_nil_iff, or_false] at hu; rcases hu with rfl | rfl | rfl <;> rfl
                have hlen3 : ([.int .i64 rk, .int .i64 (rn : Nat), .int .i64 (rl : Nat)] : List Value).length = 1 * 3 := rfl
                go_wp2_with (at_builtin; refine wpList_append_fr rfl (.tmp 124) (.tmp 126) 22 rfl i1 _ 24 Try.underlying22 hi1 ha0 ha1 ha2 rfl (by decide) F1.out SZ.out (by simp [Act.eval, Act.put]) ⟨y10.heap.size, 0, none⟩ 1 1 (by decide) [.int .i64 rk, .int .i64 (rn : Nat), .int .i64 (rl : Nat)] (by simp [Act.eval, Act.put]) hlen3 HNW.out hone hb9 (by decide) ?_)
                intro u1 w1 hs1 hf1
                obtain ⟨r1', l1', rfl⟩ := row_form hs1.at
                have S1 := Lib.hid hs1.swap.tl
                have F1' := Lib.hid hf1
                have e9 : w1.cell? ⟨b10, 0, none⟩ = some (.slice r1 z1 l1) := S1.out.tl.tl.tl.tl.tl.tl.boxAt 0
                have f9' : w1.frozen? ⟨b10, 0, none⟩ = false := S1.out.tl.tl.tl.tl.tl.tl.fz 0
                have S2 := Lib.hid (S1.out.setAt [_, _, _, _, _, _] 0 (.slice r1' (z1 + 1) l1'))
                clear hs1 hf1 S1 SZ wx0 wr0 wr1 wr2 HNW
                go_upto_region 13 with fail
                refine at_world (fun y => Sep B w y (.row (.slice r1' (z1 + 1) l1') 38 3 (z1 + 1) (x1 ++ ([.int .i64 rk, .int .i64 (rn : Nat), .int .i64 (rl : Nat)] : List Value)) :: fr o2 (.slice r2 z2 l2) 36 5 z2 x2 :: fr o3 (.slice r3 z3 l3) 3 1 z3 x3 :: fr o4 (.slice r4 nT l4) 40 3 nT x4 :: bxT b13 (.slice p1 lo c1) k3 (off Lo k3) :: .box b11 (.cells #[.slice q9 lm2 f9, .int .i64 m'.opn, .int .i64 m'.col, .bool m'.fresh, .int .i64 m'.lead] 36 (0, 0)) :: bxL b10 #[.slice r1' (z1 + 1) l1', .slice r2 z2 l2, .slice r3 z3 l3, .slice r4 nT l4] :: bxL b6 zL :: .box b5 (.cells #[.int .i64 (st : Nat), .int .i64 (en : Nat), .string x] 45 (0, 0)) :: .box b15 (.cells #[.slice q8 lm2 f8, .int .i64 m'.opn, .int .i64 m'.col, .bool m'.fresh, .int .i64 m'.lead] 36 (0, 0)) :: .row (.slice rE nE cE) 40 3 nE xE :: rI (.slice q8 lm2 f8) m'.cols :: .box b14 (.cells #[.int .i64 rk, .int .i64 (rn : Nat), .int .i64 (rl : Nat)] 38 (0, 0)) :: Y)) S2.out fun w2 hy => ?_
                clear e9 f9' S2
                -- 13
                have wx0 : w2.cell? ⟨b10, 1, none⟩ = some (.slice r2 z2 l2) := hy.tl.tl.tl.tl.tl.tl.boxAt 1
                have wm0 : w2.cell? ⟨b11, 0, none⟩ = some (.slice q9 lm2 f9) := hy.tl.tl.tl.tl.tl.boxAt 0
                have wm1 : w2.cell? ⟨b11, 1, none⟩ = some (.int .i64 m'.opn) := hy.tl.tl.tl.tl.tl.boxAt 1
                have wm2 : w2.cell? ⟨b11, 2, none⟩ = some (.int .i64 m'.col) := hy.tl.tl.tl.tl.tl.boxAt 2
                have wm3 : w2.cell? ⟨b11, 3, none⟩ = some (.bool m'.fresh) := hy.tl.tl.tl.tl.tl.boxAt 3
                have wm4 : w2.cell? ⟨b11, 4, none⟩ = some (.int .i64 m'.lead) := hy.tl.tl.tl.tl.tl.boxAt 4
                have SB := Lib.hid (hy.alloc (.cells #[.slice q9 lm2 f9, .int .i64 m'.opn, .int .i64 m'.col, .bool m'.fresh, .int .i64 m'.lead] 36))
                have SZ := Lib.hid (SB.out.to 2 (by simp))
                have HNW := Lib.hid (news_of (vs := [.slice q9 lm2 f9, .int .i64 m'.opn, .int .i64 m'.col, .bool m'.fresh, .int .i64 m'.lead]) (fun j => SB.out.boxAt j) rfl)
                clear hy SB hb9 hone hlen3
                have hb9 : z2 + 1 ≤ 1000000000 := by omega
                have hone : ∀ u ∈ ([.slice q9 lm2 f9, .int .i64 m'.opn, .int .i64 m'.col, .bool m'.fresh, .int .i64 m'.lead] : List Value), u.oneCell' = true := fun u hu => by simp only [List.mem_cons, List.mem_nil_iff, or_false] at hu; rcases hu with rfl | rfl | rfl | rfl | rfl <;> rfl
                have hlen3 : ([.slice q9 lm2 f9, .int .i64 m'.opn, .int .i64 m'.col, .bool m'.fresh, .int .i64 m'.lead] : List Value).length = 1 * 5 := rfl
                go_wp2_with (at_builtin; refine wpList_append_fr rfl (.tmp 130) (.tmp 132) 24 rfl i2 _ 56 Try.underlying24 hi2 hb0 hb1 hb2 rfl (by decide) F2.out SZ.out (by simp [Act.eval, Act.put]) ⟨w2.heap.size, 0, none⟩ 1 1 (by decide) [.slice q9 lm2 f9, .int .i64 m'.opn, .int .i64 m'.col, .bool m'.fresh, .int .i64 m'.lead] (by simp [Act.eval, Act.put]) hlen3 HNW.out hone hb9 (by decide) ?_)
                intro u2 w3 hs2 hf2
                obtain ⟨r2', l2', rfl⟩ := row_form hs2.at
                have S3 := Lib.hid (hs2.swap.tl.swap)
                have F2' := Lib.hid hf2
                have e9 : w3.cell? ⟨b10, 1, none⟩ = some (.slice r2 z2 l2) := S3.out.tl.tl.tl.tl.tl.tl.boxAt 1
                have f9' : w3.frozen? ⟨b10, 1, none⟩ = false := S3.out.tl.tl.tl.tl.tl.tl.fz 1
                have S4 := Lib.hid (S3.out.setAt [_, _, _, _, _, _] 1 (.slice r2' (z2 + 1) l2'))
                clear hs2 hf2 S3 SZ wx0 wm0 wm1 wm2 wm3 wm4 HNW
                go_upto_region 14 with fail
                refine at_world (fun y => Sep B w y (.row (.slice r1' (z1 + 1) l1') 38 3 (z1 + 1) (x1 ++ ([.int .i64 rk, .int .i64 (rn : Nat), .int .i64 (rl : Nat)] : List Value)) :: .row (.slice r2' (z2 + 1) l2') 36 5 (z2 + 1) (x2 ++ ([.slice q9 lm2 f9, .int .i64 m'.opn, .int .i64 m'.col, .bool m'.fresh, .int .i64 m'.lead] : List Value)) :: fr o3 (.slice r3 z3 l3) 3 1 z3 x3 :: fr o4 (.slice r4 nT l4) 40 3 nT x4 :: bxT b13 (.slice p1 lo c1) k3 (off Lo k3) :: .box b11 (.cells #[.slice q9 lm2 f9, .int .i64 m'.opn, .int .i64 m'.col, .bool m'.fresh, .int .i64 m'.lead] 36 (0, 0)) :: bxL b10 #[.slice r1' (z1 + 1) l1', .slice r2' (z2 + 1) l2', .slice r3 z3 l3, .slice r4 nT l4] :: bxL b6 zL :: .box b5 (.cells #[.int .i64 (st : Nat), .int .i64 (en : Nat), .string x] 45 (0, 0)) :: .box b15 (.cells #[.slice q8 lm2 f8, .int .i64 m'.opn, .int .i64 m'.col, .bool m'.fresh, .int .i64 m'.lead] 36 (0, 0)) :: .row (.slice rE nE cE) 40 3 nE xE :: rI (.slice q8 lm2 f8) m'.cols :: .box b14 (.cells #[.int .i64 rk, .int .i64 (rn : Nat), .int .i64 (rl : Nat)] 38 (0, 0)) :: Y)) S4.out fun w4 hy => ?_
                clear e9 f9' S4 hb9 hone hlen3
                -- 14
                have wx0 : w4.cell? ⟨b10, 3, none⟩ = some (.slice r4 nT l4) := hy.tl.tl.tl.tl.tl.tl.boxAt 3
                have SZ := Lib.hid (hy.to 3 (by simp))
                have HNW : Hid (0 < nE → ∃ gE oE, rE = some ⟨gE, 0, none⟩ ∧ ∀ j u, xE[j]? = some u → w4.cell? ((⟨gE, 0, none⟩ : Addr).add j) = some u) := Lib.hid (fun hp => by
                  have hr : It.lies B w4 (.row (.slice rE nE cE) 40 3 nE xE) := hy.li _ (by simp)
                  obtain ⟨g5, c5, e, _⟩ := row_own hr hp
                  injection e with e _ _
                  subst e
                  refine ⟨g5, 0, rfl, fun j u hu => ?_⟩
                  exact hr.cells (g := g5) rfl j u hu)
                have HY4 := Lib.hid hy
                have wf0 : w4.frozen? ⟨b10, 3, none⟩ = false := hy.tl.tl.tl.tl.tl.tl.fz 3
                clear hy
                go_cut [] from 53 to 147 (fun wx => ∃ (u4 : Bool) (r4' : Option Addr) (l4' : Nat), Hid (Fr B w u4 (.slice r4' (nT + nE) l4') 3 (nT + nE) (x4 ++ xE)) ∧ Hid (Sep B w wx (.row (.slice r1' (z1 + 1) l1') 38 3 (z1 + 1) (x1 ++ ([.int .i64 rk, .int .i64 (rn : Nat), .int .i64 (rl : Nat)] : List Value)) :: .row (.slice r2' (z2 + 1) l2') 36 5 (z2 + 1) (x2 ++ ([.slice q9 lm2 f9, .int .i64 m'.opn, .int .i64 m'.col, .bool m'.fresh, .int .i64 m'.lead] : List Value)) :: fr o3 (.slice r3 z3 l3) 3 1 z3 x3 :: fr u4 (.slice r4' (nT + nE) l4') 40 3 (nT + nE) (x4 ++ xE) :: bxT b13 (.slice p1 lo c1) k3 (off Lo k3) :: .box b11 (.cells #[.slice q9 lm2 f9, .int .i64 m'.opn, .int .i64 m'.col, .bool m'.fresh, .int .i64 m'.lead] 36 (0, 0)) :: bxL b10 #[.slice r1' (z1 + 1) l1', .slice r2' (z2 + 1) l2', .slice r3 z3 l3, .slice r4' (nT + nE) l4'] :: bxL b6 zL :: .box b5 (.cells #[.int .i64 (st : Nat), .int .i64 (en : Nat), .string x] 45 (0, 0)) :: .box b15 (.cells #[.slice q8 lm2 f8, .int .i64 m'.opn, .int .i64 m'.col, .bool m'.fresh, .int .i64 m'.lead] 36 (0, 0)) :: .row (.slice rE nE cE) 40 3 nE xE :: rI (.slice q8 lm2 f8) m'.cols :: .box b14 (.cells #[.int .i64 rk, .int .i64 (rn : Nat), .int .i64 (rl : Nat)] 38 (0, 0)) :: Y)))
                case first =>
                  by_cases hE0 : nE = 0
                  · subst hE0
                    have hx0 : xE = [] := List.length_eq_zero_iff.1 (by rw [HNE.out.1])
                    subst hx0
                    clear HNW
                    go_wp2_with (at_builtin; refine wpList_append_fr0 rfl (.tmp 136) (.tmp 137) 26 rfl i4 Try.underlying26 hi4 F4.out SZ.out (by simp [Act.eval, Act.put]) rE cE (by simp [Act.eval, Act.put]) ?_)
                    go_meet
                    case rel =>
                      have S5 := Lib.hid (HY4.out.setAt [_, _, _, _, _, _] 3 (.slice r4 nT l4))
                      refine ⟨o4, r4, l4, Lib.hid ?_, Lib.hid ?_⟩
                      · rw [List.append_nil]; exact F4.out
                      · rw [List.append_nil]; exact S5.out
                  · obtain ⟨gE, oE, hrE, hnew⟩ := HNW.out (by omega)
                    subst hrE
                    have HNW2 := Lib.hid hnew
                    have hpos : 0 < nE := by omega
                    have hb9 : nT + nE ≤ 1000000000 := by omega
                    clear hnew HNW
                    go_wp2_with (at_builtin; refine wpList_append_fr rfl (.tmp 136) (.tmp 137) 26 rfl i4 _ 24 Try.underlying26 hi4 hd0 hd1 hd2 rfl (by decide) F4.out SZ.out (by simp [Act.eval, Act.put]) ⟨gE, 0, none⟩ nE cE hpos xE (by simp [Act.eval, Act.put]) HNE.out.1 HNW2.out HNE.out.2 hb9 (by decide) ?_)
                    intro u4 w5 hs4 hf4
                    obtain ⟨r4', l4', rfl⟩ := row_form hs4.at
                    have S5 := Lib.hid (hs4.perm (List.perm_middle (l₁ := [_, _, _])).symm)
                    have F5 := Lib.hid hf4
                    have e9 : w5.cell? ⟨b10, 3, none⟩ = some (.slice r4 nT l4) := S5.out.tl.tl.tl.tl.tl.tl.boxAt 3
                    have f9' : w5.frozen? ⟨b10, 3, none⟩ = false := S5.out.tl.tl.tl.tl.tl.tl.fz 3
                    have S6 := Lib.hid (S5.out.setAt [_, _, _, _, _, _] 3 (.slice r4' (nT + nE) l4'))
                    clear hs4 hf4 S5
                    go_wp2_with fail
                    go_meet
                    case rel => exact ⟨true, r4', l4', F5, S6⟩
                case rest =>
                  obtain ⟨u4, r4', l4', F4', S5⟩ := hcut
                  obtain ⟨w5, rfl⟩ : ∃ y : World, y = wc := ⟨_, rfl⟩
                  clear SZ HNW wx0
                  -- 15
                  have wx0 : w5.cell? ⟨b10, 2, none⟩ = some (.slice r3 z3 l3) := S5.out.tl.tl.tl.tl.tl.tl.boxAt 2
                  have wx1 : w5.cell? ⟨b10, 3, none⟩ = some (.slice r4' (nT + nE) l4') := S5.out.tl.tl.tl.tl.tl.tl.boxAt 3
                  obtain ⟨nX, hnX⟩ : ∃ x, nT + nE = x := ⟨_, rfl⟩
                  have HNX := Lib.hid hnX
                  rw [hnX] at S5 F4' wx1
                  clear hnX
                  have SB := Lib.hid (S5.out.alloc (.cells #[.int .i64 (nX : Nat)] 3))
                  have SZ := Lib.hid (SB.out.to 3 (by simp))
                  have HNW := Lib.hid (news_of (vs := [.int .i64 (nX : Nat)]) (fun j => SB.out.boxAt j) rfl)
                  clear S5 SB
                  have hb9 : z3 + 1 ≤ 1000000000 := by omega
                  have hone : ∀ u ∈ ([.int .i64 (nX : Nat)] : List Value), u.oneCell' = true := fun u hu => by simp only [List.mem_cons, List.mem_nil_iff, or_false] at hu; subst hu; rfl
                  have hlen3 : ([.int .i64 (nX : Nat)] : List Value).length = 1 * 1 := rfl
                  go_wp2_with (at_builtin; refine wpList_append_fr rfl (.tmp 141) (.tmp 145) 25 rfl i3 _ 8 Try.underlying25 hi3 hc0 hc1 hc2 rfl (by decide) F3.out SZ.out (by simp [Act.eval, Act.put]) ⟨w5.heap.size, 0, none⟩ 1 1 (by decide) [.int .i64 (nX : Nat)] (by simp [Act.eval, Act.put]) hlen3 HNW.out hone hb9 (by decide) ?_)
                  intro u3 w6 hs3 hf3
                  obtain ⟨r3', l3', rfl⟩ := row_form hs3.at
                  have S6 := Lib.hid ((hs3.swap.tl.perm (List.perm_middle (l₁ := [_, _])).symm))
                  have e9 : w6.cell? ⟨b10, 2, none⟩ = some (.slice r3 z3 l3) := S6.out.tl.tl.tl.tl.tl.tl.boxAt 2
                  have f9' : w6.frozen? ⟨b10, 2, none⟩ = false := S6.out.tl.tl.tl.tl.tl.tl.fz 2
                  have S7 := Lib.hid (S6.out.setAt [_, _, _, _, _, _] 2 (.slice r3' (z3 + 1) l3'))
                  clear hs3 hf3 S6 SZ wx0 wx1 HNW
                  go_wp2_with fail
                  go_roundw
                  case rel =>
                    have hx := HNX.out
                    subst hx
                    obtain ⟨ho, hA⟩ := HSTEP.out _ k3 u4 _ _ _ _ q9 f9 (.slice q8 lm2 f8) (.box b15 (.cells #[.slice q8 lm2 f8, .int .i64 m'.opn, .int .i64 m'.col, .bool m'.fresh, .int .i64 m'.lead] 36 (0, 0)) :: .row (.slice rE nE cE) 40 3 nE xE :: rI (.slice q8 lm2 f8) m'.cols :: .box b14 (.cells #[.int .i64 rk, .int .i64 (rn : Nat), .int .i64 (rl : Nat)] 38 (0, 0)) :: Y) hk3 hkl3 HBF3.out HNB.out HSV.out (by simp) (fun x hx => by simp [hx]) F4'.out S7.out
                    exact ⟨n + 1, k3, true, true, true, u4, _, _, _, _, _, q9, f9, _, by rw [ho, HAE.out], Lib.hid hA, Lib.hid (by obtain ⟨J, hJ⟩ := HJY.out; exact ⟨_ :: _ :: _ :: _ :: J, by rw [hJ]; rfl⟩)⟩
                  case measure =>
                    have := HAE.out
                    simp [intOf]; omega
    · have hn : n = Ln.length := by
        rcases Nat.lt_or_ge n Ln.length with h | h
        · have a1 := off_mono hOne h (Nat.le_refl _)
          omega
        · have := HI.out.nl; omega
      have hatI : ¬ (off Ln n : Int) < (t.size : Int) := by omega
      have hmay : May (runM m0 (bl t) (Ln.take n)).m := by
        rw [take_all hn, ← HLN.out]; exact HG.out.mks.2
      have hec := endF_len (runM m0 (bl t) (Ln.take n)).m
      have hel := endF_pos (runM m0 (bl t) (Ln.take n)).m
      have hEQ : endQ (runM m0 (bl t) (Ln.take n)).m = endF (runM m0 (bl t) (Ln.take n)).m := by unfold endQ; rw [if_pos (may_mayB hmay)]
      have hTl : (runM m0 (bl t) (Ln.take n)).T.length ≤ 270000000 := by
        have e := HG.out.lens.l4
        rw [scX, HLN.out] at e
        have e2 : (lxM Ln (bl t)).toks = (runM m0 (bl t) Ln).T ++ endF (runM m0 (bl t) Ln).m := rfl
        rw [e2, List.length_append] at e
        rw [take_all hn]; omega
      have hcl2 := hmay.len
      have HFIN : Hid (∀ (w' : World) (u4 : Value) (m : Nat) (Z : List It), _ → _ → _ → _) := Lib.hid fun w' u4 m Z hm hs hZ => agi_end (w' := w') (u4 := u4) (m := m) (Z := Z) HI.out hn HKEPT hm hs hZ
      have hX := HI.out.xs
      have hIV := HI.out.iv
      have hSP := HI.out.sp
      obtain ⟨i1, hi1, hy0, hy1, hy2⟩ := info_parts info35
      obtain ⟨R, hR⟩ : ∃ R, runM m0 (bl t) (Ln.take n) = R := ⟨_, rfl⟩
      rw [hR] at hmay hec hel hEQ hTl hcl2 HFIN hX hIV hSP
      obtain ⟨r1, l1, rfl, -, -, -⟩ := hX.f1.at_ hSP
      obtain ⟨r2, l2, rfl, -, -, -⟩ := hX.f2.at_ hSP.tl
      obtain ⟨r3, l3, rfl, -, -, -⟩ := hX.f3.at_ hSP.tl.tl
      obtain ⟨r4, l4, rfl, -, -, -⟩ := hX.f4.at_ hSP.tl.tl.tl
      have F4 := Lib.hid hX.f4
      clear hX
      obtain ⟨T, hT⟩ : ∃ T, R.T = T := ⟨_, rfl⟩
      obtain ⟨m, hm⟩ : ∃ m, R.m = m := ⟨_, rfl⟩
      obtain ⟨E, hE⟩ : ∃ E, endF m = E := ⟨_, rfl⟩
      rw [hm] at hmay hec hel hEQ hcl2 HFIN hIV hSP
      rw [hE] at hec hel hEQ HFIN
      rw [hT] at HFIN hSP F4 hTl
      unfold xI at hSP
      have S9 := Lib.hid hSP
      have HEND : Hid (∀ z, Below wo.heap.size wo z → ∀ X, Sep B w z X → Calls Try.prog 29 #[.agg #[.slice q m.cols.length f, .int .i64 m.opn, .int .i64 m.col, .bool m.fresh, .int .i64 m.lead]] z (EndP B w X E)) := Lib.hid fun z hz X hzs => by
        have e := end_any (D := fun g => g < wo.heap.size) (m := m) (p := q) (c := f) (by omega) (fun g hg => Nat.lt_of_lt_of_le hg hz.size) (hIV.mono (fun g h => h) (fun g h _ => hz.block g h)) hzs
        rw [hEQ] at e
        exact e
      obtain ⟨lm, hlm⟩ : ∃ l, m.cols.length = l := ⟨_, rfl⟩
      obtain ⟨nT, hnT⟩ : ∃ l, T.length = l := ⟨_, rfl⟩
      obtain ⟨nE, hnE⟩ : ∃ l, E.length = l := ⟨_, rfl⟩
      rw [hlm] at HEND S9 hec hcl2
      rw [hnT] at S9 F4 hTl HFIN
      rw [hnE] at hel hec HFIN
      have HNE := Lib.hid hnE
      obtain ⟨z1, hz1⟩ : ∃ z, (Ln.take n).length = z := ⟨_, rfl⟩
      obtain ⟨z2, hz2⟩ : ∃ z, (m0 :: R.M).length = z := ⟨_, rfl⟩
      obtain ⟨z3, hz3⟩ : ∃ z, ((0 : Int) :: R.C).length = z := ⟨_, rfl⟩
      rw [hz1, hz2, hz3] at S9 HFIN
      have HZ1 := Lib.hid hz1
      clear hz1 hz2 hz3
      have wc3 : wo.cell? ⟨b10, 3, none⟩ = some (.slice r4 nT l4) := S9.out.tl.tl.tl.tl.tl.tl.boxAt 3
      have wm0 : wo.cell? ⟨b11, 0, none⟩ = some (.slice q lm f) := S9.out.tl.tl.tl.tl.tl.boxAt 0
      have wm1 : wo.cell? ⟨b11, 1, none⟩ = some (.int .i64 m.opn) := S9.out.tl.tl.tl.tl.tl.boxAt 1
      have wm2 : wo.cell? ⟨b11, 2, none⟩ = some (.int .i64 m.col) := S9.out.tl.tl.tl.tl.tl.boxAt 2
      have wm3 : wo.cell? ⟨b11, 3, none⟩ = some (.bool m.fresh) := S9.out.tl.tl.tl.tl.tl.boxAt 3
      have wm4 : wo.cell? ⟨b11, 4, none⟩ = some (.int .i64 m.lead) := S9.out.tl.tl.tl.tl.tl.boxAt 4
      have SD := Lib.hid S9.out.drew
      have HE1 := Lib.hid (HEND.out _ (below_drewN (Below.refl _ _) 1) _ S9.out.drew)
      have hmE : nT + nE ≤ 1000000000 := by omega
      have HEL : Hid ((tkL E).length = nE * 3) := Lib.hid (by rw [tkL_len, HNE.out])
      have HE1' : Hid (∀ u ∈ tkL E, u.oneCell' = true) := Lib.hid (fun u hu => by obtain ⟨t, _, ht⟩ := List.mem_flatMap.1 hu; exact tk_one t u ht)
      clear hmay hec hEQ hTl hcl2 hIV hSP hR hm hE hlm hT hnT hnE HEND
      have HTO : Hid (∀ (y5 : World) (v5 : Value), Sep B w y5 (.row v5 40 3 E.length (tkL E) :: fr o1 (.slice r1 z1 l1) 38 3 z1 (rwL ((Ln.take n).map tR)) :: fr o2 (.slice r2 z2 l2) 36 5 z2 (mkL vs (m0 :: R.M)) :: fr o3 (.slice r3 z3 l3) 3 1 z3 (zi (0 :: R.C)) ::  fr o4 (.slice r4 nT l4) 40 3 nT (tkL T) :: bxT b13 (.slice p1 lo c1) k2 (off Lo k2) :: .box b11 (.cells #[.slice q lm f, .int .i64 m.opn, .int .i64 m.col, .bool m.fresh, .int .i64 m.lead] 36 (0, 0)) :: bxL b10 #[.slice r1 z1 l1, .slice r2 z2 l2, .slice r3 z3 l3, .slice r4 nT l4] :: bxL b6 zL :: .box b5 (.cells #[.int .i64 (st : Nat), .int .i64 (en : Nat), .string x] 45 (0, 0)) :: Y) → Sep B w y5 (fr o4 (.slice r4 nT l4) 40 3 nT (tkL T) :: .row v5 40 3 E.length (tkL E) :: fr o1 (.slice r1 z1 l1) 38 3 z1 (rwL ((Ln.take n).map tR)) :: fr o2 (.slice r2 z2 l2) 36 5 z2 (mkL vs (m0 :: R.M)) :: fr o3 (.slice r3 z3 l3) 3 1 z3 (zi (0 :: R.C)) ::  bxT b13 (.slice p1 lo c1) k2 (off Lo k2) :: .box b11 (.cells #[.slice q lm f, .int .i64 m.opn, .int .i64 m.col, .bool m.fresh, .int .i64 m.lead] 36 (0, 0)) :: bxL b10 #[.slice r1 z1 l1, .slice r2 z2 l2, .slice r3 z3 l3, .slice r4 nT l4] :: bxL b6 zL :: .box b5 (.cells #[.int .i64 (st : Nat), .int .i64 (en : Nat), .string x] 45 (0, 0)) :: Y) ∧ y5.cell? ⟨b10, 3, none⟩ = some (.slice r4 nT l4)) := Lib.hid fun y5 v5 h => ⟨h.to 4 (by simp), h.tl.tl.tl.tl.tl.tl.tl.boxAt 3⟩
      have HW3 : Hid (∀ (w3 : World) (v5 u4 : Value), Sep B w w3 (.row u4 40 3 (nT + nE) (tkL T ++ tkL E) :: .row v5 40 3 E.length (tkL E) :: fr o1 (.slice r1 z1 l1) 38 3 z1 (rwL ((Ln.take n).map tR)) :: fr o2 (.slice r2 z2 l2) 36 5 z2 (mkL vs (m0 :: R.M)) :: fr o3 (.slice r3 z3 l3) 3 1 z3 (zi (0 :: R.C)) ::  bxT b13 (.slice p1 lo c1) k2 (off Lo k2) :: .box b11 (.cells #[.slice q lm f, .int .i64 m.opn, .int .i64 m.col, .bool m.fresh, .int .i64 m.lead] 36 (0, 0)) :: bxL b10 #[.slice r1 z1 l1, .slice r2 z2 l2, .slice r3 z3 l3, .slice r4 nT l4] :: bxL b6 zL :: .box b5 (.cells #[.int .i64 (st : Nat), .int .i64 (en : Nat), .string x] 45 (0, 0)) :: Y) → w3.cell? ⟨b10, 3, none⟩ = some (.slice r4 nT l4) ∧ w3.frozen? ⟨b10, 3, none⟩ = false) := Lib.hid fun w3 v5 u4 h => ⟨h.tl.tl.tl.tl.tl.tl.tl.boxAt 3, h.tl.tl.tl.tl.tl.tl.tl.fz 3⟩
      have HFN2 : Hid (∀ (w' : World) (v5 : Value) (r9 : Option Addr) (l9 : Nat), Sep B w w' (.row (.slice r9 (nT + nE) l9) 40 3 (nT + nE) (tkL T ++ tkL E) :: .row v5 40 3 E.length (tkL E) :: fr o1 (.slice r1 z1 l1) 38 3 z1 (rwL ((Ln.take n).map tR)) :: fr o2 (.slice r2 z2 l2) 36 5 z2 (mkL vs (m0 :: R.M)) :: fr o3 (.slice r3 z3 l3) 3 1 z3 (zi (0 :: R.C)) ::  bxT b13 (.slice p1 lo c1) k2 (off Lo k2) :: .box b11 (.cells #[.slice q lm f, .int .i64 m.opn, .int .i64 m.col, .bool m.fresh, .int .i64 m.lead] 36 (0, 0)) :: bxL b10 #[.slice r1 z1 l1, .slice r2 z2 l2, .slice r3 z3 l3, .slice r9 (nT + nE) l9] :: bxL b6 #[.slice r1 z1 l1, .slice r2 z2 l2, .slice r3 z3 l3, .slice r9 (nT + nE) l9] :: .box b5 (.cells #[.int .i64 (st : Nat), .int .i64 (en : Nat), .string x] 45 (0, 0)) :: Y) → AgP B w XF d kl s t st en be (.returned (.tuple #[.agg #[.slice r1 z1 l1, .slice r2 z2 l2, .slice r3 z3 l3, .slice r9 (nT + nE) l9], .int .i64 ((n : Int) - (k : Int))])) w') := Lib.hid fun w' v5 r9 l9 h => by
        have h1 := ((h.to 4 (by simp)).to 4 (by simp)).to 4 (by simp)
        have h2 : Sep B w w' (fr o1 (.slice r1 z1 l1) 38 3 z1 (rwL ((Ln.take n).map tR)) :: fr o2 (.slice r2 z2 l2) 36 5 z2 (mkL vs (m0 :: R.M)) :: fr o3 (.slice r3 z3 l3) 3 1 z3 (zi (0 :: R.C)) ::  fr true (.slice r9 (nT + nE) l9) 40 3 (nT + nE) (tkL T ++ tkL E) :: .row v5 40 3 E.length (tkL E) :: bxT b13 (.slice p1 lo c1) k2 (off Lo k2) :: .box b11 (.cells #[.slice q lm f, .int .i64 m.opn, .int .i64 m.col, .bool m.fresh, .int .i64 m.lead] 36 (0, 0)) :: bxL b10 #[.slice r1 z1 l1, .slice r2 z2 l2, .slice r3 z3 l3, .slice r9 (nT + nE) l9] :: bxL b6 #[.slice r1 z1 l1, .slice r2 z2 l2, .slice r3 z3 l3, .slice r9 (nT + nE) l9] :: .box b5 (.cells #[.int .i64 (st : Nat), .int .i64 (en : Nat), .string x] 45 (0, 0)) :: Y) := h1
        have e5 : scX d kl t = lxM Ln (bl t) := by rw [scX, HLN.out]
        obtain ⟨hx, hm, hs, hc⟩ := HFIN.out w' _ _ _ rfl h2 (fun x hx => by simp [hx])
        obtain ⟨J, hJ⟩ := HJY.out
        subst hJ
        rw [← e5, ← HLN.out] at hx
        rw [← e5] at hm
        rw [← e5, ← HLN.out] at hs
        rw [← HLN.out, ← HLO.out] at hc
        exact ⟨o1, o2, o3, true, _, _, _, _, vs, (_ :: _ :: _ :: _ :: _ :: _ :: J), (n : Int) - (k : Int), rfl, hx, hm, hs, hc⟩
      have HN := Lib.hid hn
      clear hn hLen
      go_upto_region 16 with fail
      go_region_law (first | (go_simp; go_at_call 29; refine HE1.out.mono ?_; rintro _ y5 ⟨v5, rfl, hs5⟩; obtain ⟨g5, c5, rfl, hg5⟩ := row_own hs5.at (by rw [HNE.out]; exact hel); obtain ⟨hs6, e9⟩ := HTO.out _ _ hs5; have S5 := Lib.hid hs6; have HNW := Lib.hid (row_at hs5); clear hs5 hs6) | (refine step_append_fr rfl (.tmp 149) (.tmp 151) 26 rfl i1 _ 24 Try.underlying26 hi1 hy0 hy1 hy2 rfl (by decide) F4.out S5.out (by simp [Act.eval, Act.put]) ⟨g5, 0, none⟩ nE c5 hel (tkL E) (by simp [Act.eval, Act.put, HNE.out]) HEL.out HNW.out HE1'.out hmE (by decide) ?_; intro u4 w3 hs3 hf3; obtain ⟨r9, l9, rfl⟩ := row_form hs3.at; obtain ⟨hc9, hf9⟩ := HW3.out _ _ _ hs3; have S7 := Lib.hid hs3))
      all_goals
        have S8 := Lib.hid (S7.out.setAt [_, _, _, _, _, _, _] 3 (.slice r9 (nT + nE) l9))
        clear S7 S5 HNW hc9 hf9 e9 hf3 hs3
        refine at_worldQ (fun y => Sep B w y (.row (.slice r9 (nT + nE) l9) 40 3 (nT + nE) (tkL T ++ tkL E) :: .row (.slice (some ⟨g5, 0, none⟩) E.length c5) 40 3 E.length (tkL E) :: fr o1 (.slice r1 z1 l1) 38 3 z1 (rwL ((Ln.take n).map tR)) :: fr o2 (.slice r2 z2 l2) 36 5 z2 (mkL vs (m0 :: R.M)) :: fr o3 (.slice r3 z3 l3) 3 1 z3 (zi (0 :: R.C)) ::  bxT b13 (.slice p1 lo c1) k2 (off Lo k2) :: .box b11 (.cells #[.slice q lm f, .int .i64 m.opn, .int .i64 m.col, .bool m.fresh, .int .i64 m.lead] 36 (0, 0)) :: bxL b10 #[.slice r1 z1 l1, .slice r2 z2 l2, .slice r3 z3 l3, .slice r9 (nT + nE) l9] :: bxL b6 zL :: .box b5 (.cells #[.int .i64 (st : Nat), .int .i64 (en : Nat), .string x] 45 (0, 0)) :: Y)) S8.out fun y8 hy8 => ?_
        have d0 : y8.cell? ⟨b10, 0, none⟩ = some (.slice r1 z1 l1) := hy8.tl.tl.tl.tl.tl.tl.tl.boxAt 0
        have d1 : y8.cell? ⟨b10, 1, none⟩ = some (.slice r2 z2 l2) := hy8.tl.tl.tl.tl.tl.tl.tl.boxAt 1
        have d2 : y8.cell? ⟨b10, 2, none⟩ = some (.slice r3 z3 l3) := hy8.tl.tl.tl.tl.tl.tl.tl.boxAt 2
        have d3 : y8.cell? ⟨b10, 3, none⟩ = some (.slice r9 (nT + nE) l9) := hy8.tl.tl.tl.tl.tl.tl.tl.boxAt 3
        have f0 : y8.frozen? ⟨b6, 0, none⟩ = false := hy8.tl.tl.tl.tl.tl.tl.tl.tl.fz 0
        have f1 : y8.frozen? ⟨b6, 1, none⟩ = false := hy8.tl.tl.tl.tl.tl.tl.tl.tl.fz 1
        have f2 : y8.frozen? ⟨b6, 2, none⟩ = false := hy8.tl.tl.tl.tl.tl.tl.tl.tl.fz 2
        have f3 : y8.frozen? ⟨b6, 3, none⟩ = false := hy8.tl.tl.tl.tl.tl.tl.tl.tl.fz 3
        have q0 : y8.cell? ⟨b6, 0, none⟩ = some (.slice none 0 0) := hy8.tl.tl.tl.tl.tl.tl.tl.tl.boxAt 0
        have q1 : y8.cell? ⟨b6, 1, none⟩ = some (.slice none 0 0) := hy8.tl.tl.tl.tl.tl.tl.tl.tl.boxAt 1
        have q2 : y8.cell? ⟨b6, 2, none⟩ = some (.slice none 0 0) := hy8.tl.tl.tl.tl.tl.tl.tl.tl.boxAt 2
        have q3 : y8.cell? ⟨b6, 3, none⟩ = some (.slice none 0 0) := hy8.tl.tl.tl.tl.tl.tl.tl.tl.boxAt 3
        have hne : b10 ≠ b6 := fun e => (List.pairwise_cons.1 hy8.tl.tl.tl.tl.tl.tl.tl.ap).1 (bxL b6 zL) (by simp) b10 rfl (by rw [e]; rfl)
        have hne2 : b6 ≠ b10 := fun e => hne e.symm
        have S10 := Lib.hid hy8
        clear hy8 S8
        go_wp2_with fail
        have hkn : k ≤ n := HI.out.kn
        have hn := HN.out
        have hln : z1 = n := by rw [← HZ1.out, List.length_take]; omega
        have hnb : n ≤ 65536 := by
          have e := HG.out.lens.l1
          rw [HLN.out] at e
          omega
        have hsub : IntKind.i64.wrap ((z1 : Int) - (k : Int)) = (n : Int) - (k : Int) := by rw [hln, IntWalk.i64_in _ (by omega)]
        clear hln hn
        have SF := Lib.hid (((((S10.out.setAt [_, _, _, _, _, _, _, _] 0 (.slice r1 z1 l1)).setAt [_, _, _, _, _, _, _, _] 1 (.slice r2 z2 l2)).setAt [_, _, _, _, _, _, _, _] 2 (.slice r3 z3 l3)).setAt [_, _, _, _, _, _, _, _] 3 (.slice r9 (nT + nE) l9)).drew)
        go_region
        all_goals
          go_wp2_with fail
          refine bodyPost_ret (results_lt rfl _ _ b6 _ rfl SF.out.tl.tl.tl.tl.tl.tl.tl.tl.at.2 rfl) rfl ?_
          exact HFN2.out _ _ _ _ SF.out
end Go.Proofs.Ytemkppjdfjoipaa.I1.X
