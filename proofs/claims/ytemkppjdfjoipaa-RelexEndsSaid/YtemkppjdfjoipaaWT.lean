/- Texts of package dfa, one behind the other. -/
import Derived.Test.YtemkppjdfjoipaaProg
import Derived.Test.YtemkppjdfjoipaaYj1
import Derived.Test.YtemkppjdfjoipaaYj0
import Derived.Deep.SlicePairs
import Derived.Deep.Slices
import Derived.Laws.IdiomArrays
import Derived.OpenShut
import Derived.WideBlind
import Derived.Great.BuildSlice
import Derived.WalkKit
import Derived.Maps.OwnSet
import Derived.Maps.OwnOps
import Derived.Maps.Own
import Derived.DeepKeys5
import Derived.BigFrame
import Derived.WalkMore
import Derived.ScopeJumps
import Derived.StillTailTactics
import Derived.Stop.BytesEq
import Derived.WalkLawsBesides
import Derived.WalkSpells
import Derived.Outline
import Derived.Lib.Walk
import Derived.Lib.Hide
import Derived.Lib.Slices
import Derived.Lib.Strings
import Derived.RegionTactic
import Derived.LoopTactic
import Derived.Below
import Derived.IntWalk
import Derived.Deep.QuietTactic
import Derived.BigQuiet
import Derived.Deep.MidRow
import Derived.Maps.AppendAt
import Derived.Laws.Rows
import Derived.Laws.Tables
import Derived.Deep.WholeRow
import Derived.Deep.Cut
import Derived.Deep.CutRange
import Derived.Lib.SliceRun
import Derived.Laws.MakeOwn
import Derived.Deep.RegionLaw
import Derived.Deep.RegionLawGrows
import Derived.Deep.RegionHeld3
import Derived.RegionCalls
import Derived.Deep.RegionWith
import Derived.Deep.Light
import Derived.Laws.CopyOwn
import Derived.Laws.ResultCell
import Derived.Test.YtemkppjdfjoipaaW47
import Derived.Test.YtemkppjdfjoipaaW40
import Derived.Test.YtemkppjdfjoipaaW49
import Derived.Test.YtemkppjdfjoipaaYk
section
/- Package relex. -/
namespace Go.Proofs.Ytemkppjdfjoipaa.I1.X
set_option linter.unusedSimpArgs false
set_option linter.unusedVariables false
set_option maxRecDepth 100000
open Go.RowKit
/- RelexEnds: what is read, and what differs. -/
theorem wv_all {D : Nat → Prop} {w : World} {l : List Tr} {p : Option Addr} {n c : Nat} (h : WV D w l (.slice p n c)) (hk : 0 < l.length) : ∃ b o, p = some ⟨b, o, none⟩ ∧ D b ∧ ∀ k (hk : k < l.length), w.cell? ⟨b, o + k * 3, none⟩ = some (.int .i64 l[k].1) ∧ w.cell? ⟨b, o + k * 3 + 1, none⟩ = some (.int .i64 l[k].2.1) ∧ w.cell? ⟨b, o + k * 3 + 2, none⟩ = some (.int .i64 l[k].2.2) := by
  obtain ⟨p', c', he, hh⟩ := h
  injection he with e1 e2 e3
  subst e1 e2 e3
  obtain ⟨b, o, rfl, hD, hcl⟩ := hh (by intro e; subst e; simp at hk)
  exact ⟨b, o, rfl, hD, hcl⟩
theorem iv_at {D : Nat → Prop} {w : World} {l : List Int} {p : Option Addr} {n c k : Nat} {v : Int} (h : IV D w l (.slice p n c)) (hk : l[k]? = some v) : ∃ b o, p = some ⟨b, o, none⟩ ∧ D b ∧ w.cell? ⟨b, o + k, none⟩ = some (.int .i64 v) := by
  obtain ⟨p', c', he, hh⟩ := h
  injection he with e1 e2 e3
  subst e1 e2 e3
  obtain ⟨h1, h2⟩ := List.getElem?_eq_some_iff.1 hk
  obtain ⟨b, o, rfl, hD, hcl⟩ := hh (by intro e; subst e; simp at h1)
  exact ⟨b, o, rfl, hD, by rw [← h2]; exact hcl k h1⟩
theorem ne_ahead {l r : List Tk} {c : Nat} (h : cpre l r = c) (h1 : c < l.length) (h2 : c < r.length) : l[c] ≠ r[c] := by subst h; exact cpre_next l r h1 h2
theorem ne_behind {l r : List Tk} {c1 c2 i j : Nat} (h : cpre l r = c1) (h' : csuf l r = c2) (hi : l.length - 1 - c2 = i) (hj : r.length - 1 - c2 = j) (h1 : c1 + c2 < l.length) (h2 : c1 + c2 < r.length) (hil : i < l.length) (hjl : j < r.length) : l[i] ≠ r[j] := by subst h h' hi hj; exact csuf_next l r h1 h2
theorem tk_ne {x1 x2 x3 y1 y2 y3 : Int} (h : (x1, x2, x3) ≠ (y1, y2, y3)) : ((x1 == y1) && ((x2 == y2) && (x3 == y3))) = false := by
  cases hb : ((x1 == y1) && ((x2 == y2) && (x3 == y3))) with
  | false => rfl
  | true => exact absurd (by simpa [Bool.and_eq_true, Prod.mk.injEq] using hb) h
theorem rw_cut {D : Nat → Prop} {w : World} {L : List P3} {p : Option Addr} {n c k : Nat} (h : RW D w (L.map tR) (.slice p n c)) (hk : k ≤ n) (hL : n = L.length) : WV D w ((L.take k).map tR) (.slice p k c) := by
  have h1 := wv_take h.wv hk
  rw [List.map_take]
  exact h1
end Go.Proofs.Ytemkppjdfjoipaa.I1.X
end
section
/- Package relex. -/
namespace Go.Proofs.Ytemkppjdfjoipaa.I1.X
set_option linter.unusedSimpArgs false
set_option linter.unusedVariables false
set_option maxRecDepth 100000
open Go.RowKit
/- RelexEnds. -/
set_option maxHeartbeats 16000000 in
theorem ends12_any {w : World} {d : Df} {vs ds : Array Value} {p q : Option Addr} {c f fr : Nat} {ts : List R6.RT} {qr : Option Addr} (x : ByteArray) (fm tt : Int) (ye : ByteArray) (hv : SC vs ds qr ts.length fr) (hd : DC d ds p q c f) (hm : DM (fun b => b < w.heap.size) w d p q c f) (hR : R6.RuV (fun b => b < w.heap.size) w ts (.slice qr ts.length fr)) (hln : ts.length ≤ 9223372036854775806) (hwid : ∀ t ∈ ts, R6.wid t ≤ 9223372036854775806) (hx : x.size ≤ 281474976710656) (hye : ye.size ≤ 9223372036854775807) :
    Calls Try.prog 6 #[.agg vs, .string x, .agg #[.int .i64 fm, .int .i64 tt, .string ye]] w fun e w' => e = .returned (.bool true) ∧ Below w.heap.size w w' := by
  have hz51 := zero51
  have hz28 := zero28
  have HSZ := Lib.hid hd.sz
  have HD := Lib.hid hd
  have HV := Lib.hid hv
  have HM : Hid (∀ z, Below w.heap.size w z → DM (Lt w.heap.size) z d p q c f) := Lib.hid fun z hz => hm.up hz
  obtain ⟨kl, hkl, hkr⟩ := kr_of hR
  have HKR : Hid (∀ z, Below w.heap.size w z → KR (Lt w.heap.size) z kl qr) := Lib.hid fun z hz => hkr.mono (fun b h => h) (fun b (hb : b < w.heap.size) _ => hz.block b hb)
  obtain ⟨sm, hsm⟩ : ∃ sm, smA x d ts = sm := ⟨_, rfl⟩
  have HSM : Hid (∀ z, Below w.heap.size w z → Calls Try.prog 20 #[.slice qr ts.length fr, .agg ds, .string x] z fun e w' => e = .returned (.bool sm) ∧ Below z.heap.size z w') := Lib.hid fun z hz => by
    rw [← hsm]
    exact small12_any (D := Lt w.heap.size) x hd (hm.up hz) (hR.mono (fun b h => h) (fun b (hb : b < w.heap.size) _ => hz.block b hb)) hln hwid
  have HSME := Lib.hid hsm
  have HKL := Lib.hid hkl
  obtain ⟨nt, hnt⟩ : ∃ n, ts.length = n := ⟨_, rfl⟩
  rw [hnt] at HSM HV HKL
  have HNT := Lib.hid hnt
  obtain ⟨b3, hb3⟩ : ∃ b, w.heap.size = b := ⟨_, rfl⟩
  have S0 := (Sep.start w).allocAt hb3 (.cells vs 63)
  have S0 := S0.allocAt (b := b3 + 1) (by simp [hb3]) (.cells #[.int .i64 fm, .int .i64 tt, .string ye] 45)
  obtain ⟨b5, hb5⟩ : ∃ b, b3 + 1 = b := ⟨_, rfl⟩
  rw [hb5] at S0
  have S0 := Lib.hid S0
  have HLOAD : Hid (∀ z, Sep w.heap.size w z [.box b5 (.cells #[.int .i64 fm, .int .i64 tt, .string ye] 45 (0, 0)), .box b3 (.cells vs 63 (0, 0))] → z.cell? ⟨b3, 0, none⟩ = some (.slice qr nt fr) ∧ ∀ j v, ds[j]? = some v → z.cell? ⟨b3, 1 + j, none⟩ = some v) := Lib.hid fun z hz => ⟨(hz.tl.boxAt 0).trans HV.out.r, fun j v hj => (hz.tl.boxAt (1 + j)).trans (HV.out.d j v hj)⟩
  clear hv hd hm hR hkr hkl hsm hnt hwid hln
  go_enter Try.func6, Try.ntmps6
  go_upto_region 1 with fail
  refine at_world (fun y => Sep w.heap.size w y [.box b5 (.cells #[.int .i64 fm, .int .i64 tt, .string ye] 45 (0, 0)), .box b3 (.cells vs 63 (0, 0))]) S0.out fun y hy => ?_
  have S1 := Lib.hid hy
  clear hy S0 hb3 hb5
  go_cut [31] from 19 to 31 (fun s29 wx => (s29 = .bool true ∨ (s29 = .bool false ∧ sm = true ∧ ye.size ≤ 100)) ∧ Hid (Sep w.heap.size w wx [.box b5 (.cells #[.int .i64 fm, .int .i64 tt, .string ye] 45 (0, 0)), .box b3 (.cells vs 63 (0, 0))]))
  case first =>
    have c0 := (HLOAD.out y S1.out).1
    have HC := Lib.hid (HLOAD.out y S1.out).2
    go_wp2_with (refine wpList_load_Do _ rfl b3 1 ds rfl HC.out HSZ.out rfl ?_)
    refine (HSM.out _ S1.out.bel).mono ?_
    rintro _ w2 ⟨rfl, hb⟩
    have S2 := Lib.hid (S1.out.up hb)
    have f2 : w2.cell? ⟨b5, 2, none⟩ = some (.string ye) := S2.out.boxAt 2
    clear hb c0 HC S1
    cases sm with
    | false =>
      go_wp2_with fail
      go_meet
      case rel => exact ⟨.inl rfl, S2⟩
    | true =>
      by_cases h1 : (ye.size : Int) > 100
      · have h1' : (100 : Int) < (ye.size : Int) := h1
        go_wp2_with fail
        go_meet
        case rel => exact ⟨.inl (by simp [h1']), S2⟩
      · have h1' : ¬ (100 : Int) < (ye.size : Int) := h1
        go_wp2_with fail
        go_meet
        case rel => exact ⟨.inr (by simp [h1']; omega), S2⟩
  case rest =>
    obtain ⟨hor, S2⟩ := hcut
    obtain ⟨y1, rfl⟩ : ∃ y : World, y = wc := ⟨_, rfl⟩
    rcases hor with rfl | ⟨rfl, rfl, h1⟩
    · go_wp2_with fail
      go_ret
      exact ⟨rfl, S2.out.bel⟩
    · have HYE := Lib.hid h1
      clear h1
      obtain ⟨K, hK⟩ : ∃ K, Ed.checkZ x.size fm tt ye = K := ⟨_, rfl⟩
      have HK := Lib.hid hK
      clear hK
      obtain ⟨g1, g2, g3⟩ := smA_true HSME.out
      have hrw : ∀ r ∈ d.nx, r.length ≤ 1000000 := fun r hr => by
        have : ∀ (l : List (List Int)), r ∈ l → r.length ≤ sumL l := by
          intro l
          induction l with
          | nil => intro h; cases h
          | cons a l ih => intro h; rcases List.mem_cons.1 h with rfl | h <;> simp only [sumL] <;> first | omega | (have := ih h; omega)
        have := this d.nx hr
        omega
      have hN := HNT.out
      have c0 := (HLOAD.out y1 S2.out).1
      have HC := Lib.hid (HLOAD.out y1 S2.out).2
      have HNEW : Hid (Calls Try.prog 21 #[.slice qr nt fr, .agg ds, .string x] y1 (NewP y1 d kl x (newE d kl x))) := Lib.hid (by
        have e := new_any (N := w.heap.size) (fr := fr) x S2.out.bel.size HD.out (HM.out y1 S2.out.bel) (HKR.out y1 S2.out.bel) (by rw [HKL.out]; omega) (by omega) (by omega) hrw hx
        rw [HKL.out] at e
        exact e)
      have HKB : Hid (kl.length ≤ 1000000) := Lib.hid (by rw [HKL.out]; omega)
      obtain ⟨E, hE⟩ : ∃ E, newE d kl x = E := ⟨_, rfl⟩
      rw [hE] at HNEW
      have HEE := Lib.hid hE
      clear hE hrw g2 g3 hN
      go_wp2_with (refine wpList_load_Do _ rfl b3 1 ds rfl HC.out HSZ.out rfl ?_)
      refine HNEW.out.mono ?_
      rintro _ w3 ⟨hb, hor⟩
      have S3 := Lib.hid (S2.out.up hb)
      clear hb c0 HC HNEW S2
      rcases hor with ⟨hne, rfl⟩ | ⟨rfl, bS, rfl, hsc⟩
      · have hne2 : (E != 0) = true := by simp [hne]
        have HAL := Lib.hid (alive12_any w3)
        go_wp2_with fail
        refine HAL.out.mono ?_
        rintro _ w4 ⟨rfl, hb⟩
        have S4 := Lib.hid (S3.out.up hb)
        clear hb
        go_wp2_with fail
        go_ret
        exact ⟨rfl, S4.out.bel⟩
      · have HSC := Lib.hid hsc
        have HF : Hid (Fine d kl x) := Lib.hid (newE_ok HKB.out HEE.out).2
        clear hsc
        by_cases hK0 : K = 0
        · subst hK0
          obtain ⟨a, c, rfl, rfl, ht, he1, htz⟩ := ed_of HF.out.sz HK.out
          obtain ⟨t, ht0⟩ : ∃ t, Ed.splice x a c ye = t := ⟨_, rfl⟩
          rw [ht0] at ht he1 htz
          have HG : Hid (Fine d kl t) := Lib.hid ⟨HF.out.may, HF.out.rl, HF.out.kn, htz⟩
          obtain ⟨m1, hm1⟩ : ∃ n, (scL d kl t).length = n := ⟨_, rfl⟩
          obtain ⟨m2, hm2⟩ : ∃ n, (scX d kl t).marks.length = n := ⟨_, rfl⟩
          obtain ⟨m3, hm3⟩ : ∃ n, (scX d kl t).counts.length = n := ⟨_, rfl⟩
          obtain ⟨m4, hm4⟩ : ∃ n, (scX d kl t).toks.length = n := ⟨_, rfl⟩
          obtain ⟨n1, hn1⟩ : ∃ n, (scL d kl x).length = n := ⟨_, rfl⟩
          obtain ⟨n2, hn2⟩ : ∃ n, (scX d kl x).marks.length = n := ⟨_, rfl⟩
          obtain ⟨n3, hn3⟩ : ∃ n, (scX d kl x).counts.length = n := ⟨_, rfl⟩
          obtain ⟨n4, hn4⟩ : ∃ n, (scX d kl x).toks.length = n := ⟨_, rfl⟩
          obtain ⟨c1, hc1⟩ : ∃ n, cpre (scX d kl x).toks (scX d kl t).toks = n := ⟨_, rfl⟩
          obtain ⟨c2, hc2⟩ : ∃ n, csuf (scX d kl x).toks (scX d kl t).toks = n := ⟨_, rfl⟩
          have HED1 : Hid (Calls Try.prog 16 #[.pointer (some ⟨bS, 0, none⟩), .agg #[.int .i64 (a : Nat), .int .i64 (c : Nat), .string ye]] w3 fun r w' => ∃ bq bs q1 q3 q4 e1 e3 e4 bT bR cnt o1 o2 o3 o4 r1 r2 r3 r4 l1 l2 l3 l4 ws J, r = .returned (.tuple #[.pointer (some ⟨bq, 0, none⟩), .agg #[.slice q1 m1 e1, .slice (some ⟨bT, 0, none⟩) m2 m2, .slice q3 m3 e3, .slice q4 m4 e4, .int .i64 (c1 : Nat), .int .i64 (c2 : Nat), .int .i64 cnt], .int .i64 0]) ∧ Cnt (scL d kl x) (scL d kl t) (bl x) (bl t) a c (a + ye.size) cnt ∧ NsI w3.heap.size w3 [] J d kl t bq bs o1 o2 o3 o4 r1 r2 r3 r4 l1 l2 l3 l4 ws q1 q3 q4 e1 e3 e4 bT bR w') := Lib.hid (by
            refine (edit_fr (Nat.le_refl _) (Nat.le_refl _) (Sep.start w3) HSC.out HF.out HG.out HK.out ht he1).mono ?_
            rintro r w' ⟨bq, bs, q1, q3, q4, e1, e3, e4, bT, bR, cnt, o1, o2, o3, o4, r1, r2, r3, r4, l1, l2, l3, l4, ws, J, rfl, hcn, hR⟩
            refine ⟨bq, bs, q1, q3, q4, e1, e3, e4, bT, bR, cnt, o1, o2, o3, o4, r1, r2, r3, r4, l1, l2, l3, l4, ws, J, ?_, hcn, hR⟩
            rw [hc1, hc2, rlV, hm1, hm2, hm3, hm4])
          have HE1 := Lib.hid he1
          have HMM := Lib.hid (And.intro hm1 (And.intro hm2 (And.intro hm3 hm4)))
          have HN4 := Lib.hid (And.intro hn1 (And.intro hn2 (And.intro hn3 hn4)))
          have HCC := Lib.hid (And.intro hc1 hc2)
          have f0 : w3.cell? ⟨b5, 0, none⟩ = some (.int .i64 (a : Nat)) := S3.out.boxAt 0
          have f1 : w3.cell? ⟨b5, 1, none⟩ = some (.int .i64 (c : Nat)) := S3.out.boxAt 1
          have f2 : w3.cell? ⟨b5, 2, none⟩ = some (.string ye) := S3.out.boxAt 2
          clear hm1 hm2 hm3 hm4 hn1 hn2 hn3 hn4 hc1 hc2 he1 ht ht0 htz
          go_wp2_with fail
          refine HED1.out.mono ?_
          rintro _ z1 ⟨bq, bs, q1, q3, q4, e1, e3, e4, bT, bR, cnt, o1, o2, o3, o4, r1, r2, r3, r4, l1, l2, l3, l4, ws, J, rfl, hcn, hR⟩
          have HR := Lib.hid hR
          have HCN := Lib.hid hcn
          clear hR hcn HED1 f0 f1 f2
          obtain ⟨b10, hb10⟩ : ∃ b, z1.heap.size = b := ⟨_, rfl⟩
          have T8 := Lib.hid (And.intro ((HR.out.sp.allocAt hb10 (.cells #[.slice q1 m1 e1, .slice (some ⟨bT, 0, none⟩) m2 m2, .slice q3 m3 e3, .slice q4 m4 e4, .int .i64 (c1 : Nat), .int .i64 (c2 : Nat), .int .i64 cnt] 51)).sub (.cons_cons _ (List.nil_sublist _))) ((Below.refl z1.heap.size z1).alloc (Nat.le_refl _) (.cells #[.slice q1 m1 e1, .slice (some ⟨bT, 0, none⟩) m2 m2, .slice q3 m3 e3, .slice q4 m4 e4, .int .i64 (c1 : Nat), .int .i64 (c2 : Nat), .int .i64 cnt] 51)))
          go_upto_region 7 with fail
          refine at_world (fun y => Sep w3.heap.size w3 y [.box b10 (.cells #[.slice q1 m1 e1, .slice (some ⟨bT, 0, none⟩) m2 m2, .slice q3 m3 e3, .slice q4 m4 e4, .int .i64 (c1 : Nat), .int .i64 (c2 : Nat), .int .i64 cnt] 51 (0, 0))] ∧ Below z1.heap.size z1 y) T8.out fun y4 hy => ?_
          have HLT4 : Hid (LV y4.heap.size y4 (scL d kl t) (scX d kl t) q1 (some ⟨bT, 0, none⟩) q3 q4 e1 (scX d kl t).marks.length e3 e4) := Lib.hid (HR.out.up hy.2).lv
          have S4 := Lib.hid hy.1
          clear hy T8 hb10 HR
          have HB34 := Lib.hid S4.out.bel
          have HLX : Hid (Calls Try.prog 18 #[.pointer (some ⟨bS, 0, none⟩)] y4 fun r w' => ∃ u1 u3 u4 i1 i3 i4 bU bV, r = .returned (.agg #[.slice u1 n1 i1, .slice (some ⟨bU, 0, none⟩) n2 n2, .slice u3 n3 i3, .slice u4 n4 i4]) ∧ Sep y4.heap.size y4 w' (cpI u1 u3 u4 i1 i3 i4 bU bV (scL d kl x) (scX d kl x) [])) := Lib.hid (by
            refine (lexed_any (B := y4.heap.size) (w0 := y4) (Nat.le_refl _) (HSC.out.up HB34.out.size (Nat.le_refl _) HB34.out) HF.out (Sep.start y4)).mono ?_
            intro r w' h
            obtain ⟨u1, u3, u4, i1, i3, i4, bU, bV, rfl, hs⟩ := h.cq
            refine ⟨u1, u3, u4, i1, i3, i4, bU, bV, ?_, hs⟩
            rw [cpV, HN4.out.1, HN4.out.2.1, HN4.out.2.2.1, HN4.out.2.2.2])
          go_wp2_with fail
          refine HLX.out.mono ?_
          rintro _ y6 ⟨u1, u3, u4, i1, i3, i4, bU, bV, rfl, hs6⟩
          have HS6 := Lib.hid hs6
          clear hs6 HLX
          obtain ⟨b12, hb12⟩ : ∃ b, y6.heap.size = b := ⟨_, rfl⟩
          have T9 := Lib.hid (And.intro ((HS6.out.allocAt hb12 (.cells #[.slice u1 n1 i1, .slice (some ⟨bU, 0, none⟩) n2 n2, .slice u3 n3 i3, .slice u4 n4 i4] 28)).sub (.cons_cons _ (List.nil_sublist _))) ((Below.refl y6.heap.size y6).alloc (Nat.le_refl _) (.cells #[.slice u1 n1 i1, .slice (some ⟨bU, 0, none⟩) n2 n2, .slice u3 n3 i3, .slice u4 n4 i4] 28)))
          go_upto_region 10 with fail
          refine at_world (fun y => Sep y4.heap.size y4 y [.box b12 (.cells #[.slice u1 n1 i1, .slice (some ⟨bU, 0, none⟩) n2 n2, .slice u3 n3 i3, .slice u4 n4 i4] 28 (0, 0))] ∧ Below y6.heap.size y6 y) T9.out fun y7 hy => ?_
          have HLV : Hid (LV y7.heap.size y7 (scL d kl x) (scX d kl x) u1 (some ⟨bU, 0, none⟩) u3 u4 i1 (scX d kl x).marks.length i3 i4) := Lib.hid ((cp_lv HS6.out).up hy.2.size hy.2)
          have S9 := Lib.hid hy.1
          clear hy T9 hb12 HS6
          have HB47 := Lib.hid S9.out.bel
          have HLT : Hid (LV y7.heap.size y7 (scL d kl t) (scX d kl t) q1 (some ⟨bT, 0, none⟩) q3 q4 e1 (scX d kl t).marks.length e3 e4) := Lib.hid (HLT4.out.up HB47.out.size HB47.out)
          have HB37 := Lib.hid (HB34.out.trans (HB47.out.mono HB34.out.size))
          have HC10 : Hid (∀ z, Below y7.heap.size y7 z → ∀ j, z.cell? ⟨b10, j, none⟩ = (#[.slice q1 m1 e1, .slice (some ⟨bT, 0, none⟩) m2 m2, .slice q3 m3 e3, .slice q4 m4 e4, .int .i64 (c1 : Nat), .int .i64 (c2 : Nat), .int .i64 cnt] : Array Value)[j]?) := Lib.hid fun z hz j => (S4.out.up (HB47.out.trans (hz.mono HB47.out.size))).boxAt j
          have HC12 : Hid (∀ z, Below y7.heap.size y7 z → ∀ j, z.cell? ⟨b12, j, none⟩ = (#[.slice u1 n1 i1, .slice (some ⟨bU, 0, none⟩) n2 n2, .slice u3 n3 i3, .slice u4 n4 i4] : Array Value)[j]?) := Lib.hid fun z hz j => (S9.out.up hz).boxAt j
          have HC5 : Hid (∀ z, Below y7.heap.size y7 z → z.cell? ⟨b5, 0, none⟩ = some (.int .i64 (a : Nat))) := Lib.hid fun z hz => (S3.out.up (HB37.out.trans (hz.mono HB37.out.size))).boxAt 0
          have hle := csuf_le (scX d kl x).toks (scX d kl t).toks
          rw [HCC.out.1, HCC.out.2, HN4.out.2.2.2, HMM.out.2.2.2] at hle
          have hn4 : n4 ≤ 4000000000 := by rw [← HN4.out.2.2.2]; exact Nat.le_trans HF.out.lens.l4 (by decide)
          have hm4 : m4 ≤ 4000000000 := by rw [← HMM.out.2.2.2]; exact Nat.le_trans HG.out.lens.l4 (by decide)
          have hi4 : n4 ≤ i4 := by rw [← HN4.out.2.2.2]; exact HLV.out.h4
          have he4 : m4 ≤ e4 := by rw [← HMM.out.2.2.2]; exact HLT.out.h4
          obtain ⟨hi, hhi⟩ : ∃ n, n4 - c2 = n := ⟨_, rfl⟩
          obtain ⟨ki, hki⟩ : ∃ n, m4 - c2 = n := ⟨_, rfl⟩
          obtain ⟨pa, hpa⟩ : ∃ p, (if i4 = hi then u4 else u4.map (fun a => a.add (hi * 3))) = p := ⟨_, rfl⟩
          obtain ⟨pb, hpb⟩ : ∃ p, (if e4 = ki then q4 else q4.map (fun a => a.add (ki * 3))) = p := ⟨_, rfl⟩
          have e1_ : n4 - hi = c2 := by omega
          have e2_ : m4 - ki = c2 := by omega
          have HT1 : Hid (∀ z, Below y7.heap.size y7 z → Calls Try.prog 23 #[.slice u4 c1 i4, .slice q4 c1 e4] z fun e w' => e = .returned (.bool true) ∧ Below z.heap.size z w') := Lib.hid fun z hz => by
            have h1 := wv_take (k := c1) (by have h := (HLV.out.up (Nat.le_refl _) hz).t; rw [HN4.out.2.2.2] at h; exact h) (by omega)
            have h2 := wv_take (k := c1) (by have h := (HLT.out.up (Nat.le_refl _) hz).t; rw [HMM.out.2.2.2] at h; exact h) (by omega)
            have e := cpre_take (scX d kl x).toks (scX d kl t).toks
            rw [HCC.out.1] at e
            rw [← e] at h2
            have hl : ((scX d kl x).toks.take c1).length = c1 := by rw [List.length_take, HN4.out.2.2.2]; omega
            have h := sametok_any (w := z) (l := (scX d kl x).toks.take c1) (D := Lt y7.heap.size) (E := Lt y7.heap.size) (p := u4) (p' := q4) (c := i4) (c' := e4) (fun b (hb : b < y7.heap.size) => Nat.lt_of_lt_of_le hb hz.size) (fun b (hb : b < y7.heap.size) => Nat.lt_of_lt_of_le hb hz.size) (by rw [hl]; exact h1) (by rw [hl]; exact h2) (by omega)
            rw [hl] at h
            exact h
          have HT2 : Hid (∀ z, Below y7.heap.size y7 z → Calls Try.prog 23 #[.slice pa c2 (i4 - hi), .slice pb c2 (e4 - ki)] z fun e w' => e = .returned (.bool true) ∧ Below z.heap.size z w') := Lib.hid fun z hz => by
            have h1 := wv_drop (k := hi) (by have h := (HLV.out.up (Nat.le_refl _) hz).t; rw [HN4.out.2.2.2] at h; exact h) (by omega) hi4 hpa
            have h2 := wv_drop (k := ki) (by have h := (HLT.out.up (Nat.le_refl _) hz).t; rw [HMM.out.2.2.2] at h; exact h) (by omega) he4 hpb
            have e := csuf_drop (scX d kl x).toks (scX d kl t).toks
            rw [HCC.out.2, HN4.out.2.2.2, HMM.out.2.2.2, hhi, hki] at e
            rw [← e] at h2
            rw [e1_] at h1
            rw [e2_] at h2
            have hl : ((scX d kl x).toks.drop hi).length = c2 := by rw [List.length_drop, HN4.out.2.2.2]; omega
            have h := sametok_any (w := z) (l := (scX d kl x).toks.drop hi) (D := Lt y7.heap.size) (E := Lt y7.heap.size) (p := pa) (p' := pb) (c := i4 - hi) (c' := e4 - ki) (fun b (hb : b < y7.heap.size) => Nat.lt_of_lt_of_le hb hz.size) (fun b (hb : b < y7.heap.size) => Nat.lt_of_lt_of_le hb hz.size) (by rw [hl]; exact h1) (by rw [hl]; exact h2) (by omega)
            rw [hl] at h
            exact h
          have HS7 : Hid ((fun z => Below y7.heap.size y7 z) y7.drew) := Lib.hid (below_drewN (Below.refl _ _) 1)
          refine wp_region_held_drew (S := fun z => Below y7.heap.size y7 z) (by kernel_rfl) HS7.out (fun hHeld => ?_)
          refine wpAnyH_take (i := 0) (v := .pointer (some ⟨b12, 3, none⟩)) rfl (by kernel_rfl) (by kernel_rfl) (by kernel_rfl) (fun _ _ _ h => h) (Or.inl ⟨by rfl, by (intro w hSw; (try dsimp only at hSw); go_simp)⟩) hHeld ?_
          (try simp only [Act.put, List.getElem_toArray, List.getElem_cons_zero, List.getElem_cons_succ, List.setIfInBounds_toArray, List.set_cons_zero, List.set_cons_succ])
          refine wpAnyH_take (i := 1) (v := .slice u4 n4 i4) rfl (by kernel_rfl) (by kernel_rfl) (by kernel_rfl) (fun _ _ _ h => h) (Or.inl ⟨by rfl, (by intro w9 hSw; (try dsimp only at hSw); have c1_ : w9.cell? ⟨b12, 3, none⟩ = some (.slice u4 n4 i4) := HC12.out w9 hSw 3; go_simp)⟩) hHeld ?_
          (try simp only [Act.put, List.getElem_toArray, List.getElem_cons_zero, List.getElem_cons_succ, List.setIfInBounds_toArray, List.set_cons_zero, List.set_cons_succ])
          refine wpAnyH_take (i := 2) (v := .pointer (some ⟨b10, 0, none⟩)) rfl (by kernel_rfl) (by kernel_rfl) (by kernel_rfl) (fun _ _ _ h => h) (Or.inl ⟨by rfl, by (intro w hSw; (try dsimp only at hSw); go_simp)⟩) hHeld ?_
          (try simp only [Act.put, List.getElem_toArray, List.getElem_cons_zero, List.getElem_cons_succ, List.setIfInBounds_toArray, List.set_cons_zero, List.set_cons_succ])
          refine wpAnyH_take (i := 3) (v := .pointer (some ⟨b10, 3, none⟩)) rfl (by kernel_rfl) (by kernel_rfl) (by kernel_rfl) (fun _ _ _ h => h) (Or.inl ⟨by rfl, by (intro w hSw; (try dsimp only at hSw); go_simp)⟩) hHeld ?_
          (try simp only [Act.put, List.getElem_toArray, List.getElem_cons_zero, List.getElem_cons_succ, List.setIfInBounds_toArray, List.set_cons_zero, List.set_cons_succ])
          refine wpAnyH_take (i := 4) (v := .slice q4 m4 e4) rfl (by kernel_rfl) (by kernel_rfl) (by kernel_rfl) (fun _ _ _ h => h) (Or.inl ⟨by rfl, (by intro w9 hSw; (try dsimp only at hSw); have c1_ : w9.cell? ⟨b10, 3, none⟩ = some (.slice q4 m4 e4) := HC10.out w9 hSw 3; go_simp)⟩) hHeld ?_
          (try simp only [Act.put, List.getElem_toArray, List.getElem_cons_zero, List.getElem_cons_succ, List.setIfInBounds_toArray, List.set_cons_zero, List.set_cons_succ])
          refine wpAnyH_take (i := 5) (v := .slice u4 n4 i4) rfl (by kernel_rfl) (by kernel_rfl) (by kernel_rfl) (fun _ _ _ h => h) (Or.inl ⟨by rfl, by (intro w hSw; (try dsimp only at hSw); go_simp)⟩) hHeld ?_
          (try simp only [Act.put, List.getElem_toArray, List.getElem_cons_zero, List.getElem_cons_succ, List.setIfInBounds_toArray, List.set_cons_zero, List.set_cons_succ])
          refine wpAnyH_take (i := 6) (v := .slice q4 m4 e4) rfl (by kernel_rfl) (by kernel_rfl) (by kernel_rfl) (fun _ _ _ h => h) (Or.inl ⟨by rfl, by (intro w hSw; (try dsimp only at hSw); go_simp)⟩) hHeld ?_
          (try simp only [Act.put, List.getElem_toArray, List.getElem_cons_zero, List.getElem_cons_succ, List.setIfInBounds_toArray, List.set_cons_zero, List.set_cons_succ])
          refine wpAnyH_done (by kernel_rfl) ?_ _
          clear hHeld
          go_upto_region 11 with fail
          refine at_world (fun y => Below y7.heap.size y7 y) HS7.out fun y8 hy => ?_
          have Sy8 := Lib.hid hy
          clear hy
          have x4 : y8.cell? ⟨b10, 4, none⟩ = some (.int .i64 (c1 : Nat)) := HC10.out y8 Sy8.out 4
          have x5 : y8.cell? ⟨b10, 5, none⟩ = some (.int .i64 (c2 : Nat)) := HC10.out y8 Sy8.out 5
          have hp1 : ¬ ((c1 : Nat) : Int) < 0 := by omega
          have hp2 : ¬ ((c2 : Nat) : Int) < 0 := by omega
          have hw1 : IntKind.i64.wrap (((c1 : Nat) : Int) + ((c2 : Nat) : Int)) = ((c1 : Nat) : Int) + ((c2 : Nat) : Int) := IntWalk.i64_in _ (by omega)
          have hp3 : ¬ ((n4 : Nat) : Int) < ((c1 : Nat) : Int) + ((c2 : Nat) : Int) := by omega
          have hp4 : ¬ ((m4 : Nat) : Int) < ((c1 : Nat) : Int) + ((c2 : Nat) : Int) := by omega
          go_upto_region 13 with fail
          refine at_world (fun y => Below y7.heap.size y7 y) Sy8.out fun y9 hy => ?_
          have Sy9 := Lib.hid hy
          clear hy
          clear x4 x5 hp1 hp2 hw1 hp3 hp4
          have hwa : IntKind.i64.wrap (((n4 : Nat) : Int) - ((c2 : Nat) : Int)) = ((hi : Nat) : Int) := by rw [IntWalk.i64_in _ (by omega)]; omega
          have hwb : IntKind.i64.wrap (((m4 : Nat) : Int) - ((c2 : Nat) : Int)) = ((ki : Nat) : Int) := by rw [IntWalk.i64_in _ (by omega)]; omega
          have V0 : Hid ((fun z => Below y7.heap.size y7 z) y9.drew) := Lib.hid (below_drewN Sy9.out 1)
          refine wp_region_held_drew (S := fun z => Below y7.heap.size y7 z) (by kernel_rfl) V0.out (fun hHeld => ?_)
          refine wpAnyH_take (i := 0) (v := .slice u4 n4 i4) rfl (by kernel_rfl) (by kernel_rfl) (by kernel_rfl) (fun _ _ _ h => h) (Or.inl ⟨by rfl, by (intro w hSw; (try dsimp only at hSw); go_simp)⟩) hHeld ?_
          (try simp only [Act.put, List.getElem_toArray, List.getElem_cons_zero, List.getElem_cons_succ, List.setIfInBounds_toArray, List.set_cons_zero, List.set_cons_succ])
          refine wpAnyH_take (i := 1) (v := .pointer (some ⟨b10, 4, none⟩)) rfl (by kernel_rfl) (by kernel_rfl) (by kernel_rfl) (fun _ _ _ h => h) (Or.inl ⟨by rfl, by (intro w hSw; (try dsimp only at hSw); go_simp)⟩) hHeld ?_
          (try simp only [Act.put, List.getElem_toArray, List.getElem_cons_zero, List.getElem_cons_succ, List.setIfInBounds_toArray, List.set_cons_zero, List.set_cons_succ])
          refine wpAnyH_take (i := 2) (v := .int .i64 (c1 : Nat)) rfl (by kernel_rfl) (by kernel_rfl) (by kernel_rfl) (fun _ _ _ h => h) (Or.inl ⟨by rfl, (by intro w9 hSw; (try dsimp only at hSw); have c1_ : w9.cell? ⟨b10, 4, none⟩ = some (.int .i64 (c1 : Nat)) := HC10.out w9 hSw 4; go_simp)⟩) hHeld ?_
          (try simp only [Act.put, List.getElem_toArray, List.getElem_cons_zero, List.getElem_cons_succ, List.setIfInBounds_toArray, List.set_cons_zero, List.set_cons_succ])
          refine wpAnyH_take (i := 3) (v := .slice u4 c1 i4) rfl (by kernel_rfl) (by kernel_rfl) (by kernel_rfl) (fun _ _ _ h => h) (Or.inl ⟨by rfl, (by intro w9 hSw; (try dsimp only at hSw); go_simp <;> (intro h_; exfalso; omega))⟩) hHeld ?_
          (try simp only [Act.put, List.getElem_toArray, List.getElem_cons_zero, List.getElem_cons_succ, List.setIfInBounds_toArray, List.set_cons_zero, List.set_cons_succ])
          refine wpAnyH_take (i := 4) (v := .slice q4 m4 e4) rfl (by kernel_rfl) (by kernel_rfl) (by kernel_rfl) (fun _ _ _ h => h) (Or.inl ⟨by rfl, by (intro w hSw; (try dsimp only at hSw); go_simp)⟩) hHeld ?_
          (try simp only [Act.put, List.getElem_toArray, List.getElem_cons_zero, List.getElem_cons_succ, List.setIfInBounds_toArray, List.set_cons_zero, List.set_cons_succ])
          refine wpAnyH_take (i := 5) (v := .pointer (some ⟨b10, 4, none⟩)) rfl (by kernel_rfl) (by kernel_rfl) (by kernel_rfl) (fun _ _ _ h => h) (Or.inl ⟨by rfl, by (intro w hSw; (try dsimp only at hSw); go_simp)⟩) hHeld ?_
          (try simp only [Act.put, List.getElem_toArray, List.getElem_cons_zero, List.getElem_cons_succ, List.setIfInBounds_toArray, List.set_cons_zero, List.set_cons_succ])
          refine wpAnyH_take (i := 6) (v := .int .i64 (c1 : Nat)) rfl (by kernel_rfl) (by kernel_rfl) (by kernel_rfl) (fun _ _ _ h => h) (Or.inl ⟨by rfl, (by intro w9 hSw; (try dsimp only at hSw); have c1_ : w9.cell? ⟨b10, 4, none⟩ = some (.int .i64 (c1 : Nat)) := HC10.out w9 hSw 4; go_simp)⟩) hHeld ?_
          (try simp only [Act.put, List.getElem_toArray, List.getElem_cons_zero, List.getElem_cons_succ, List.setIfInBounds_toArray, List.set_cons_zero, List.set_cons_succ])
          refine wpAnyH_take (i := 7) (v := .slice q4 c1 e4) rfl (by kernel_rfl) (by kernel_rfl) (by kernel_rfl) (fun _ _ _ h => h) (Or.inl ⟨by rfl, (by intro w9 hSw; (try dsimp only at hSw); go_simp <;> (intro h_; exfalso; omega))⟩) hHeld ?_
          (try simp only [Act.put, List.getElem_toArray, List.getElem_cons_zero, List.getElem_cons_succ, List.setIfInBounds_toArray, List.set_cons_zero, List.set_cons_succ])
          refine wpAnyH_ready (rs := [8]) (by kernel_rfl) (by simp) ?_
          refine AllReadyH.cons rfl (fun K hK => ?_) (AllReadyH.nil)
          rw [if_pos (by rfl)]
          go_wp2_with fail
          refine (HT1.out _ V0.out).mono ?_
          rintro _ z_V1 ⟨rfl, hb⟩
          have V1 : Hid ((fun z => Below y7.heap.size y7 z) z_V1) := Lib.hid (V0.out.trans (hb.mono V0.out.size))
          refine hK.out _ _ V1.out (fun hHeld2 => ?_)
          clear hHeld hK
          have hHeld := hHeld2
          clear hHeld2
          (try simp only [Act.put, List.getElem_toArray, List.getElem_cons_zero, List.getElem_cons_succ, List.setIfInBounds_toArray, List.set_cons_zero, List.set_cons_succ])
          clear hb
          refine wpAnyH_take (i := 9) (v := .bool false) rfl (by kernel_rfl) (by kernel_rfl) (by kernel_rfl) (fun _ _ _ h => h) (Or.inl ⟨by rfl, by (intro w hSw; (try dsimp only at hSw); go_simp)⟩) hHeld ?_
          (try simp only [Act.put, List.getElem_toArray, List.getElem_cons_zero, List.getElem_cons_succ, List.setIfInBounds_toArray, List.set_cons_zero, List.set_cons_succ])
          refine wpAnyH_take (i := 10) (v := .bool false) rfl (by kernel_rfl) (by kernel_rfl) (by kernel_rfl) (fun _ _ _ h => h) (Or.inl ⟨by rfl, by (intro w hSw; (try dsimp only at hSw); go_simp)⟩) hHeld ?_
          (try simp only [Act.put, List.getElem_toArray, List.getElem_cons_zero, List.getElem_cons_succ, List.setIfInBounds_toArray, List.set_cons_zero, List.set_cons_succ])
          refine wpAnyH_take (i := 11) (v := .slice u4 n4 i4) rfl (by kernel_rfl) (by kernel_rfl) (by kernel_rfl) (fun _ _ _ h => h) (Or.inl ⟨by rfl, by (intro w hSw; (try dsimp only at hSw); go_simp)⟩) hHeld ?_
          (try simp only [Act.put, List.getElem_toArray, List.getElem_cons_zero, List.getElem_cons_succ, List.setIfInBounds_toArray, List.set_cons_zero, List.set_cons_succ])
          refine wpAnyH_take (i := 12) (v := .slice u4 n4 i4) rfl (by kernel_rfl) (by kernel_rfl) (by kernel_rfl) (fun _ _ _ h => h) (Or.inl ⟨by rfl, by (intro w hSw; (try dsimp only at hSw); go_simp)⟩) hHeld ?_
          (try simp only [Act.put, List.getElem_toArray, List.getElem_cons_zero, List.getElem_cons_succ, List.setIfInBounds_toArray, List.set_cons_zero, List.set_cons_succ])
          refine wpAnyH_take (i := 13) (v := .int .i64 (n4 : Nat)) rfl (by kernel_rfl) (by kernel_rfl) (by kernel_rfl) (fun _ _ _ h => h) (Or.inl ⟨by rfl, by (intro w hSw; (try dsimp only at hSw); go_simp)⟩) hHeld ?_
          (try simp only [Act.put, List.getElem_toArray, List.getElem_cons_zero, List.getElem_cons_succ, List.setIfInBounds_toArray, List.set_cons_zero, List.set_cons_succ])
          refine wpAnyH_take (i := 14) (v := .pointer (some ⟨b10, 5, none⟩)) rfl (by kernel_rfl) (by kernel_rfl) (by kernel_rfl) (fun _ _ _ h => h) (Or.inl ⟨by rfl, by (intro w hSw; (try dsimp only at hSw); go_simp)⟩) hHeld ?_
          (try simp only [Act.put, List.getElem_toArray, List.getElem_cons_zero, List.getElem_cons_succ, List.setIfInBounds_toArray, List.set_cons_zero, List.set_cons_succ])
          refine wpAnyH_take (i := 15) (v := .int .i64 (c2 : Nat)) rfl (by kernel_rfl) (by kernel_rfl) (by kernel_rfl) (fun _ _ _ h => h) (Or.inl ⟨by rfl, (by intro w9 hSw; (try dsimp only at hSw); have c1_ : w9.cell? ⟨b10, 5, none⟩ = some (.int .i64 (c2 : Nat)) := HC10.out w9 hSw 5; go_simp)⟩) hHeld ?_
          (try simp only [Act.put, List.getElem_toArray, List.getElem_cons_zero, List.getElem_cons_succ, List.setIfInBounds_toArray, List.set_cons_zero, List.set_cons_succ])
          refine wpAnyH_take (i := 16) (v := .int .i64 (hi : Nat)) rfl (by kernel_rfl) (by kernel_rfl) (by kernel_rfl) (fun _ _ _ h => h) (Or.inl ⟨by rfl, by (intro w hSw; (try dsimp only at hSw); go_simp)⟩) hHeld ?_
          (try simp only [Act.put, List.getElem_toArray, List.getElem_cons_zero, List.getElem_cons_succ, List.setIfInBounds_toArray, List.set_cons_zero, List.set_cons_succ])
          refine wpAnyH_take (i := 17) (v := .slice pa c2 (i4 - hi)) rfl (by kernel_rfl) (by kernel_rfl) (by kernel_rfl) (fun _ _ _ h => h) (Or.inl ⟨by rfl, (by intro w9 hSw; (try dsimp only at hSw); go_simp <;> (intro h_; exfalso; omega))⟩) hHeld ?_
          (try simp only [Act.put, List.getElem_toArray, List.getElem_cons_zero, List.getElem_cons_succ, List.setIfInBounds_toArray, List.set_cons_zero, List.set_cons_succ])
          refine wpAnyH_take (i := 18) (v := .slice q4 m4 e4) rfl (by kernel_rfl) (by kernel_rfl) (by kernel_rfl) (fun _ _ _ h => h) (Or.inl ⟨by rfl, by (intro w hSw; (try dsimp only at hSw); go_simp)⟩) hHeld ?_
          (try simp only [Act.put, List.getElem_toArray, List.getElem_cons_zero, List.getElem_cons_succ, List.setIfInBounds_toArray, List.set_cons_zero, List.set_cons_succ])
          refine wpAnyH_take (i := 19) (v := .slice q4 m4 e4) rfl (by kernel_rfl) (by kernel_rfl) (by kernel_rfl) (fun _ _ _ h => h) (Or.inl ⟨by rfl, by (intro w hSw; (try dsimp only at hSw); go_simp)⟩) hHeld ?_
          (try simp only [Act.put, List.getElem_toArray, List.getElem_cons_zero, List.getElem_cons_succ, List.setIfInBounds_toArray, List.set_cons_zero, List.set_cons_succ])
          refine wpAnyH_take (i := 20) (v := .int .i64 (m4 : Nat)) rfl (by kernel_rfl) (by kernel_rfl) (by kernel_rfl) (fun _ _ _ h => h) (Or.inl ⟨by rfl, by (intro w hSw; (try dsimp only at hSw); go_simp)⟩) hHeld ?_
          (try simp only [Act.put, List.getElem_toArray, List.getElem_cons_zero, List.getElem_cons_succ, List.setIfInBounds_toArray, List.set_cons_zero, List.set_cons_succ])
          refine wpAnyH_take (i := 21) (v := .pointer (some ⟨b10, 5, none⟩)) rfl (by kernel_rfl) (by kernel_rfl) (by kernel_rfl) (fun _ _ _ h => h) (Or.inl ⟨by rfl, by (intro w hSw; (try dsimp only at hSw); go_simp)⟩) hHeld ?_
          (try simp only [Act.put, List.getElem_toArray, List.getElem_cons_zero, List.getElem_cons_succ, List.setIfInBounds_toArray, List.set_cons_zero, List.set_cons_succ])
          refine wpAnyH_take (i := 22) (v := .int .i64 (c2 : Nat)) rfl (by kernel_rfl) (by kernel_rfl) (by kernel_rfl) (fun _ _ _ h => h) (Or.inl ⟨by rfl, (by intro w9 hSw; (try dsimp only at hSw); have c1_ : w9.cell? ⟨b10, 5, none⟩ = some (.int .i64 (c2 : Nat)) := HC10.out w9 hSw 5; go_simp)⟩) hHeld ?_
          (try simp only [Act.put, List.getElem_toArray, List.getElem_cons_zero, List.getElem_cons_succ, List.setIfInBounds_toArray, List.set_cons_zero, List.set_cons_succ])
          refine wpAnyH_take (i := 23) (v := .int .i64 (ki : Nat)) rfl (by kernel_rfl) (by kernel_rfl) (by kernel_rfl) (fun _ _ _ h => h) (Or.inl ⟨by rfl, by (intro w hSw; (try dsimp only at hSw); go_simp)⟩) hHeld ?_
          (try simp only [Act.put, List.getElem_toArray, List.getElem_cons_zero, List.getElem_cons_succ, List.setIfInBounds_toArray, List.set_cons_zero, List.set_cons_succ])
          refine wpAnyH_take (i := 24) (v := .slice pb c2 (e4 - ki)) rfl (by kernel_rfl) (by kernel_rfl) (by kernel_rfl) (fun _ _ _ h => h) (Or.inl ⟨by rfl, (by intro w9 hSw; (try dsimp only at hSw); go_simp <;> (intro h_; exfalso; omega))⟩) hHeld ?_
          (try simp only [Act.put, List.getElem_toArray, List.getElem_cons_zero, List.getElem_cons_succ, List.setIfInBounds_toArray, List.set_cons_zero, List.set_cons_succ])
          refine wpAnyH_ready (rs := [25]) (by kernel_rfl) (by simp) ?_
          refine AllReadyH.cons rfl (fun K hK => ?_) (AllReadyH.nil)
          rw [if_pos (by rfl)]
          go_wp2_with fail
          refine (HT2.out _ V1.out).mono ?_
          rintro _ z_V2 ⟨rfl, hb⟩
          have V2 : Hid ((fun z => Below y7.heap.size y7 z) z_V2) := Lib.hid (V1.out.trans (hb.mono V1.out.size))
          refine hK.out _ _ V2.out (fun hHeld2 => ?_)
          clear hHeld hK
          have hHeld := hHeld2
          clear hHeld2
          (try simp only [Act.put, List.getElem_toArray, List.getElem_cons_zero, List.getElem_cons_succ, List.setIfInBounds_toArray, List.set_cons_zero, List.set_cons_succ])
          clear hb
          refine wpAnyH_take (i := 26) (v := .bool false) rfl (by kernel_rfl) (by kernel_rfl) (by kernel_rfl) (fun _ _ _ h => h) (Or.inl ⟨by rfl, by (intro w hSw; (try dsimp only at hSw); go_simp)⟩) hHeld ?_
          (try simp only [Act.put, List.getElem_toArray, List.getElem_cons_zero, List.getElem_cons_succ, List.setIfInBounds_toArray, List.set_cons_zero, List.set_cons_succ])
          refine wpAnyH_take (i := 27) (v := .bool false) rfl (by kernel_rfl) (by kernel_rfl) (by kernel_rfl) (fun _ _ _ h => h) (Or.inl ⟨by rfl, by (intro w hSw; (try dsimp only at hSw); go_simp)⟩) hHeld ?_
          (try simp only [Act.put, List.getElem_toArray, List.getElem_cons_zero, List.getElem_cons_succ, List.setIfInBounds_toArray, List.set_cons_zero, List.set_cons_succ])
          refine wpAnyH_done (by kernel_rfl) ?_ _
          clear hHeld
          go_upto_region 15 with fail
          refine at_world (fun y => Below y7.heap.size y7 y) V2.out fun y10 hy => ?_
          have Sy10 := Lib.hid hy
          clear hy
          obtain ⟨I, hI⟩ : ∃ I : Int, ((n4 : Nat) : Int) - 1 - ((c2 : Nat) : Int) = I := ⟨_, rfl⟩
          obtain ⟨J0, hJ⟩ : ∃ I : Int, ((m4 : Nat) : Int) - 1 - ((c2 : Nat) : Int) = I := ⟨_, rfl⟩
          have hwi1 : IntKind.i64.wrap (((n4 : Nat) : Int) - 1) = ((n4 : Nat) : Int) - 1 := IntWalk.i64_in _ (by omega)
          have hwi2 : IntKind.i64.wrap I = I := IntWalk.i64_in _ (by omega)
          have hwj1 : IntKind.i64.wrap (((m4 : Nat) : Int) - 1) = ((m4 : Nat) : Int) - 1 := IntWalk.i64_in _ (by omega)
          have hwj2 : IntKind.i64.wrap J0 = J0 := IntWalk.i64_in _ (by omega)
          have V3 : Hid ((fun z => Below y7.heap.size y7 z) y10.drew) := Lib.hid (below_drewN Sy10.out 1)
          refine wp_region_held_drew (S := fun z => Below y7.heap.size y7 z) (by kernel_rfl) V3.out (fun hHeld => ?_)
          refine wpAnyH_take (i := 0) (v := .slice u4 n4 i4) rfl (by kernel_rfl) (by kernel_rfl) (by kernel_rfl) (fun _ _ _ h => h) (Or.inl ⟨by rfl, by (intro w hSw; (try dsimp only at hSw); go_simp)⟩) hHeld ?_
          (try simp only [Act.put, List.getElem_toArray, List.getElem_cons_zero, List.getElem_cons_succ, List.setIfInBounds_toArray, List.set_cons_zero, List.set_cons_succ])
          refine wpAnyH_take (i := 1) (v := .int .i64 (n4 : Nat)) rfl (by kernel_rfl) (by kernel_rfl) (by kernel_rfl) (fun _ _ _ h => h) (Or.inl ⟨by rfl, by (intro w hSw; (try dsimp only at hSw); go_simp)⟩) hHeld ?_
          (try simp only [Act.put, List.getElem_toArray, List.getElem_cons_zero, List.getElem_cons_succ, List.setIfInBounds_toArray, List.set_cons_zero, List.set_cons_succ])
          refine wpAnyH_take (i := 2) (v := .int .i64 (((n4 : Nat) : Int) - 1)) rfl (by kernel_rfl) (by kernel_rfl) (by kernel_rfl) (fun _ _ _ h => h) (Or.inl ⟨by rfl, by (intro w hSw; (try dsimp only at hSw); go_simp)⟩) hHeld ?_
          (try simp only [Act.put, List.getElem_toArray, List.getElem_cons_zero, List.getElem_cons_succ, List.setIfInBounds_toArray, List.set_cons_zero, List.set_cons_succ])
          refine wpAnyH_take (i := 3) (v := .pointer (some ⟨b10, 5, none⟩)) rfl (by kernel_rfl) (by kernel_rfl) (by kernel_rfl) (fun _ _ _ h => h) (Or.inl ⟨by rfl, by (intro w hSw; (try dsimp only at hSw); go_simp)⟩) hHeld ?_
          (try simp only [Act.put, List.getElem_toArray, List.getElem_cons_zero, List.getElem_cons_succ, List.setIfInBounds_toArray, List.set_cons_zero, List.set_cons_succ])
          refine wpAnyH_take (i := 4) (v := .int .i64 (c2 : Nat)) rfl (by kernel_rfl) (by kernel_rfl) (by kernel_rfl) (fun _ _ _ h => h) (Or.inl ⟨by rfl, (by intro w9 hSw; (try dsimp only at hSw); have c1_ : w9.cell? ⟨b10, 5, none⟩ = some (.int .i64 (c2 : Nat)) := HC10.out w9 hSw 5; go_simp)⟩) hHeld ?_
          (try simp only [Act.put, List.getElem_toArray, List.getElem_cons_zero, List.getElem_cons_succ, List.setIfInBounds_toArray, List.set_cons_zero, List.set_cons_succ])
          refine wpAnyH_take (i := 5) (v := .int .i64 I) rfl (by kernel_rfl) (by kernel_rfl) (by kernel_rfl) (fun _ _ _ h => h) (Or.inl ⟨by rfl, by (intro w hSw; (try dsimp only at hSw); go_simp)⟩) hHeld ?_
          (try simp only [Act.put, List.getElem_toArray, List.getElem_cons_zero, List.getElem_cons_succ, List.setIfInBounds_toArray, List.set_cons_zero, List.set_cons_succ])
          refine wpAnyH_take (i := 6) (v := .slice q4 m4 e4) rfl (by kernel_rfl) (by kernel_rfl) (by kernel_rfl) (fun _ _ _ h => h) (Or.inl ⟨by rfl, by (intro w hSw; (try dsimp only at hSw); go_simp)⟩) hHeld ?_
          (try simp only [Act.put, List.getElem_toArray, List.getElem_cons_zero, List.getElem_cons_succ, List.setIfInBounds_toArray, List.set_cons_zero, List.set_cons_succ])
          refine wpAnyH_take (i := 7) (v := .int .i64 (m4 : Nat)) rfl (by kernel_rfl) (by kernel_rfl) (by kernel_rfl) (fun _ _ _ h => h) (Or.inl ⟨by rfl, by (intro w hSw; (try dsimp only at hSw); go_simp)⟩) hHeld ?_
          (try simp only [Act.put, List.getElem_toArray, List.getElem_cons_zero, List.getElem_cons_succ, List.setIfInBounds_toArray, List.set_cons_zero, List.set_cons_succ])
          refine wpAnyH_take (i := 8) (v := .int .i64 (((m4 : Nat) : Int) - 1)) rfl (by kernel_rfl) (by kernel_rfl) (by kernel_rfl) (fun _ _ _ h => h) (Or.inl ⟨by rfl, by (intro w hSw; (try dsimp only at hSw); go_simp)⟩) hHeld ?_
          (try simp only [Act.put, List.getElem_toArray, List.getElem_cons_zero, List.getElem_cons_succ, List.setIfInBounds_toArray, List.set_cons_zero, List.set_cons_succ])
          refine wpAnyH_take (i := 9) (v := .pointer (some ⟨b10, 5, none⟩)) rfl (by kernel_rfl) (by kernel_rfl) (by kernel_rfl) (fun _ _ _ h => h) (Or.inl ⟨by rfl, by (intro w hSw; (try dsimp only at hSw); go_simp)⟩) hHeld ?_
          (try simp only [Act.put, List.getElem_toArray, List.getElem_cons_zero, List.getElem_cons_succ, List.setIfInBounds_toArray, List.set_cons_zero, List.set_cons_succ])
          refine wpAnyH_take (i := 10) (v := .int .i64 (c2 : Nat)) rfl (by kernel_rfl) (by kernel_rfl) (by kernel_rfl) (fun _ _ _ h => h) (Or.inl ⟨by rfl, (by intro w9 hSw; (try dsimp only at hSw); have c1_ : w9.cell? ⟨b10, 5, none⟩ = some (.int .i64 (c2 : Nat)) := HC10.out w9 hSw 5; go_simp)⟩) hHeld ?_
          (try simp only [Act.put, List.getElem_toArray, List.getElem_cons_zero, List.getElem_cons_succ, List.setIfInBounds_toArray, List.set_cons_zero, List.set_cons_succ])
          refine wpAnyH_take (i := 11) (v := .int .i64 J0) rfl (by kernel_rfl) (by kernel_rfl) (by kernel_rfl) (fun _ _ _ h => h) (Or.inl ⟨by rfl, by (intro w hSw; (try dsimp only at hSw); go_simp)⟩) hHeld ?_
          (try simp only [Act.put, List.getElem_toArray, List.getElem_cons_zero, List.getElem_cons_succ, List.setIfInBounds_toArray, List.set_cons_zero, List.set_cons_succ])
          refine wpAnyH_take (i := 12) (v := .int .i64 I) rfl (by kernel_rfl) (by kernel_rfl) (by kernel_rfl) (fun _ _ _ h => h) (Or.inl ⟨by rfl, by (intro w hSw; (try dsimp only at hSw); go_simp)⟩) hHeld ?_
          (try simp only [Act.put, List.getElem_toArray, List.getElem_cons_zero, List.getElem_cons_succ, List.setIfInBounds_toArray, List.set_cons_zero, List.set_cons_succ])
          refine wpAnyH_take (i := 13) (v := .int .i64 J0) rfl (by kernel_rfl) (by kernel_rfl) (by kernel_rfl) (fun _ _ _ h => h) (Or.inl ⟨by rfl, by (intro w hSw; (try dsimp only at hSw); go_simp)⟩) hHeld ?_
          (try simp only [Act.put, List.getElem_toArray, List.getElem_cons_zero, List.getElem_cons_succ, List.setIfInBounds_toArray, List.set_cons_zero, List.set_cons_succ])
          refine wpAnyH_done (by kernel_rfl) ?_ _
          clear hpa hpb e1_ e2_
          clear hHeld hwi1 hwi2 hwj1 hwj2 hwa hwb
          go_upto_region 16 with fail
          refine at_world (fun y => Below y7.heap.size y7 y) V3.out fun y11 hy => ?_
          have Sy11 := Lib.hid hy
          clear hy
          go_cut [162] from 129 to 162 (fun s162 wx => s162 = .bool false ∧ Hid (Below y7.heap.size y7 wx))
          case first =>
            by_cases hA : ((c1 : Nat) : Int) ≤ I
            · by_cases hB : ((c1 : Nat) : Int) ≤ J0
              · have hcn : c1 < n4 := by omega
                have hcm : c1 < m4 := by omega
                obtain ⟨ii, hii⟩ : ∃ n : Nat, n4 - 1 - c2 = n := ⟨_, rfl⟩
                obtain ⟨jj, hjj⟩ : ∃ n : Nat, m4 - 1 - c2 = n := ⟨_, rfl⟩
                obtain rfl : I = (ii : Int) := by omega
                obtain rfl : J0 = (jj : Int) := by omega
                obtain ⟨ub, uo, rfl, hub, hua⟩ := wv_all HLV.out.t (by rw [HN4.out.2.2.2]; omega)
                obtain ⟨qb, qo, rfl, hqb, hqa⟩ := wv_all HLT.out.t (by rw [HMM.out.2.2.2]; omega)
                have hne1 := ne_ahead HCC.out.1 (by rw [HN4.out.2.2.2]; omega) (by rw [HMM.out.2.2.2]; omega)
                have hne2 := ne_behind (i := ii) (j := jj) HCC.out.1 HCC.out.2 (by rw [HN4.out.2.2.2]; omega) (by rw [HMM.out.2.2.2]; omega) (by rw [HN4.out.2.2.2]; omega) (by rw [HMM.out.2.2.2]; omega) (by rw [HN4.out.2.2.2]; omega) (by rw [HMM.out.2.2.2]; omega)
                obtain ⟨⟨xa, xb, xc⟩, hva⟩ : ∃ z, (scX d kl x).toks[c1]'(by rw [HN4.out.2.2.2]; omega) = z := ⟨_, rfl⟩
                obtain ⟨⟨ya, yb, yc⟩, hvb⟩ : ∃ z, (scX d kl t).toks[c1]'(by rw [HMM.out.2.2.2]; omega) = z := ⟨_, rfl⟩
                obtain ⟨⟨sa, sb, sc⟩, hvc⟩ : ∃ z, (scX d kl x).toks[ii]'(by rw [HN4.out.2.2.2]; omega) = z := ⟨_, rfl⟩
                obtain ⟨⟨ra, rb, rc⟩, hvd⟩ : ∃ z, (scX d kl t).toks[jj]'(by rw [HMM.out.2.2.2]; omega) = z := ⟨_, rfl⟩
                rw [hva, hvb] at hne1
                rw [hvc, hvd] at hne2
                have HVA : Hid (∀ z, Below y7.heap.size y7 z → z.cell? ⟨ub, uo + c1 * 3, none⟩ = some (.int .i64 xa) ∧ z.cell? ⟨ub, uo + c1 * 3 + 1, none⟩ = some (.int .i64 xb) ∧ z.cell? ⟨ub, uo + c1 * 3 + 2, none⟩ = some (.int .i64 xc)) := Lib.hid (by
                  obtain ⟨g1, g2, g3⟩ := hua c1 (by rw [HN4.out.2.2.2]; omega)
                  rw [hva] at g1 g2 g3
                  exact fun z hz => ⟨(cell_same (hz.block ub hub) _).trans g1, (cell_same (hz.block ub hub) _).trans g2, (cell_same (hz.block ub hub) _).trans g3⟩)
                have HVB : Hid (∀ z, Below y7.heap.size y7 z → z.cell? ⟨qb, qo + c1 * 3, none⟩ = some (.int .i64 ya) ∧ z.cell? ⟨qb, qo + c1 * 3 + 1, none⟩ = some (.int .i64 yb) ∧ z.cell? ⟨qb, qo + c1 * 3 + 2, none⟩ = some (.int .i64 yc)) := Lib.hid (by
                  obtain ⟨g1, g2, g3⟩ := hqa c1 (by rw [HMM.out.2.2.2]; omega)
                  rw [hvb] at g1 g2 g3
                  exact fun z hz => ⟨(cell_same (hz.block qb hqb) _).trans g1, (cell_same (hz.block qb hqb) _).trans g2, (cell_same (hz.block qb hqb) _).trans g3⟩)
                have HVC : Hid (∀ z, Below y7.heap.size y7 z → z.cell? ⟨ub, uo + ii * 3, none⟩ = some (.int .i64 sa) ∧ z.cell? ⟨ub, uo + ii * 3 + 1, none⟩ = some (.int .i64 sb) ∧ z.cell? ⟨ub, uo + ii * 3 + 2, none⟩ = some (.int .i64 sc)) := Lib.hid (by
                  obtain ⟨g1, g2, g3⟩ := hua ii (by rw [HN4.out.2.2.2]; omega)
                  rw [hvc] at g1 g2 g3
                  exact fun z hz => ⟨(cell_same (hz.block ub hub) _).trans g1, (cell_same (hz.block ub hub) _).trans g2, (cell_same (hz.block ub hub) _).trans g3⟩)
                have HVD : Hid (∀ z, Below y7.heap.size y7 z → z.cell? ⟨qb, qo + jj * 3, none⟩ = some (.int .i64 ra) ∧ z.cell? ⟨qb, qo + jj * 3 + 1, none⟩ = some (.int .i64 rb) ∧ z.cell? ⟨qb, qo + jj * 3 + 2, none⟩ = some (.int .i64 rc)) := Lib.hid (by
                  obtain ⟨g1, g2, g3⟩ := hqa jj (by rw [HMM.out.2.2.2]; omega)
                  rw [hvd] at g1 g2 g3
                  exact fun z hz => ⟨(cell_same (hz.block qb hqb) _).trans g1, (cell_same (hz.block qb hqb) _).trans g2, (cell_same (hz.block qb hqb) _).trans g3⟩)
                have hq1 := fun z => eq40 xa xb xc ya yb yc z
                have hq2 := fun z => eq40 sa sb sc ra rb rc z
                simp only [tk_ne hne1] at hq1
                simp only [tk_ne hne2] at hq2
                have hci1 : ((c1 : Nat) : Int) < ((n4 : Nat) : Int) := by omega
                have hci2 : ((c1 : Nat) : Int) < ((m4 : Nat) : Int) := by omega
                have hci3 : ((ii : Nat) : Int) < ((n4 : Nat) : Int) := by omega
                have hci4 : ((jj : Nat) : Int) < ((m4 : Nat) : Int) := by omega
                have hc01 : ¬ ((c1 : Nat) : Int) < 0 := by omega
                have hc02 : ¬ ((ii : Nat) : Int) < 0 := by omega
                have hc03 : ¬ ((jj : Nat) : Int) < 0 := by omega
                clear hua hqa hva hvb hvc hvd hne1 hne2 hii hjj
                have V4 : Hid ((fun z => Below y7.heap.size y7 z) y11.drew) := Lib.hid (below_drewN Sy11.out 1)
                refine wp_region_held_drew (S := fun z => Below y7.heap.size y7 z) (by kernel_rfl) V4.out (fun hHeld => ?_)
                refine wpAnyH_take (i := 0) (v := .pointer (some ⟨b10, 4, none⟩)) rfl (by kernel_rfl) (by kernel_rfl) (by kernel_rfl) (fun _ _ _ h => h) (Or.inl ⟨by rfl, by (intro w hSw; (try dsimp only at hSw); go_simp)⟩) hHeld ?_
                (try simp only [Act.put, List.getElem_toArray, List.getElem_cons_zero, List.getElem_cons_succ, List.setIfInBounds_toArray, List.set_cons_zero, List.set_cons_succ])
                refine wpAnyH_take (i := 1) (v := .int .i64 (c1 : Nat)) rfl (by kernel_rfl) (by kernel_rfl) (by kernel_rfl) (fun _ _ _ h => h) (Or.inl ⟨by rfl, (by intro w9 hSw; (try dsimp only at hSw); have c1_ : w9.cell? ⟨b10, 4, none⟩ = some (.int .i64 (c1 : Nat)) := HC10.out w9 hSw 4; go_simp)⟩) hHeld ?_
                (try simp only [Act.put, List.getElem_toArray, List.getElem_cons_zero, List.getElem_cons_succ, List.setIfInBounds_toArray, List.set_cons_zero, List.set_cons_succ])
                refine wpAnyH_take (i := 2) (v := .int .i64 (ii : Nat)) rfl (by kernel_rfl) (by kernel_rfl) (by kernel_rfl) (fun _ _ _ h => h) (Or.inl ⟨by rfl, by (intro w hSw; (try dsimp only at hSw); go_simp)⟩) hHeld ?_
                (try simp only [Act.put, List.getElem_toArray, List.getElem_cons_zero, List.getElem_cons_succ, List.setIfInBounds_toArray, List.set_cons_zero, List.set_cons_succ])
                refine wpAnyH_take (i := 3) (v := .bool true) rfl (by kernel_rfl) (by kernel_rfl) (by kernel_rfl) (fun _ _ _ h => h) (Or.inl ⟨by rfl, by (intro w hSw; (try dsimp only at hSw); go_simp)⟩) hHeld ?_
                (try simp only [Act.put, List.getElem_toArray, List.getElem_cons_zero, List.getElem_cons_succ, List.setIfInBounds_toArray, List.set_cons_zero, List.set_cons_succ])
                refine wpAnyH_take (i := 4) (v := .bool true) rfl (by kernel_rfl) (by kernel_rfl) (by kernel_rfl) (fun _ _ _ h => h) (Or.inl ⟨by rfl, by (intro w hSw; (try dsimp only at hSw); go_simp)⟩) hHeld ?_
                (try simp only [Act.put, List.getElem_toArray, List.getElem_cons_zero, List.getElem_cons_succ, List.setIfInBounds_toArray, List.set_cons_zero, List.set_cons_succ])
                refine wpAnyH_take (i := 5) (v := .pointer (some ⟨b10, 4, none⟩)) rfl (by kernel_rfl) (by kernel_rfl) (by kernel_rfl) (fun _ _ _ h => h) (Or.inl ⟨by rfl, by (intro w hSw; (try dsimp only at hSw); go_simp)⟩) hHeld ?_
                (try simp only [Act.put, List.getElem_toArray, List.getElem_cons_zero, List.getElem_cons_succ, List.setIfInBounds_toArray, List.set_cons_zero, List.set_cons_succ])
                refine wpAnyH_take (i := 6) (v := .int .i64 (c1 : Nat)) rfl (by kernel_rfl) (by kernel_rfl) (by kernel_rfl) (fun _ _ _ h => h) (Or.inl ⟨by rfl, (by intro w9 hSw; (try dsimp only at hSw); have c1_ : w9.cell? ⟨b10, 4, none⟩ = some (.int .i64 (c1 : Nat)) := HC10.out w9 hSw 4; go_simp)⟩) hHeld ?_
                (try simp only [Act.put, List.getElem_toArray, List.getElem_cons_zero, List.getElem_cons_succ, List.setIfInBounds_toArray, List.set_cons_zero, List.set_cons_succ])
                refine wpAnyH_take (i := 7) (v := .int .i64 (jj : Nat)) rfl (by kernel_rfl) (by kernel_rfl) (by kernel_rfl) (fun _ _ _ h => h) (Or.inl ⟨by rfl, by (intro w hSw; (try dsimp only at hSw); go_simp)⟩) hHeld ?_
                (try simp only [Act.put, List.getElem_toArray, List.getElem_cons_zero, List.getElem_cons_succ, List.setIfInBounds_toArray, List.set_cons_zero, List.set_cons_succ])
                refine wpAnyH_take (i := 8) (v := .bool true) rfl (by kernel_rfl) (by kernel_rfl) (by kernel_rfl) (fun _ _ _ h => h) (Or.inl ⟨by rfl, by (intro w hSw; (try dsimp only at hSw); go_simp)⟩) hHeld ?_
                (try simp only [Act.put, List.getElem_toArray, List.getElem_cons_zero, List.getElem_cons_succ, List.setIfInBounds_toArray, List.set_cons_zero, List.set_cons_succ])
                refine wpAnyH_take (i := 9) (v := .bool true) rfl (by kernel_rfl) (by kernel_rfl) (by kernel_rfl) (fun _ _ _ h => h) (Or.inl ⟨by rfl, by (intro w hSw; (try dsimp only at hSw); go_simp)⟩) hHeld ?_
                (try simp only [Act.put, List.getElem_toArray, List.getElem_cons_zero, List.getElem_cons_succ, List.setIfInBounds_toArray, List.set_cons_zero, List.set_cons_succ])
                refine wpAnyH_take (i := 10) (v := .bool true) rfl (by kernel_rfl) (by kernel_rfl) (by kernel_rfl) (fun _ _ _ h => h) (Or.inl ⟨by rfl, by (intro w hSw; (try dsimp only at hSw); go_simp)⟩) hHeld ?_
                (try simp only [Act.put, List.getElem_toArray, List.getElem_cons_zero, List.getElem_cons_succ, List.setIfInBounds_toArray, List.set_cons_zero, List.set_cons_succ])
                refine wpAnyH_take (i := 11) (v := .slice (some ⟨ub, uo, none⟩) n4 i4) rfl (by kernel_rfl) (by kernel_rfl) (by kernel_rfl) (fun _ _ _ h => h) (Or.inl ⟨by rfl, by (intro w hSw; (try dsimp only at hSw); go_simp)⟩) hHeld ?_
                (try simp only [Act.put, List.getElem_toArray, List.getElem_cons_zero, List.getElem_cons_succ, List.setIfInBounds_toArray, List.set_cons_zero, List.set_cons_succ])
                refine wpAnyH_take (i := 12) (v := .pointer (some ⟨b10, 4, none⟩)) rfl (by kernel_rfl) (by kernel_rfl) (by kernel_rfl) (fun _ _ _ h => h) (Or.inl ⟨by rfl, by (intro w hSw; (try dsimp only at hSw); go_simp)⟩) hHeld ?_
                (try simp only [Act.put, List.getElem_toArray, List.getElem_cons_zero, List.getElem_cons_succ, List.setIfInBounds_toArray, List.set_cons_zero, List.set_cons_succ])
                refine wpAnyH_take (i := 13) (v := .int .i64 (c1 : Nat)) rfl (by kernel_rfl) (by kernel_rfl) (by kernel_rfl) (fun _ _ _ h => h) (Or.inl ⟨by rfl, (by intro w9 hSw; (try dsimp only at hSw); have c1_ : w9.cell? ⟨b10, 4, none⟩ = some (.int .i64 (c1 : Nat)) := HC10.out w9 hSw 4; go_simp)⟩) hHeld ?_
                (try simp only [Act.put, List.getElem_toArray, List.getElem_cons_zero, List.getElem_cons_succ, List.setIfInBounds_toArray, List.set_cons_zero, List.set_cons_succ])
                refine wpAnyH_take (i := 14) (v := .pointer (some ⟨ub, uo + c1 * 3, none⟩)) rfl (by kernel_rfl) (by kernel_rfl) (by kernel_rfl) (fun _ _ _ h => h) (Or.inl ⟨by rfl, by (intro w hSw; (try dsimp only at hSw); go_simp)⟩) hHeld ?_
                (try simp only [Act.put, List.getElem_toArray, List.getElem_cons_zero, List.getElem_cons_succ, List.setIfInBounds_toArray, List.set_cons_zero, List.set_cons_succ])
                refine wpAnyH_take (i := 15) (v := .agg #[.int .i64 xa, .int .i64 xb, .int .i64 xc]) rfl (by kernel_rfl) (by kernel_rfl) (by kernel_rfl) (fun _ _ _ h => h) (Or.inl ⟨by rfl, (by intro w9 hSw; (try dsimp only at hSw); obtain ⟨c1_, c2_, c3_⟩ := HVA.out w9 hSw; go_simp)⟩) hHeld ?_
                (try simp only [Act.put, List.getElem_toArray, List.getElem_cons_zero, List.getElem_cons_succ, List.setIfInBounds_toArray, List.set_cons_zero, List.set_cons_succ])
                refine wpAnyH_take (i := 16) (v := .slice (some ⟨qb, qo, none⟩) m4 e4) rfl (by kernel_rfl) (by kernel_rfl) (by kernel_rfl) (fun _ _ _ h => h) (Or.inl ⟨by rfl, by (intro w hSw; (try dsimp only at hSw); go_simp)⟩) hHeld ?_
                (try simp only [Act.put, List.getElem_toArray, List.getElem_cons_zero, List.getElem_cons_succ, List.setIfInBounds_toArray, List.set_cons_zero, List.set_cons_succ])
                refine wpAnyH_take (i := 17) (v := .pointer (some ⟨b10, 4, none⟩)) rfl (by kernel_rfl) (by kernel_rfl) (by kernel_rfl) (fun _ _ _ h => h) (Or.inl ⟨by rfl, by (intro w hSw; (try dsimp only at hSw); go_simp)⟩) hHeld ?_
                (try simp only [Act.put, List.getElem_toArray, List.getElem_cons_zero, List.getElem_cons_succ, List.setIfInBounds_toArray, List.set_cons_zero, List.set_cons_succ])
                refine wpAnyH_take (i := 18) (v := .int .i64 (c1 : Nat)) rfl (by kernel_rfl) (by kernel_rfl) (by kernel_rfl) (fun _ _ _ h => h) (Or.inl ⟨by rfl, (by intro w9 hSw; (try dsimp only at hSw); have c1_ : w9.cell? ⟨b10, 4, none⟩ = some (.int .i64 (c1 : Nat)) := HC10.out w9 hSw 4; go_simp)⟩) hHeld ?_
                (try simp only [Act.put, List.getElem_toArray, List.getElem_cons_zero, List.getElem_cons_succ, List.setIfInBounds_toArray, List.set_cons_zero, List.set_cons_succ])
                refine wpAnyH_take (i := 19) (v := .pointer (some ⟨qb, qo + c1 * 3, none⟩)) rfl (by kernel_rfl) (by kernel_rfl) (by kernel_rfl) (fun _ _ _ h => h) (Or.inl ⟨by rfl, by (intro w hSw; (try dsimp only at hSw); go_simp)⟩) hHeld ?_
                (try simp only [Act.put, List.getElem_toArray, List.getElem_cons_zero, List.getElem_cons_succ, List.setIfInBounds_toArray, List.set_cons_zero, List.set_cons_succ])
                refine wpAnyH_take (i := 20) (v := .agg #[.int .i64 ya, .int .i64 yb, .int .i64 yc]) rfl (by kernel_rfl) (by kernel_rfl) (by kernel_rfl) (fun _ _ _ h => h) (Or.inl ⟨by rfl, (by intro w9 hSw; (try dsimp only at hSw); obtain ⟨c1_, c2_, c3_⟩ := HVB.out w9 hSw; go_simp)⟩) hHeld ?_
                (try simp only [Act.put, List.getElem_toArray, List.getElem_cons_zero, List.getElem_cons_succ, List.setIfInBounds_toArray, List.set_cons_zero, List.set_cons_succ])
                refine wpAnyH_take (i := 21) (v := .bool false) rfl (by kernel_rfl) (by kernel_rfl) (by kernel_rfl) (fun _ _ _ h => h) (Or.inl ⟨by rfl, (by intro w9 hSw; (try dsimp only at hSw); first | exact hq1 w9 | (have h_ := hq1 w9; go_simp))⟩) hHeld ?_
                (try simp only [Act.put, List.getElem_toArray, List.getElem_cons_zero, List.getElem_cons_succ, List.setIfInBounds_toArray, List.set_cons_zero, List.set_cons_succ])
                refine wpAnyH_take (i := 22) (v := .bool false) rfl (by kernel_rfl) (by kernel_rfl) (by kernel_rfl) (fun _ _ _ h => h) (Or.inl ⟨by rfl, by (intro w hSw; (try dsimp only at hSw); go_simp)⟩) hHeld ?_
                (try simp only [Act.put, List.getElem_toArray, List.getElem_cons_zero, List.getElem_cons_succ, List.setIfInBounds_toArray, List.set_cons_zero, List.set_cons_succ])
                refine wpAnyH_take (i := 23) (v := .slice (some ⟨ub, uo, none⟩) n4 i4) rfl (by kernel_rfl) (by kernel_rfl) (by kernel_rfl) (fun _ _ _ h => h) (Or.inl ⟨by rfl, by (intro w hSw; (try dsimp only at hSw); go_simp)⟩) hHeld ?_
                (try simp only [Act.put, List.getElem_toArray, List.getElem_cons_zero, List.getElem_cons_succ, List.setIfInBounds_toArray, List.set_cons_zero, List.set_cons_succ])
                refine wpAnyH_take (i := 24) (v := .int .i64 (ii : Nat)) rfl (by kernel_rfl) (by kernel_rfl) (by kernel_rfl) (fun _ _ _ h => h) (Or.inl ⟨by rfl, by (intro w hSw; (try dsimp only at hSw); go_simp)⟩) hHeld ?_
                (try simp only [Act.put, List.getElem_toArray, List.getElem_cons_zero, List.getElem_cons_succ, List.setIfInBounds_toArray, List.set_cons_zero, List.set_cons_succ])
                refine wpAnyH_take (i := 25) (v := .pointer (some ⟨ub, uo + ii * 3, none⟩)) rfl (by kernel_rfl) (by kernel_rfl) (by kernel_rfl) (fun _ _ _ h => h) (Or.inl ⟨by rfl, by (intro w hSw; (try dsimp only at hSw); go_simp)⟩) hHeld ?_
                (try simp only [Act.put, List.getElem_toArray, List.getElem_cons_zero, List.getElem_cons_succ, List.setIfInBounds_toArray, List.set_cons_zero, List.set_cons_succ])
                refine wpAnyH_take (i := 26) (v := .agg #[.int .i64 sa, .int .i64 sb, .int .i64 sc]) rfl (by kernel_rfl) (by kernel_rfl) (by kernel_rfl) (fun _ _ _ h => h) (Or.inl ⟨by rfl, (by intro w9 hSw; (try dsimp only at hSw); obtain ⟨c1_, c2_, c3_⟩ := HVC.out w9 hSw; go_simp)⟩) hHeld ?_
                (try simp only [Act.put, List.getElem_toArray, List.getElem_cons_zero, List.getElem_cons_succ, List.setIfInBounds_toArray, List.set_cons_zero, List.set_cons_succ])
                refine wpAnyH_take (i := 27) (v := .slice (some ⟨qb, qo, none⟩) m4 e4) rfl (by kernel_rfl) (by kernel_rfl) (by kernel_rfl) (fun _ _ _ h => h) (Or.inl ⟨by rfl, by (intro w hSw; (try dsimp only at hSw); go_simp)⟩) hHeld ?_
                (try simp only [Act.put, List.getElem_toArray, List.getElem_cons_zero, List.getElem_cons_succ, List.setIfInBounds_toArray, List.set_cons_zero, List.set_cons_succ])
                refine wpAnyH_take (i := 28) (v := .int .i64 (jj : Nat)) rfl (by kernel_rfl) (by kernel_rfl) (by kernel_rfl) (fun _ _ _ h => h) (Or.inl ⟨by rfl, by (intro w hSw; (try dsimp only at hSw); go_simp)⟩) hHeld ?_
                (try simp only [Act.put, List.getElem_toArray, List.getElem_cons_zero, List.getElem_cons_succ, List.setIfInBounds_toArray, List.set_cons_zero, List.set_cons_succ])
                refine wpAnyH_take (i := 29) (v := .pointer (some ⟨qb, qo + jj * 3, none⟩)) rfl (by kernel_rfl) (by kernel_rfl) (by kernel_rfl) (fun _ _ _ h => h) (Or.inl ⟨by rfl, by (intro w hSw; (try dsimp only at hSw); go_simp)⟩) hHeld ?_
                (try simp only [Act.put, List.getElem_toArray, List.getElem_cons_zero, List.getElem_cons_succ, List.setIfInBounds_toArray, List.set_cons_zero, List.set_cons_succ])
                refine wpAnyH_take (i := 30) (v := .agg #[.int .i64 ra, .int .i64 rb, .int .i64 rc]) rfl (by kernel_rfl) (by kernel_rfl) (by kernel_rfl) (fun _ _ _ h => h) (Or.inl ⟨by rfl, (by intro w9 hSw; (try dsimp only at hSw); obtain ⟨c1_, c2_, c3_⟩ := HVD.out w9 hSw; go_simp)⟩) hHeld ?_
                (try simp only [Act.put, List.getElem_toArray, List.getElem_cons_zero, List.getElem_cons_succ, List.setIfInBounds_toArray, List.set_cons_zero, List.set_cons_succ])
                refine wpAnyH_take (i := 31) (v := .bool false) rfl (by kernel_rfl) (by kernel_rfl) (by kernel_rfl) (fun _ _ _ h => h) (Or.inl ⟨by rfl, (by intro w9 hSw; (try dsimp only at hSw); first | exact hq2 w9 | (have h_ := hq2 w9; go_simp))⟩) hHeld ?_
                (try simp only [Act.put, List.getElem_toArray, List.getElem_cons_zero, List.getElem_cons_succ, List.setIfInBounds_toArray, List.set_cons_zero, List.set_cons_succ])
                refine wpAnyH_take (i := 32) (v := .bool false) rfl (by kernel_rfl) (by kernel_rfl) (by kernel_rfl) (fun _ _ _ h => h) (Or.inl ⟨by rfl, by (intro w hSw; (try dsimp only at hSw); go_simp)⟩) hHeld ?_
                (try simp only [Act.put, List.getElem_toArray, List.getElem_cons_zero, List.getElem_cons_succ, List.setIfInBounds_toArray, List.set_cons_zero, List.set_cons_succ])
                refine wpAnyH_take (i := 33) (v := .bool false) rfl (by kernel_rfl) (by kernel_rfl) (by kernel_rfl) (fun _ _ _ h => h) (Or.inl ⟨by rfl, by (intro w hSw; (try dsimp only at hSw); go_simp)⟩) hHeld ?_
                (try simp only [Act.put, List.getElem_toArray, List.getElem_cons_zero, List.getElem_cons_succ, List.setIfInBounds_toArray, List.set_cons_zero, List.set_cons_succ])
                refine wpAnyH_done (by kernel_rfl) ?_ _
                clear hHeld
                go_wp2_with fail
                go_meet
                case rel => exact ⟨rfl, V4⟩
              · have V4 : Hid ((fun z => Below y7.heap.size y7 z) y11.drew) := Lib.hid (below_drewN Sy11.out 1)
                refine wp_region_held_drew (S := fun z => Below y7.heap.size y7 z) (by kernel_rfl) V4.out (fun hHeld => ?_)
                refine wpAnyH_take (i := 0) (v := .pointer (some ⟨b10, 4, none⟩)) rfl (by kernel_rfl) (by kernel_rfl) (by kernel_rfl) (fun _ _ _ h => h) (Or.inl ⟨by rfl, by (intro w hSw; (try dsimp only at hSw); go_simp)⟩) hHeld ?_
                (try simp only [Act.put, List.getElem_toArray, List.getElem_cons_zero, List.getElem_cons_succ, List.setIfInBounds_toArray, List.set_cons_zero, List.set_cons_succ])
                refine wpAnyH_take (i := 1) (v := .int .i64 (c1 : Nat)) rfl (by kernel_rfl) (by kernel_rfl) (by kernel_rfl) (fun _ _ _ h => h) (Or.inl ⟨by rfl, (by intro w9 hSw; (try dsimp only at hSw); have c1_ : w9.cell? ⟨b10, 4, none⟩ = some (.int .i64 (c1 : Nat)) := HC10.out w9 hSw 4; go_simp)⟩) hHeld ?_
                (try simp only [Act.put, List.getElem_toArray, List.getElem_cons_zero, List.getElem_cons_succ, List.setIfInBounds_toArray, List.set_cons_zero, List.set_cons_succ])
                refine wpAnyH_take (i := 2) (v := .int .i64 I) rfl (by kernel_rfl) (by kernel_rfl) (by kernel_rfl) (fun _ _ _ h => h) (Or.inl ⟨by rfl, by (intro w hSw; (try dsimp only at hSw); go_simp)⟩) hHeld ?_
                (try simp only [Act.put, List.getElem_toArray, List.getElem_cons_zero, List.getElem_cons_succ, List.setIfInBounds_toArray, List.set_cons_zero, List.set_cons_succ])
                refine wpAnyH_take (i := 3) (v := .bool true) rfl (by kernel_rfl) (by kernel_rfl) (by kernel_rfl) (fun _ _ _ h => h) (Or.inl ⟨by rfl, by (intro w hSw; (try dsimp only at hSw); go_simp)⟩) hHeld ?_
                (try simp only [Act.put, List.getElem_toArray, List.getElem_cons_zero, List.getElem_cons_succ, List.setIfInBounds_toArray, List.set_cons_zero, List.set_cons_succ])
                refine wpAnyH_take (i := 4) (v := .bool true) rfl (by kernel_rfl) (by kernel_rfl) (by kernel_rfl) (fun _ _ _ h => h) (Or.inl ⟨by rfl, by (intro w hSw; (try dsimp only at hSw); go_simp)⟩) hHeld ?_
                (try simp only [Act.put, List.getElem_toArray, List.getElem_cons_zero, List.getElem_cons_succ, List.setIfInBounds_toArray, List.set_cons_zero, List.set_cons_succ])
                refine wpAnyH_take (i := 5) (v := .pointer (some ⟨b10, 4, none⟩)) rfl (by kernel_rfl) (by kernel_rfl) (by kernel_rfl) (fun _ _ _ h => h) (Or.inl ⟨by rfl, by (intro w hSw; (try dsimp only at hSw); go_simp)⟩) hHeld ?_
                (try simp only [Act.put, List.getElem_toArray, List.getElem_cons_zero, List.getElem_cons_succ, List.setIfInBounds_toArray, List.set_cons_zero, List.set_cons_succ])
                refine wpAnyH_take (i := 6) (v := .int .i64 (c1 : Nat)) rfl (by kernel_rfl) (by kernel_rfl) (by kernel_rfl) (fun _ _ _ h => h) (Or.inl ⟨by rfl, (by intro w9 hSw; (try dsimp only at hSw); have c1_ : w9.cell? ⟨b10, 4, none⟩ = some (.int .i64 (c1 : Nat)) := HC10.out w9 hSw 4; go_simp)⟩) hHeld ?_
                (try simp only [Act.put, List.getElem_toArray, List.getElem_cons_zero, List.getElem_cons_succ, List.setIfInBounds_toArray, List.set_cons_zero, List.set_cons_succ])
                refine wpAnyH_take (i := 7) (v := .int .i64 J0) rfl (by kernel_rfl) (by kernel_rfl) (by kernel_rfl) (fun _ _ _ h => h) (Or.inl ⟨by rfl, by (intro w hSw; (try dsimp only at hSw); go_simp)⟩) hHeld ?_
                (try simp only [Act.put, List.getElem_toArray, List.getElem_cons_zero, List.getElem_cons_succ, List.setIfInBounds_toArray, List.set_cons_zero, List.set_cons_succ])
                refine wpAnyH_take (i := 8) (v := .bool false) rfl (by kernel_rfl) (by kernel_rfl) (by kernel_rfl) (fun _ _ _ h => h) (Or.inl ⟨by rfl, by (intro w hSw; (try dsimp only at hSw); go_simp)⟩) hHeld ?_
                (try simp only [Act.put, List.getElem_toArray, List.getElem_cons_zero, List.getElem_cons_succ, List.setIfInBounds_toArray, List.set_cons_zero, List.set_cons_succ])
                refine wpAnyH_take (i := 9) (v := .bool false) rfl (by kernel_rfl) (by kernel_rfl) (by kernel_rfl) (fun _ _ _ h => h) (Or.inl ⟨by rfl, by (intro w hSw; (try dsimp only at hSw); go_simp)⟩) hHeld ?_
                (try simp only [Act.put, List.getElem_toArray, List.getElem_cons_zero, List.getElem_cons_succ, List.setIfInBounds_toArray, List.set_cons_zero, List.set_cons_succ])
                refine wpAnyH_take (i := 10) (v := .bool false) rfl (by kernel_rfl) (by kernel_rfl) (by kernel_rfl) (fun _ _ _ h => h) (Or.inl ⟨by rfl, by (intro w hSw; (try dsimp only at hSw); go_simp)⟩) hHeld ?_
                (try simp only [Act.put, List.getElem_toArray, List.getElem_cons_zero, List.getElem_cons_succ, List.setIfInBounds_toArray, List.set_cons_zero, List.set_cons_succ])
                refine wpAnyH_take (i := 11) (v := undef) rfl (by kernel_rfl) (by kernel_rfl) (by kernel_rfl) (fun _ _ _ h => h) (Or.inr ⟨by rfl, rfl⟩) hHeld ?_
                (try simp only [Act.put, List.getElem_toArray, List.getElem_cons_zero, List.getElem_cons_succ, List.setIfInBounds_toArray, List.set_cons_zero, List.set_cons_succ])
                refine wpAnyH_take (i := 12) (v := undef) rfl (by kernel_rfl) (by kernel_rfl) (by kernel_rfl) (fun _ _ _ h => h) (Or.inr ⟨by rfl, rfl⟩) hHeld ?_
                (try simp only [Act.put, List.getElem_toArray, List.getElem_cons_zero, List.getElem_cons_succ, List.setIfInBounds_toArray, List.set_cons_zero, List.set_cons_succ])
                refine wpAnyH_take (i := 13) (v := undef) rfl (by kernel_rfl) (by kernel_rfl) (by kernel_rfl) (fun _ _ _ h => h) (Or.inr ⟨by rfl, rfl⟩) hHeld ?_
                (try simp only [Act.put, List.getElem_toArray, List.getElem_cons_zero, List.getElem_cons_succ, List.setIfInBounds_toArray, List.set_cons_zero, List.set_cons_succ])
                refine wpAnyH_take (i := 14) (v := undef) rfl (by kernel_rfl) (by kernel_rfl) (by kernel_rfl) (fun _ _ _ h => h) (Or.inr ⟨by rfl, rfl⟩) hHeld ?_
                (try simp only [Act.put, List.getElem_toArray, List.getElem_cons_zero, List.getElem_cons_succ, List.setIfInBounds_toArray, List.set_cons_zero, List.set_cons_succ])
                refine wpAnyH_take (i := 15) (v := undef) rfl (by kernel_rfl) (by kernel_rfl) (by kernel_rfl) (fun _ _ _ h => h) (Or.inr ⟨by rfl, rfl⟩) hHeld ?_
                (try simp only [Act.put, List.getElem_toArray, List.getElem_cons_zero, List.getElem_cons_succ, List.setIfInBounds_toArray, List.set_cons_zero, List.set_cons_succ])
                refine wpAnyH_take (i := 16) (v := undef) rfl (by kernel_rfl) (by kernel_rfl) (by kernel_rfl) (fun _ _ _ h => h) (Or.inr ⟨by rfl, rfl⟩) hHeld ?_
                (try simp only [Act.put, List.getElem_toArray, List.getElem_cons_zero, List.getElem_cons_succ, List.setIfInBounds_toArray, List.set_cons_zero, List.set_cons_succ])
                refine wpAnyH_take (i := 17) (v := undef) rfl (by kernel_rfl) (by kernel_rfl) (by kernel_rfl) (fun _ _ _ h => h) (Or.inr ⟨by rfl, rfl⟩) hHeld ?_
                (try simp only [Act.put, List.getElem_toArray, List.getElem_cons_zero, List.getElem_cons_succ, List.setIfInBounds_toArray, List.set_cons_zero, List.set_cons_succ])
                refine wpAnyH_take (i := 18) (v := undef) rfl (by kernel_rfl) (by kernel_rfl) (by kernel_rfl) (fun _ _ _ h => h) (Or.inr ⟨by rfl, rfl⟩) hHeld ?_
                (try simp only [Act.put, List.getElem_toArray, List.getElem_cons_zero, List.getElem_cons_succ, List.setIfInBounds_toArray, List.set_cons_zero, List.set_cons_succ])
                refine wpAnyH_take (i := 19) (v := undef) rfl (by kernel_rfl) (by kernel_rfl) (by kernel_rfl) (fun _ _ _ h => h) (Or.inr ⟨by rfl, rfl⟩) hHeld ?_
                (try simp only [Act.put, List.getElem_toArray, List.getElem_cons_zero, List.getElem_cons_succ, List.setIfInBounds_toArray, List.set_cons_zero, List.set_cons_succ])
                refine wpAnyH_take (i := 20) (v := undef) rfl (by kernel_rfl) (by kernel_rfl) (by kernel_rfl) (fun _ _ _ h => h) (Or.inr ⟨by rfl, rfl⟩) hHeld ?_
                (try simp only [Act.put, List.getElem_toArray, List.getElem_cons_zero, List.getElem_cons_succ, List.setIfInBounds_toArray, List.set_cons_zero, List.set_cons_succ])
                refine wpAnyH_take (i := 21) (v := undef) rfl (by kernel_rfl) (by kernel_rfl) (by kernel_rfl) (fun _ _ _ h => h) (Or.inr ⟨by rfl, rfl⟩) hHeld ?_
                (try simp only [Act.put, List.getElem_toArray, List.getElem_cons_zero, List.getElem_cons_succ, List.setIfInBounds_toArray, List.set_cons_zero, List.set_cons_succ])
                refine wpAnyH_take (i := 22) (v := undef) rfl (by kernel_rfl) (by kernel_rfl) (by kernel_rfl) (fun _ _ _ h => h) (Or.inr ⟨by rfl, rfl⟩) hHeld ?_
                (try simp only [Act.put, List.getElem_toArray, List.getElem_cons_zero, List.getElem_cons_succ, List.setIfInBounds_toArray, List.set_cons_zero, List.set_cons_succ])
                refine wpAnyH_take (i := 23) (v := undef) rfl (by kernel_rfl) (by kernel_rfl) (by kernel_rfl) (fun _ _ _ h => h) (Or.inr ⟨by rfl, rfl⟩) hHeld ?_
                (try simp only [Act.put, List.getElem_toArray, List.getElem_cons_zero, List.getElem_cons_succ, List.setIfInBounds_toArray, List.set_cons_zero, List.set_cons_succ])
                refine wpAnyH_take (i := 24) (v := undef) rfl (by kernel_rfl) (by kernel_rfl) (by kernel_rfl) (fun _ _ _ h => h) (Or.inr ⟨by rfl, rfl⟩) hHeld ?_
                (try simp only [Act.put, List.getElem_toArray, List.getElem_cons_zero, List.getElem_cons_succ, List.setIfInBounds_toArray, List.set_cons_zero, List.set_cons_succ])
                refine wpAnyH_take (i := 25) (v := undef) rfl (by kernel_rfl) (by kernel_rfl) (by kernel_rfl) (fun _ _ _ h => h) (Or.inr ⟨by rfl, rfl⟩) hHeld ?_
                (try simp only [Act.put, List.getElem_toArray, List.getElem_cons_zero, List.getElem_cons_succ, List.setIfInBounds_toArray, List.set_cons_zero, List.set_cons_succ])
                refine wpAnyH_take (i := 26) (v := undef) rfl (by kernel_rfl) (by kernel_rfl) (by kernel_rfl) (fun _ _ _ h => h) (Or.inr ⟨by rfl, rfl⟩) hHeld ?_
                (try simp only [Act.put, List.getElem_toArray, List.getElem_cons_zero, List.getElem_cons_succ, List.setIfInBounds_toArray, List.set_cons_zero, List.set_cons_succ])
                refine wpAnyH_take (i := 27) (v := undef) rfl (by kernel_rfl) (by kernel_rfl) (by kernel_rfl) (fun _ _ _ h => h) (Or.inr ⟨by rfl, rfl⟩) hHeld ?_
                (try simp only [Act.put, List.getElem_toArray, List.getElem_cons_zero, List.getElem_cons_succ, List.setIfInBounds_toArray, List.set_cons_zero, List.set_cons_succ])
                refine wpAnyH_take (i := 28) (v := undef) rfl (by kernel_rfl) (by kernel_rfl) (by kernel_rfl) (fun _ _ _ h => h) (Or.inr ⟨by rfl, rfl⟩) hHeld ?_
                (try simp only [Act.put, List.getElem_toArray, List.getElem_cons_zero, List.getElem_cons_succ, List.setIfInBounds_toArray, List.set_cons_zero, List.set_cons_succ])
                refine wpAnyH_take (i := 29) (v := undef) rfl (by kernel_rfl) (by kernel_rfl) (by kernel_rfl) (fun _ _ _ h => h) (Or.inr ⟨by rfl, rfl⟩) hHeld ?_
                (try simp only [Act.put, List.getElem_toArray, List.getElem_cons_zero, List.getElem_cons_succ, List.setIfInBounds_toArray, List.set_cons_zero, List.set_cons_succ])
                refine wpAnyH_take (i := 30) (v := undef) rfl (by kernel_rfl) (by kernel_rfl) (by kernel_rfl) (fun _ _ _ h => h) (Or.inr ⟨by rfl, rfl⟩) hHeld ?_
                (try simp only [Act.put, List.getElem_toArray, List.getElem_cons_zero, List.getElem_cons_succ, List.setIfInBounds_toArray, List.set_cons_zero, List.set_cons_succ])
                refine wpAnyH_take (i := 31) (v := undef) rfl (by kernel_rfl) (by kernel_rfl) (by kernel_rfl) (fun _ _ _ h => h) (Or.inr ⟨by rfl, rfl⟩) hHeld ?_
                (try simp only [Act.put, List.getElem_toArray, List.getElem_cons_zero, List.getElem_cons_succ, List.setIfInBounds_toArray, List.set_cons_zero, List.set_cons_succ])
                refine wpAnyH_take (i := 32) (v := undef) rfl (by kernel_rfl) (by kernel_rfl) (by kernel_rfl) (fun _ _ _ h => h) (Or.inr ⟨by rfl, rfl⟩) hHeld ?_
                (try simp only [Act.put, List.getElem_toArray, List.getElem_cons_zero, List.getElem_cons_succ, List.setIfInBounds_toArray, List.set_cons_zero, List.set_cons_succ])
                refine wpAnyH_take (i := 33) (v := .bool false) rfl (by kernel_rfl) (by kernel_rfl) (by kernel_rfl) (fun _ _ _ h => h) (Or.inl ⟨by rfl, by (intro w hSw; (try dsimp only at hSw); go_simp)⟩) hHeld ?_
                (try simp only [Act.put, List.getElem_toArray, List.getElem_cons_zero, List.getElem_cons_succ, List.setIfInBounds_toArray, List.set_cons_zero, List.set_cons_succ])
                refine wpAnyH_done (by kernel_rfl) ?_ _
                clear hHeld
                go_wp2_with fail
                go_meet
                case rel => exact ⟨rfl, V4⟩
            · have V4 : Hid ((fun z => Below y7.heap.size y7 z) y11.drew) := Lib.hid (below_drewN Sy11.out 1)
              refine wp_region_held_drew (S := fun z => Below y7.heap.size y7 z) (by kernel_rfl) V4.out (fun hHeld => ?_)
              refine wpAnyH_take (i := 0) (v := .pointer (some ⟨b10, 4, none⟩)) rfl (by kernel_rfl) (by kernel_rfl) (by kernel_rfl) (fun _ _ _ h => h) (Or.inl ⟨by rfl, by (intro w hSw; (try dsimp only at hSw); go_simp)⟩) hHeld ?_
              (try simp only [Act.put, List.getElem_toArray, List.getElem_cons_zero, List.getElem_cons_succ, List.setIfInBounds_toArray, List.set_cons_zero, List.set_cons_succ])
              refine wpAnyH_take (i := 1) (v := .int .i64 (c1 : Nat)) rfl (by kernel_rfl) (by kernel_rfl) (by kernel_rfl) (fun _ _ _ h => h) (Or.inl ⟨by rfl, (by intro w9 hSw; (try dsimp only at hSw); have c1_ : w9.cell? ⟨b10, 4, none⟩ = some (.int .i64 (c1 : Nat)) := HC10.out w9 hSw 4; go_simp)⟩) hHeld ?_
              (try simp only [Act.put, List.getElem_toArray, List.getElem_cons_zero, List.getElem_cons_succ, List.setIfInBounds_toArray, List.set_cons_zero, List.set_cons_succ])
              refine wpAnyH_take (i := 2) (v := .int .i64 I) rfl (by kernel_rfl) (by kernel_rfl) (by kernel_rfl) (fun _ _ _ h => h) (Or.inl ⟨by rfl, by (intro w hSw; (try dsimp only at hSw); go_simp)⟩) hHeld ?_
              (try simp only [Act.put, List.getElem_toArray, List.getElem_cons_zero, List.getElem_cons_succ, List.setIfInBounds_toArray, List.set_cons_zero, List.set_cons_succ])
              refine wpAnyH_take (i := 3) (v := .bool false) rfl (by kernel_rfl) (by kernel_rfl) (by kernel_rfl) (fun _ _ _ h => h) (Or.inl ⟨by rfl, by (intro w hSw; (try dsimp only at hSw); go_simp)⟩) hHeld ?_
              (try simp only [Act.put, List.getElem_toArray, List.getElem_cons_zero, List.getElem_cons_succ, List.setIfInBounds_toArray, List.set_cons_zero, List.set_cons_succ])
              refine wpAnyH_take (i := 4) (v := .bool false) rfl (by kernel_rfl) (by kernel_rfl) (by kernel_rfl) (fun _ _ _ h => h) (Or.inl ⟨by rfl, by (intro w hSw; (try dsimp only at hSw); go_simp)⟩) hHeld ?_
              (try simp only [Act.put, List.getElem_toArray, List.getElem_cons_zero, List.getElem_cons_succ, List.setIfInBounds_toArray, List.set_cons_zero, List.set_cons_succ])
              refine wpAnyH_take (i := 5) (v := undef) rfl (by kernel_rfl) (by kernel_rfl) (by kernel_rfl) (fun _ _ _ h => h) (Or.inr ⟨by rfl, rfl⟩) hHeld ?_
              (try simp only [Act.put, List.getElem_toArray, List.getElem_cons_zero, List.getElem_cons_succ, List.setIfInBounds_toArray, List.set_cons_zero, List.set_cons_succ])
              refine wpAnyH_take (i := 6) (v := undef) rfl (by kernel_rfl) (by kernel_rfl) (by kernel_rfl) (fun _ _ _ h => h) (Or.inr ⟨by rfl, rfl⟩) hHeld ?_
              (try simp only [Act.put, List.getElem_toArray, List.getElem_cons_zero, List.getElem_cons_succ, List.setIfInBounds_toArray, List.set_cons_zero, List.set_cons_succ])
              refine wpAnyH_take (i := 7) (v := undef) rfl (by kernel_rfl) (by kernel_rfl) (by kernel_rfl) (fun _ _ _ h => h) (Or.inr ⟨by rfl, rfl⟩) hHeld ?_
              (try simp only [Act.put, List.getElem_toArray, List.getElem_cons_zero, List.getElem_cons_succ, List.setIfInBounds_toArray, List.set_cons_zero, List.set_cons_succ])
              refine wpAnyH_take (i := 8) (v := undef) rfl (by kernel_rfl) (by kernel_rfl) (by kernel_rfl) (fun _ _ _ h => h) (Or.inr ⟨by rfl, rfl⟩) hHeld ?_
              (try simp only [Act.put, List.getElem_toArray, List.getElem_cons_zero, List.getElem_cons_succ, List.setIfInBounds_toArray, List.set_cons_zero, List.set_cons_succ])
              refine wpAnyH_take (i := 9) (v := .bool false) rfl (by kernel_rfl) (by kernel_rfl) (by kernel_rfl) (fun _ _ _ h => h) (Or.inl ⟨by rfl, by (intro w hSw; (try dsimp only at hSw); go_simp)⟩) hHeld ?_
              (try simp only [Act.put, List.getElem_toArray, List.getElem_cons_zero, List.getElem_cons_succ, List.setIfInBounds_toArray, List.set_cons_zero, List.set_cons_succ])
              refine wpAnyH_take (i := 10) (v := .bool false) rfl (by kernel_rfl) (by kernel_rfl) (by kernel_rfl) (fun _ _ _ h => h) (Or.inl ⟨by rfl, by (intro w hSw; (try dsimp only at hSw); go_simp)⟩) hHeld ?_
              (try simp only [Act.put, List.getElem_toArray, List.getElem_cons_zero, List.getElem_cons_succ, List.setIfInBounds_toArray, List.set_cons_zero, List.set_cons_succ])
              refine wpAnyH_take (i := 11) (v := undef) rfl (by kernel_rfl) (by kernel_rfl) (by kernel_rfl) (fun _ _ _ h => h) (Or.inr ⟨by rfl, rfl⟩) hHeld ?_
              (try simp only [Act.put, List.getElem_toArray, List.getElem_cons_zero, List.getElem_cons_succ, List.setIfInBounds_toArray, List.set_cons_zero, List.set_cons_succ])
              refine wpAnyH_take (i := 12) (v := undef) rfl (by kernel_rfl) (by kernel_rfl) (by kernel_rfl) (fun _ _ _ h => h) (Or.inr ⟨by rfl, rfl⟩) hHeld ?_
              (try simp only [Act.put, List.getElem_toArray, List.getElem_cons_zero, List.getElem_cons_succ, List.setIfInBounds_toArray, List.set_cons_zero, List.set_cons_succ])
              refine wpAnyH_take (i := 13) (v := undef) rfl (by kernel_rfl) (by kernel_rfl) (by kernel_rfl) (fun _ _ _ h => h) (Or.inr ⟨by rfl, rfl⟩) hHeld ?_
              (try simp only [Act.put, List.getElem_toArray, List.getElem_cons_zero, List.getElem_cons_succ, List.setIfInBounds_toArray, List.set_cons_zero, List.set_cons_succ])
              refine wpAnyH_take (i := 14) (v := undef) rfl (by kernel_rfl) (by kernel_rfl) (by kernel_rfl) (fun _ _ _ h => h) (Or.inr ⟨by rfl, rfl⟩) hHeld ?_
              (try simp only [Act.put, List.getElem_toArray, List.getElem_cons_zero, List.getElem_cons_succ, List.setIfInBounds_toArray, List.set_cons_zero, List.set_cons_succ])
              refine wpAnyH_take (i := 15) (v := undef) rfl (by kernel_rfl) (by kernel_rfl) (by kernel_rfl) (fun _ _ _ h => h) (Or.inr ⟨by rfl, rfl⟩) hHeld ?_
              (try simp only [Act.put, List.getElem_toArray, List.getElem_cons_zero, List.getElem_cons_succ, List.setIfInBounds_toArray, List.set_cons_zero, List.set_cons_succ])
              refine wpAnyH_take (i := 16) (v := undef) rfl (by kernel_rfl) (by kernel_rfl) (by kernel_rfl) (fun _ _ _ h => h) (Or.inr ⟨by rfl, rfl⟩) hHeld ?_
              (try simp only [Act.put, List.getElem_toArray, List.getElem_cons_zero, List.getElem_cons_succ, List.setIfInBounds_toArray, List.set_cons_zero, List.set_cons_succ])
              refine wpAnyH_take (i := 17) (v := undef) rfl (by kernel_rfl) (by kernel_rfl) (by kernel_rfl) (fun _ _ _ h => h) (Or.inr ⟨by rfl, rfl⟩) hHeld ?_
              (try simp only [Act.put, List.getElem_toArray, List.getElem_cons_zero, List.getElem_cons_succ, List.setIfInBounds_toArray, List.set_cons_zero, List.set_cons_succ])
              refine wpAnyH_take (i := 18) (v := undef) rfl (by kernel_rfl) (by kernel_rfl) (by kernel_rfl) (fun _ _ _ h => h) (Or.inr ⟨by rfl, rfl⟩) hHeld ?_
              (try simp only [Act.put, List.getElem_toArray, List.getElem_cons_zero, List.getElem_cons_succ, List.setIfInBounds_toArray, List.set_cons_zero, List.set_cons_succ])
              refine wpAnyH_take (i := 19) (v := undef) rfl (by kernel_rfl) (by kernel_rfl) (by kernel_rfl) (fun _ _ _ h => h) (Or.inr ⟨by rfl, rfl⟩) hHeld ?_
              (try simp only [Act.put, List.getElem_toArray, List.getElem_cons_zero, List.getElem_cons_succ, List.setIfInBounds_toArray, List.set_cons_zero, List.set_cons_succ])
              refine wpAnyH_take (i := 20) (v := undef) rfl (by kernel_rfl) (by kernel_rfl) (by kernel_rfl) (fun _ _ _ h => h) (Or.inr ⟨by rfl, rfl⟩) hHeld ?_
              (try simp only [Act.put, List.getElem_toArray, List.getElem_cons_zero, List.getElem_cons_succ, List.setIfInBounds_toArray, List.set_cons_zero, List.set_cons_succ])
              refine wpAnyH_take (i := 21) (v := undef) rfl (by kernel_rfl) (by kernel_rfl) (by kernel_rfl) (fun _ _ _ h => h) (Or.inr ⟨by rfl, rfl⟩) hHeld ?_
              (try simp only [Act.put, List.getElem_toArray, List.getElem_cons_zero, List.getElem_cons_succ, List.setIfInBounds_toArray, List.set_cons_zero, List.set_cons_succ])
              refine wpAnyH_take (i := 22) (v := undef) rfl (by kernel_rfl) (by kernel_rfl) (by kernel_rfl) (fun _ _ _ h => h) (Or.inr ⟨by rfl, rfl⟩) hHeld ?_
              (try simp only [Act.put, List.getElem_toArray, List.getElem_cons_zero, List.getElem_cons_succ, List.setIfInBounds_toArray, List.set_cons_zero, List.set_cons_succ])
              refine wpAnyH_take (i := 23) (v := undef) rfl (by kernel_rfl) (by kernel_rfl) (by kernel_rfl) (fun _ _ _ h => h) (Or.inr ⟨by rfl, rfl⟩) hHeld ?_
              (try simp only [Act.put, List.getElem_toArray, List.getElem_cons_zero, List.getElem_cons_succ, List.setIfInBounds_toArray, List.set_cons_zero, List.set_cons_succ])
              refine wpAnyH_take (i := 24) (v := undef) rfl (by kernel_rfl) (by kernel_rfl) (by kernel_rfl) (fun _ _ _ h => h) (Or.inr ⟨by rfl, rfl⟩) hHeld ?_
              (try simp only [Act.put, List.getElem_toArray, List.getElem_cons_zero, List.getElem_cons_succ, List.setIfInBounds_toArray, List.set_cons_zero, List.set_cons_succ])
              refine wpAnyH_take (i := 25) (v := undef) rfl (by kernel_rfl) (by kernel_rfl) (by kernel_rfl) (fun _ _ _ h => h) (Or.inr ⟨by rfl, rfl⟩) hHeld ?_
              (try simp only [Act.put, List.getElem_toArray, List.getElem_cons_zero, List.getElem_cons_succ, List.setIfInBounds_toArray, List.set_cons_zero, List.set_cons_succ])
              refine wpAnyH_take (i := 26) (v := undef) rfl (by kernel_rfl) (by kernel_rfl) (by kernel_rfl) (fun _ _ _ h => h) (Or.inr ⟨by rfl, rfl⟩) hHeld ?_
              (try simp only [Act.put, List.getElem_toArray, List.getElem_cons_zero, List.getElem_cons_succ, List.setIfInBounds_toArray, List.set_cons_zero, List.set_cons_succ])
              refine wpAnyH_take (i := 27) (v := undef) rfl (by kernel_rfl) (by kernel_rfl) (by kernel_rfl) (fun _ _ _ h => h) (Or.inr ⟨by rfl, rfl⟩) hHeld ?_
              (try simp only [Act.put, List.getElem_toArray, List.getElem_cons_zero, List.getElem_cons_succ, List.setIfInBounds_toArray, List.set_cons_zero, List.set_cons_succ])
              refine wpAnyH_take (i := 28) (v := undef) rfl (by kernel_rfl) (by kernel_rfl) (by kernel_rfl) (fun _ _ _ h => h) (Or.inr ⟨by rfl, rfl⟩) hHeld ?_
              (try simp only [Act.put, List.getElem_toArray, List.getElem_cons_zero, List.getElem_cons_succ, List.setIfInBounds_toArray, List.set_cons_zero, List.set_cons_succ])
              refine wpAnyH_take (i := 29) (v := undef) rfl (by kernel_rfl) (by kernel_rfl) (by kernel_rfl) (fun _ _ _ h => h) (Or.inr ⟨by rfl, rfl⟩) hHeld ?_
              (try simp only [Act.put, List.getElem_toArray, List.getElem_cons_zero, List.getElem_cons_succ, List.setIfInBounds_toArray, List.set_cons_zero, List.set_cons_succ])
              refine wpAnyH_take (i := 30) (v := undef) rfl (by kernel_rfl) (by kernel_rfl) (by kernel_rfl) (fun _ _ _ h => h) (Or.inr ⟨by rfl, rfl⟩) hHeld ?_
              (try simp only [Act.put, List.getElem_toArray, List.getElem_cons_zero, List.getElem_cons_succ, List.setIfInBounds_toArray, List.set_cons_zero, List.set_cons_succ])
              refine wpAnyH_take (i := 31) (v := undef) rfl (by kernel_rfl) (by kernel_rfl) (by kernel_rfl) (fun _ _ _ h => h) (Or.inr ⟨by rfl, rfl⟩) hHeld ?_
              (try simp only [Act.put, List.getElem_toArray, List.getElem_cons_zero, List.getElem_cons_succ, List.setIfInBounds_toArray, List.set_cons_zero, List.set_cons_succ])
              refine wpAnyH_take (i := 32) (v := undef) rfl (by kernel_rfl) (by kernel_rfl) (by kernel_rfl) (fun _ _ _ h => h) (Or.inr ⟨by rfl, rfl⟩) hHeld ?_
              (try simp only [Act.put, List.getElem_toArray, List.getElem_cons_zero, List.getElem_cons_succ, List.setIfInBounds_toArray, List.set_cons_zero, List.set_cons_succ])
              refine wpAnyH_take (i := 33) (v := .bool false) rfl (by kernel_rfl) (by kernel_rfl) (by kernel_rfl) (fun _ _ _ h => h) (Or.inl ⟨by rfl, by (intro w hSw; (try dsimp only at hSw); go_simp)⟩) hHeld ?_
              (try simp only [Act.put, List.getElem_toArray, List.getElem_cons_zero, List.getElem_cons_succ, List.setIfInBounds_toArray, List.set_cons_zero, List.set_cons_succ])
              refine wpAnyH_done (by kernel_rfl) ?_ _
              clear hHeld
              go_wp2_with fail
              go_meet
              case rel => exact ⟨rfl, V4⟩
          case rest =>
            obtain ⟨rfl, Sy12⟩ := hcut
            obtain ⟨y12, rfl⟩ : ∃ y : World, y = wc := ⟨_, rfl⟩
            clear hI hJ
            have hl1 := HF.out.lens.l1
            rw [HN4.out.1] at hl1
            have HSM3 := Lib.hid HF.out.sm
            have hast : a ≤ 65536 := by have h1 := HE1.out.h1; have h2 := HE1.out.h2; have h3 := HF.out.sz; rw [bl_len] at h2; omega
            go_wp2_with fail
            go_loopw [17, 18] (fun s17 s18 wr => ∃ j : Nat, s17 = .int .i64 (off (scL d kl x) j : Nat) ∧ s18 = .int .i64 (j : Nat) ∧ j ≤ n1 ∧ Hid (∀ k, (hk : k < (scL d kl x).length) → k < j → off (scL d kl x) k + (scL d kl x)[k].2.2 ≤ a) ∧ Hid (Below y7.heap.size y7 wr)) (fun _ s18 _ => n1 - (intOf s18).toNat)
            case atStart => exact ⟨0, by rw [off_zero]; rfl, rfl, by omega, Lib.hid (fun k _ h => by omega), Sy12⟩
            case round =>
              obtain ⟨j, rfl, rfl, hj, HA, HW⟩ := hrel
              obtain ⟨wl, rfl⟩ : ∃ wl : World, wl = wr := ⟨_, rfl⟩
              obtain ⟨og, hog⟩ : ∃ o, off (scL d kl x) j = o := ⟨_, rfl⟩
              rw [hog]
              have hob : og ≤ 1000000 := by have h1 := off_le (scL d kl x) j; have h2 := HSM3.out.all; omega
              have HOG := Lib.hid hog
              clear hog
              go_upto_region 19 with fail
              go_cut [180] from 163 to 190 (fun s180 wx => ((s180 = .bool true ∧ Hid (∃ h : j < (scL d kl x).length, off (scL d kl x) j + (scL d kl x)[j].2.2 ≤ a)) ∨ (s180 = .bool false ∧ Hid (Kept (scL d kl x) a j))) ∧ Hid (Below y7.heap.size y7 wx))
              case first =>
                by_cases hlt : j < n1
                · have hjl : j < (scL d kl x).length := by rw [HN4.out.1]; exact hlt
                  obtain ⟨-, rb, ro, hu1, hrb, -, g1, g2⟩ := rw_get HLV.out.r hjl
                  have hsm := HSM3.out.look (scL d kl x)[j] (List.getElem_mem _)
                  have HOK : Hid (og + (scL d kl x)[j].2.2 ≤ a → ∃ h : j < (scL d kl x).length, off (scL d kl x) j + (scL d kl x)[j].2.2 ≤ a) := Lib.hid fun hle => ⟨hjl, by rw [HOG.out]; exact hle⟩
                  have HEND : Hid (a < og + (scL d kl x)[j].2.2 → Kept (scL d kl x) a j) := Lib.hid fun hgt => ⟨by omega, fun k hk => HA.out k (by omega) hk, fun _ => by rw [HOG.out]; exact hgt⟩
                  obtain ⟨⟨x1, x2, x3⟩, hx⟩ : ∃ z, (scL d kl x)[j] = z := ⟨_, rfl⟩
                  rw [hx] at g1 g2 hsm HOK HEND
                  simp only [] at g1 g2 hsm
                  subst hu1
                  have HRC : Hid (∀ z, Below y7.heap.size y7 z → z.cell? ⟨rb, ro + j * 3 + 1, none⟩ = some (.int .i64 (x2 : Nat)) ∧ z.cell? ⟨rb, ro + j * 3 + 2, none⟩ = some (.int .i64 (x3 : Nat))) := Lib.hid fun z hz => ⟨(cell_same (hz.block rb hrb) _).trans g1, (cell_same (hz.block rb hrb) _).trans g2⟩
                  have hjI : ((j : Nat) : Int) < ((n1 : Nat) : Int) := by omega
                  have hj0 : ¬ ((j : Nat) : Int) < 0 := by omega
                  have s1 : IntKind.i64.wrap (((a : Nat) : Int) - ((og : Nat) : Int)) = ((a : Nat) : Int) - ((og : Nat) : Int) := IntWalk.i64_in _ (by omega)
                  clear g1 g2 HA hx hjl
                  by_cases hle : og + x3 ≤ a
                  · have hleI : ((x3 : Nat) : Int) ≤ ((a : Nat) : Int) - ((og : Nat) : Int) := by omega
                    have HOK2 := Lib.hid (HOK.out (show og + x3 ≤ a from hle))
                    clear HOK HEND
                    have V5 : Hid ((fun z => Below y7.heap.size y7 z) wl.drew) := Lib.hid (below_drewN HW.out 1)
                    refine wp_region_held_drew (S := fun z => Below y7.heap.size y7 z) (by kernel_rfl) V5.out (fun hHeld => ?_)
                    refine wpAnyH_take (i := 0) (v := .int .i64 (j : Nat)) rfl (by kernel_rfl) (by kernel_rfl) (by kernel_rfl) (fun _ _ _ h => h) (Or.inl ⟨by rfl, by (intro w hSw; (try dsimp only at hSw); go_simp)⟩) hHeld ?_
                    (try simp only [Act.put, List.getElem_toArray, List.getElem_cons_zero, List.getElem_cons_succ, List.setIfInBounds_toArray, List.set_cons_zero, List.set_cons_succ])
                    refine wpAnyH_take (i := 1) (v := .pointer (some ⟨b12, 0, none⟩)) rfl (by kernel_rfl) (by kernel_rfl) (by kernel_rfl) (fun _ _ _ h => h) (Or.inl ⟨by rfl, by (intro w hSw; (try dsimp only at hSw); go_simp)⟩) hHeld ?_
                    (try simp only [Act.put, List.getElem_toArray, List.getElem_cons_zero, List.getElem_cons_succ, List.setIfInBounds_toArray, List.set_cons_zero, List.set_cons_succ])
                    refine wpAnyH_take (i := 2) (v := .slice (some ⟨rb, ro, none⟩) n1 i1) rfl (by kernel_rfl) (by kernel_rfl) (by kernel_rfl) (fun _ _ _ h => h) (Or.inl ⟨by rfl, (by intro w9 hSw; (try dsimp only at hSw); have c1_ : w9.cell? ⟨b12, 0, none⟩ = some (.slice (some ⟨rb, ro, none⟩) n1 i1) := HC12.out w9 hSw 0; go_simp)⟩) hHeld ?_
                    (try simp only [Act.put, List.getElem_toArray, List.getElem_cons_zero, List.getElem_cons_succ, List.setIfInBounds_toArray, List.set_cons_zero, List.set_cons_succ])
                    refine wpAnyH_take (i := 3) (v := .int .i64 (n1 : Nat)) rfl (by kernel_rfl) (by kernel_rfl) (by kernel_rfl) (fun _ _ _ h => h) (Or.inl ⟨by rfl, by (intro w hSw; (try dsimp only at hSw); go_simp)⟩) hHeld ?_
                    (try simp only [Act.put, List.getElem_toArray, List.getElem_cons_zero, List.getElem_cons_succ, List.setIfInBounds_toArray, List.set_cons_zero, List.set_cons_succ])
                    refine wpAnyH_take (i := 4) (v := .bool true) rfl (by kernel_rfl) (by kernel_rfl) (by kernel_rfl) (fun _ _ _ h => h) (Or.inl ⟨by rfl, by (intro w hSw; (try dsimp only at hSw); go_simp)⟩) hHeld ?_
                    (try simp only [Act.put, List.getElem_toArray, List.getElem_cons_zero, List.getElem_cons_succ, List.setIfInBounds_toArray, List.set_cons_zero, List.set_cons_succ])
                    refine wpAnyH_take (i := 5) (v := .bool true) rfl (by kernel_rfl) (by kernel_rfl) (by kernel_rfl) (fun _ _ _ h => h) (Or.inl ⟨by rfl, by (intro w hSw; (try dsimp only at hSw); go_simp)⟩) hHeld ?_
                    (try simp only [Act.put, List.getElem_toArray, List.getElem_cons_zero, List.getElem_cons_succ, List.setIfInBounds_toArray, List.set_cons_zero, List.set_cons_succ])
                    refine wpAnyH_take (i := 6) (v := .pointer (some ⟨b12, 0, none⟩)) rfl (by kernel_rfl) (by kernel_rfl) (by kernel_rfl) (fun _ _ _ h => h) (Or.inl ⟨by rfl, by (intro w hSw; (try dsimp only at hSw); go_simp)⟩) hHeld ?_
                    (try simp only [Act.put, List.getElem_toArray, List.getElem_cons_zero, List.getElem_cons_succ, List.setIfInBounds_toArray, List.set_cons_zero, List.set_cons_succ])
                    refine wpAnyH_take (i := 7) (v := .slice (some ⟨rb, ro, none⟩) n1 i1) rfl (by kernel_rfl) (by kernel_rfl) (by kernel_rfl) (fun _ _ _ h => h) (Or.inl ⟨by rfl, (by intro w9 hSw; (try dsimp only at hSw); have c1_ : w9.cell? ⟨b12, 0, none⟩ = some (.slice (some ⟨rb, ro, none⟩) n1 i1) := HC12.out w9 hSw 0; go_simp)⟩) hHeld ?_
                    (try simp only [Act.put, List.getElem_toArray, List.getElem_cons_zero, List.getElem_cons_succ, List.setIfInBounds_toArray, List.set_cons_zero, List.set_cons_succ])
                    refine wpAnyH_take (i := 8) (v := .int .i64 (j : Nat)) rfl (by kernel_rfl) (by kernel_rfl) (by kernel_rfl) (fun _ _ _ h => h) (Or.inl ⟨by rfl, by (intro w hSw; (try dsimp only at hSw); go_simp)⟩) hHeld ?_
                    (try simp only [Act.put, List.getElem_toArray, List.getElem_cons_zero, List.getElem_cons_succ, List.setIfInBounds_toArray, List.set_cons_zero, List.set_cons_succ])
                    refine wpAnyH_take (i := 9) (v := .pointer (some ⟨rb, ro + j * 3, none⟩)) rfl (by kernel_rfl) (by kernel_rfl) (by kernel_rfl) (fun _ _ _ h => h) (Or.inl ⟨by rfl, by (intro w hSw; (try dsimp only at hSw); go_simp)⟩) hHeld ?_
                    (try simp only [Act.put, List.getElem_toArray, List.getElem_cons_zero, List.getElem_cons_succ, List.setIfInBounds_toArray, List.set_cons_zero, List.set_cons_succ])
                    refine wpAnyH_take (i := 10) (v := .pointer (some ⟨rb, ro + j * 3 + 2, none⟩)) rfl (by kernel_rfl) (by kernel_rfl) (by kernel_rfl) (fun _ _ _ h => h) (Or.inl ⟨by rfl, by (intro w hSw; (try dsimp only at hSw); go_simp)⟩) hHeld ?_
                    (try simp only [Act.put, List.getElem_toArray, List.getElem_cons_zero, List.getElem_cons_succ, List.setIfInBounds_toArray, List.set_cons_zero, List.set_cons_succ])
                    refine wpAnyH_take (i := 11) (v := .int .i64 (x3 : Nat)) rfl (by kernel_rfl) (by kernel_rfl) (by kernel_rfl) (fun _ _ _ h => h) (Or.inl ⟨by rfl, (by intro w9 hSw; (try dsimp only at hSw); have c1_ := (HRC.out w9 hSw).2; go_simp)⟩) hHeld ?_
                    (try simp only [Act.put, List.getElem_toArray, List.getElem_cons_zero, List.getElem_cons_succ, List.setIfInBounds_toArray, List.set_cons_zero, List.set_cons_succ])
                    refine wpAnyH_take (i := 12) (v := .pointer (some ⟨b5, 0, none⟩)) rfl (by kernel_rfl) (by kernel_rfl) (by kernel_rfl) (fun _ _ _ h => h) (Or.inl ⟨by rfl, by (intro w hSw; (try dsimp only at hSw); go_simp)⟩) hHeld ?_
                    (try simp only [Act.put, List.getElem_toArray, List.getElem_cons_zero, List.getElem_cons_succ, List.setIfInBounds_toArray, List.set_cons_zero, List.set_cons_succ])
                    refine wpAnyH_take (i := 13) (v := .int .i64 (a : Nat)) rfl (by kernel_rfl) (by kernel_rfl) (by kernel_rfl) (fun _ _ _ h => h) (Or.inl ⟨by rfl, (by intro w9 hSw; (try dsimp only at hSw); have c1_ := HC5.out w9 hSw; go_simp)⟩) hHeld ?_
                    (try simp only [Act.put, List.getElem_toArray, List.getElem_cons_zero, List.getElem_cons_succ, List.setIfInBounds_toArray, List.set_cons_zero, List.set_cons_succ])
                    refine wpAnyH_take (i := 14) (v := .int .i64 (og : Nat)) rfl (by kernel_rfl) (by kernel_rfl) (by kernel_rfl) (fun _ _ _ h => h) (Or.inl ⟨by rfl, by (intro w hSw; (try dsimp only at hSw); go_simp)⟩) hHeld ?_
                    (try simp only [Act.put, List.getElem_toArray, List.getElem_cons_zero, List.getElem_cons_succ, List.setIfInBounds_toArray, List.set_cons_zero, List.set_cons_succ])
                    refine wpAnyH_take (i := 15) (v := .int .i64 (((a : Nat) : Int) - ((og : Nat) : Int))) rfl (by kernel_rfl) (by kernel_rfl) (by kernel_rfl) (fun _ _ _ h => h) (Or.inl ⟨by rfl, by (intro w hSw; (try dsimp only at hSw); go_simp)⟩) hHeld ?_
                    (try simp only [Act.put, List.getElem_toArray, List.getElem_cons_zero, List.getElem_cons_succ, List.setIfInBounds_toArray, List.set_cons_zero, List.set_cons_succ])
                    refine wpAnyH_take (i := 16) (v := .bool true) rfl (by kernel_rfl) (by kernel_rfl) (by kernel_rfl) (fun _ _ _ h => h) (Or.inl ⟨by rfl, by (intro w hSw; (try dsimp only at hSw); go_simp)⟩) hHeld ?_
                    (try simp only [Act.put, List.getElem_toArray, List.getElem_cons_zero, List.getElem_cons_succ, List.setIfInBounds_toArray, List.set_cons_zero, List.set_cons_succ])
                    refine wpAnyH_take (i := 17) (v := .bool true) rfl (by kernel_rfl) (by kernel_rfl) (by kernel_rfl) (fun _ _ _ h => h) (Or.inl ⟨by rfl, by (intro w hSw; (try dsimp only at hSw); go_simp)⟩) hHeld ?_
                    (try simp only [Act.put, List.getElem_toArray, List.getElem_cons_zero, List.getElem_cons_succ, List.setIfInBounds_toArray, List.set_cons_zero, List.set_cons_succ])
                    refine wpAnyH_done (by kernel_rfl) ?_ _
                    clear hHeld
                    go_wp2_with fail
                    go_meet
                    case rel => exact ⟨.inl ⟨rfl, HOK2⟩, V5⟩
                  · have hleI : ¬ ((x3 : Nat) : Int) ≤ ((a : Nat) : Int) - ((og : Nat) : Int) := by omega
                    have HK2 := Lib.hid (HEND.out (show a < og + x3 by omega))
                    clear HOK HEND
                    have V5 : Hid ((fun z => Below y7.heap.size y7 z) wl.drew) := Lib.hid (below_drewN HW.out 1)
                    refine wp_region_held_drew (S := fun z => Below y7.heap.size y7 z) (by kernel_rfl) V5.out (fun hHeld => ?_)
                    refine wpAnyH_take (i := 0) (v := .int .i64 (j : Nat)) rfl (by kernel_rfl) (by kernel_rfl) (by kernel_rfl) (fun _ _ _ h => h) (Or.inl ⟨by rfl, by (intro w hSw; (try dsimp only at hSw); go_simp)⟩) hHeld ?_
                    (try simp only [Act.put, List.getElem_toArray, List.getElem_cons_zero, List.getElem_cons_succ, List.setIfInBounds_toArray, List.set_cons_zero, List.set_cons_succ])
                    refine wpAnyH_take (i := 1) (v := .pointer (some ⟨b12, 0, none⟩)) rfl (by kernel_rfl) (by kernel_rfl) (by kernel_rfl) (fun _ _ _ h => h) (Or.inl ⟨by rfl, by (intro w hSw; (try dsimp only at hSw); go_simp)⟩) hHeld ?_
                    (try simp only [Act.put, List.getElem_toArray, List.getElem_cons_zero, List.getElem_cons_succ, List.setIfInBounds_toArray, List.set_cons_zero, List.set_cons_succ])
                    refine wpAnyH_take (i := 2) (v := .slice (some ⟨rb, ro, none⟩) n1 i1) rfl (by kernel_rfl) (by kernel_rfl) (by kernel_rfl) (fun _ _ _ h => h) (Or.inl ⟨by rfl, (by intro w9 hSw; (try dsimp only at hSw); have c1_ : w9.cell? ⟨b12, 0, none⟩ = some (.slice (some ⟨rb, ro, none⟩) n1 i1) := HC12.out w9 hSw 0; go_simp)⟩) hHeld ?_
                    (try simp only [Act.put, List.getElem_toArray, List.getElem_cons_zero, List.getElem_cons_succ, List.setIfInBounds_toArray, List.set_cons_zero, List.set_cons_succ])
                    refine wpAnyH_take (i := 3) (v := .int .i64 (n1 : Nat)) rfl (by kernel_rfl) (by kernel_rfl) (by kernel_rfl) (fun _ _ _ h => h) (Or.inl ⟨by rfl, by (intro w hSw; (try dsimp only at hSw); go_simp)⟩) hHeld ?_
                    (try simp only [Act.put, List.getElem_toArray, List.getElem_cons_zero, List.getElem_cons_succ, List.setIfInBounds_toArray, List.set_cons_zero, List.set_cons_succ])
                    refine wpAnyH_take (i := 4) (v := .bool true) rfl (by kernel_rfl) (by kernel_rfl) (by kernel_rfl) (fun _ _ _ h => h) (Or.inl ⟨by rfl, by (intro w hSw; (try dsimp only at hSw); go_simp)⟩) hHeld ?_
                    (try simp only [Act.put, List.getElem_toArray, List.getElem_cons_zero, List.getElem_cons_succ, List.setIfInBounds_toArray, List.set_cons_zero, List.set_cons_succ])
                    refine wpAnyH_take (i := 5) (v := .bool true) rfl (by kernel_rfl) (by kernel_rfl) (by kernel_rfl) (fun _ _ _ h => h) (Or.inl ⟨by rfl, by (intro w hSw; (try dsimp only at hSw); go_simp)⟩) hHeld ?_
                    (try simp only [Act.put, List.getElem_toArray, List.getElem_cons_zero, List.getElem_cons_succ, List.setIfInBounds_toArray, List.set_cons_zero, List.set_cons_succ])
                    refine wpAnyH_take (i := 6) (v := .pointer (some ⟨b12, 0, none⟩)) rfl (by kernel_rfl) (by kernel_rfl) (by kernel_rfl) (fun _ _ _ h => h) (Or.inl ⟨by rfl, by (intro w hSw; (try dsimp only at hSw); go_simp)⟩) hHeld ?_
                    (try simp only [Act.put, List.getElem_toArray, List.getElem_cons_zero, List.getElem_cons_succ, List.setIfInBounds_toArray, List.set_cons_zero, List.set_cons_succ])
                    refine wpAnyH_take (i := 7) (v := .slice (some ⟨rb, ro, none⟩) n1 i1) rfl (by kernel_rfl) (by kernel_rfl) (by kernel_rfl) (fun _ _ _ h => h) (Or.inl ⟨by rfl, (by intro w9 hSw; (try dsimp only at hSw); have c1_ : w9.cell? ⟨b12, 0, none⟩ = some (.slice (some ⟨rb, ro, none⟩) n1 i1) := HC12.out w9 hSw 0; go_simp)⟩) hHeld ?_
                    (try simp only [Act.put, List.getElem_toArray, List.getElem_cons_zero, List.getElem_cons_succ, List.setIfInBounds_toArray, List.set_cons_zero, List.set_cons_succ])
                    refine wpAnyH_take (i := 8) (v := .int .i64 (j : Nat)) rfl (by kernel_rfl) (by kernel_rfl) (by kernel_rfl) (fun _ _ _ h => h) (Or.inl ⟨by rfl, by (intro w hSw; (try dsimp only at hSw); go_simp)⟩) hHeld ?_
                    (try simp only [Act.put, List.getElem_toArray, List.getElem_cons_zero, List.getElem_cons_succ, List.setIfInBounds_toArray, List.set_cons_zero, List.set_cons_succ])
                    refine wpAnyH_take (i := 9) (v := .pointer (some ⟨rb, ro + j * 3, none⟩)) rfl (by kernel_rfl) (by kernel_rfl) (by kernel_rfl) (fun _ _ _ h => h) (Or.inl ⟨by rfl, by (intro w hSw; (try dsimp only at hSw); go_simp)⟩) hHeld ?_
                    (try simp only [Act.put, List.getElem_toArray, List.getElem_cons_zero, List.getElem_cons_succ, List.setIfInBounds_toArray, List.set_cons_zero, List.set_cons_succ])
                    refine wpAnyH_take (i := 10) (v := .pointer (some ⟨rb, ro + j * 3 + 2, none⟩)) rfl (by kernel_rfl) (by kernel_rfl) (by kernel_rfl) (fun _ _ _ h => h) (Or.inl ⟨by rfl, by (intro w hSw; (try dsimp only at hSw); go_simp)⟩) hHeld ?_
                    (try simp only [Act.put, List.getElem_toArray, List.getElem_cons_zero, List.getElem_cons_succ, List.setIfInBounds_toArray, List.set_cons_zero, List.set_cons_succ])
                    refine wpAnyH_take (i := 11) (v := .int .i64 (x3 : Nat)) rfl (by kernel_rfl) (by kernel_rfl) (by kernel_rfl) (fun _ _ _ h => h) (Or.inl ⟨by rfl, (by intro w9 hSw; (try dsimp only at hSw); have c1_ := (HRC.out w9 hSw).2; go_simp)⟩) hHeld ?_
                    (try simp only [Act.put, List.getElem_toArray, List.getElem_cons_zero, List.getElem_cons_succ, List.setIfInBounds_toArray, List.set_cons_zero, List.set_cons_succ])
                    refine wpAnyH_take (i := 12) (v := .pointer (some ⟨b5, 0, none⟩)) rfl (by kernel_rfl) (by kernel_rfl) (by kernel_rfl) (fun _ _ _ h => h) (Or.inl ⟨by rfl, by (intro w hSw; (try dsimp only at hSw); go_simp)⟩) hHeld ?_
                    (try simp only [Act.put, List.getElem_toArray, List.getElem_cons_zero, List.getElem_cons_succ, List.setIfInBounds_toArray, List.set_cons_zero, List.set_cons_succ])
                    refine wpAnyH_take (i := 13) (v := .int .i64 (a : Nat)) rfl (by kernel_rfl) (by kernel_rfl) (by kernel_rfl) (fun _ _ _ h => h) (Or.inl ⟨by rfl, (by intro w9 hSw; (try dsimp only at hSw); have c1_ := HC5.out w9 hSw; go_simp)⟩) hHeld ?_
                    (try simp only [Act.put, List.getElem_toArray, List.getElem_cons_zero, List.getElem_cons_succ, List.setIfInBounds_toArray, List.set_cons_zero, List.set_cons_succ])
                    refine wpAnyH_take (i := 14) (v := .int .i64 (og : Nat)) rfl (by kernel_rfl) (by kernel_rfl) (by kernel_rfl) (fun _ _ _ h => h) (Or.inl ⟨by rfl, by (intro w hSw; (try dsimp only at hSw); go_simp)⟩) hHeld ?_
                    (try simp only [Act.put, List.getElem_toArray, List.getElem_cons_zero, List.getElem_cons_succ, List.setIfInBounds_toArray, List.set_cons_zero, List.set_cons_succ])
                    refine wpAnyH_take (i := 15) (v := .int .i64 (((a : Nat) : Int) - ((og : Nat) : Int))) rfl (by kernel_rfl) (by kernel_rfl) (by kernel_rfl) (fun _ _ _ h => h) (Or.inl ⟨by rfl, by (intro w hSw; (try dsimp only at hSw); go_simp)⟩) hHeld ?_
                    (try simp only [Act.put, List.getElem_toArray, List.getElem_cons_zero, List.getElem_cons_succ, List.setIfInBounds_toArray, List.set_cons_zero, List.set_cons_succ])
                    refine wpAnyH_take (i := 16) (v := .bool false) rfl (by kernel_rfl) (by kernel_rfl) (by kernel_rfl) (fun _ _ _ h => h) (Or.inl ⟨by rfl, by (intro w hSw; (try dsimp only at hSw); go_simp)⟩) hHeld ?_
                    (try simp only [Act.put, List.getElem_toArray, List.getElem_cons_zero, List.getElem_cons_succ, List.setIfInBounds_toArray, List.set_cons_zero, List.set_cons_succ])
                    refine wpAnyH_take (i := 17) (v := .bool false) rfl (by kernel_rfl) (by kernel_rfl) (by kernel_rfl) (fun _ _ _ h => h) (Or.inl ⟨by rfl, by (intro w hSw; (try dsimp only at hSw); go_simp)⟩) hHeld ?_
                    (try simp only [Act.put, List.getElem_toArray, List.getElem_cons_zero, List.getElem_cons_succ, List.setIfInBounds_toArray, List.set_cons_zero, List.set_cons_succ])
                    refine wpAnyH_done (by kernel_rfl) ?_ _
                    clear hHeld
                    go_wp2_with fail
                    go_meet
                    case rel => exact ⟨.inr ⟨rfl, HK2⟩, V5⟩
                · have hjI : ¬ ((j : Nat) : Int) < ((n1 : Nat) : Int) := by omega
                  have HK2 : Hid (Kept (scL d kl x) a j) := Lib.hid ⟨by rw [HN4.out.1]; omega, fun k hk => HA.out k (by rw [HN4.out.1]; omega) hk, fun h => absurd h (by rw [HN4.out.1]; omega)⟩
                  clear HA
                  have V5 : Hid ((fun z => Below y7.heap.size y7 z) wl.drew) := Lib.hid (below_drewN HW.out 1)
                  refine wp_region_held_drew (S := fun z => Below y7.heap.size y7 z) (by kernel_rfl) V5.out (fun hHeld => ?_)
                  refine wpAnyH_take (i := 0) (v := .int .i64 (j : Nat)) rfl (by kernel_rfl) (by kernel_rfl) (by kernel_rfl) (fun _ _ _ h => h) (Or.inl ⟨by rfl, by (intro w hSw; (try dsimp only at hSw); go_simp)⟩) hHeld ?_
                  (try simp only [Act.put, List.getElem_toArray, List.getElem_cons_zero, List.getElem_cons_succ, List.setIfInBounds_toArray, List.set_cons_zero, List.set_cons_succ])
                  refine wpAnyH_take (i := 1) (v := .pointer (some ⟨b12, 0, none⟩)) rfl (by kernel_rfl) (by kernel_rfl) (by kernel_rfl) (fun _ _ _ h => h) (Or.inl ⟨by rfl, by (intro w hSw; (try dsimp only at hSw); go_simp)⟩) hHeld ?_
                  (try simp only [Act.put, List.getElem_toArray, List.getElem_cons_zero, List.getElem_cons_succ, List.setIfInBounds_toArray, List.set_cons_zero, List.set_cons_succ])
                  refine wpAnyH_take (i := 2) (v := .slice u1 n1 i1) rfl (by kernel_rfl) (by kernel_rfl) (by kernel_rfl) (fun _ _ _ h => h) (Or.inl ⟨by rfl, (by intro w9 hSw; (try dsimp only at hSw); have c1_ : w9.cell? ⟨b12, 0, none⟩ = some (.slice u1 n1 i1) := HC12.out w9 hSw 0; go_simp)⟩) hHeld ?_
                  (try simp only [Act.put, List.getElem_toArray, List.getElem_cons_zero, List.getElem_cons_succ, List.setIfInBounds_toArray, List.set_cons_zero, List.set_cons_succ])
                  refine wpAnyH_take (i := 3) (v := .int .i64 (n1 : Nat)) rfl (by kernel_rfl) (by kernel_rfl) (by kernel_rfl) (fun _ _ _ h => h) (Or.inl ⟨by rfl, by (intro w hSw; (try dsimp only at hSw); go_simp)⟩) hHeld ?_
                  (try simp only [Act.put, List.getElem_toArray, List.getElem_cons_zero, List.getElem_cons_succ, List.setIfInBounds_toArray, List.set_cons_zero, List.set_cons_succ])
                  refine wpAnyH_take (i := 4) (v := .bool false) rfl (by kernel_rfl) (by kernel_rfl) (by kernel_rfl) (fun _ _ _ h => h) (Or.inl ⟨by rfl, by (intro w hSw; (try dsimp only at hSw); go_simp)⟩) hHeld ?_
                  (try simp only [Act.put, List.getElem_toArray, List.getElem_cons_zero, List.getElem_cons_succ, List.setIfInBounds_toArray, List.set_cons_zero, List.set_cons_succ])
                  refine wpAnyH_take (i := 5) (v := .bool false) rfl (by kernel_rfl) (by kernel_rfl) (by kernel_rfl) (fun _ _ _ h => h) (Or.inl ⟨by rfl, by (intro w hSw; (try dsimp only at hSw); go_simp)⟩) hHeld ?_
                  (try simp only [Act.put, List.getElem_toArray, List.getElem_cons_zero, List.getElem_cons_succ, List.setIfInBounds_toArray, List.set_cons_zero, List.set_cons_succ])
                  refine wpAnyH_take (i := 6) (v := undef) rfl (by kernel_rfl) (by kernel_rfl) (by kernel_rfl) (fun _ _ _ h => h) (Or.inr ⟨by rfl, rfl⟩) hHeld ?_
                  (try simp only [Act.put, List.getElem_toArray, List.getElem_cons_zero, List.getElem_cons_succ, List.setIfInBounds_toArray, List.set_cons_zero, List.set_cons_succ])
                  refine wpAnyH_take (i := 7) (v := undef) rfl (by kernel_rfl) (by kernel_rfl) (by kernel_rfl) (fun _ _ _ h => h) (Or.inr ⟨by rfl, rfl⟩) hHeld ?_
                  (try simp only [Act.put, List.getElem_toArray, List.getElem_cons_zero, List.getElem_cons_succ, List.setIfInBounds_toArray, List.set_cons_zero, List.set_cons_succ])
                  refine wpAnyH_take (i := 8) (v := undef) rfl (by kernel_rfl) (by kernel_rfl) (by kernel_rfl) (fun _ _ _ h => h) (Or.inr ⟨by rfl, rfl⟩) hHeld ?_
                  (try simp only [Act.put, List.getElem_toArray, List.getElem_cons_zero, List.getElem_cons_succ, List.setIfInBounds_toArray, List.set_cons_zero, List.set_cons_succ])
                  refine wpAnyH_take (i := 9) (v := undef) rfl (by kernel_rfl) (by kernel_rfl) (by kernel_rfl) (fun _ _ _ h => h) (Or.inr ⟨by rfl, rfl⟩) hHeld ?_
                  (try simp only [Act.put, List.getElem_toArray, List.getElem_cons_zero, List.getElem_cons_succ, List.setIfInBounds_toArray, List.set_cons_zero, List.set_cons_succ])
                  refine wpAnyH_take (i := 10) (v := undef) rfl (by kernel_rfl) (by kernel_rfl) (by kernel_rfl) (fun _ _ _ h => h) (Or.inr ⟨by rfl, rfl⟩) hHeld ?_
                  (try simp only [Act.put, List.getElem_toArray, List.getElem_cons_zero, List.getElem_cons_succ, List.setIfInBounds_toArray, List.set_cons_zero, List.set_cons_succ])
                  refine wpAnyH_take (i := 11) (v := undef) rfl (by kernel_rfl) (by kernel_rfl) (by kernel_rfl) (fun _ _ _ h => h) (Or.inr ⟨by rfl, rfl⟩) hHeld ?_
                  (try simp only [Act.put, List.getElem_toArray, List.getElem_cons_zero, List.getElem_cons_succ, List.setIfInBounds_toArray, List.set_cons_zero, List.set_cons_succ])
                  refine wpAnyH_take (i := 12) (v := undef) rfl (by kernel_rfl) (by kernel_rfl) (by kernel_rfl) (fun _ _ _ h => h) (Or.inr ⟨by rfl, rfl⟩) hHeld ?_
                  (try simp only [Act.put, List.getElem_toArray, List.getElem_cons_zero, List.getElem_cons_succ, List.setIfInBounds_toArray, List.set_cons_zero, List.set_cons_succ])
                  refine wpAnyH_take (i := 13) (v := undef) rfl (by kernel_rfl) (by kernel_rfl) (by kernel_rfl) (fun _ _ _ h => h) (Or.inr ⟨by rfl, rfl⟩) hHeld ?_
                  (try simp only [Act.put, List.getElem_toArray, List.getElem_cons_zero, List.getElem_cons_succ, List.setIfInBounds_toArray, List.set_cons_zero, List.set_cons_succ])
                  refine wpAnyH_take (i := 14) (v := undef) rfl (by kernel_rfl) (by kernel_rfl) (by kernel_rfl) (fun _ _ _ h => h) (Or.inr ⟨by rfl, rfl⟩) hHeld ?_
                  (try simp only [Act.put, List.getElem_toArray, List.getElem_cons_zero, List.getElem_cons_succ, List.setIfInBounds_toArray, List.set_cons_zero, List.set_cons_succ])
                  refine wpAnyH_take (i := 15) (v := undef) rfl (by kernel_rfl) (by kernel_rfl) (by kernel_rfl) (fun _ _ _ h => h) (Or.inr ⟨by rfl, rfl⟩) hHeld ?_
                  (try simp only [Act.put, List.getElem_toArray, List.getElem_cons_zero, List.getElem_cons_succ, List.setIfInBounds_toArray, List.set_cons_zero, List.set_cons_succ])
                  refine wpAnyH_take (i := 16) (v := undef) rfl (by kernel_rfl) (by kernel_rfl) (by kernel_rfl) (fun _ _ _ h => h) (Or.inr ⟨by rfl, rfl⟩) hHeld ?_
                  (try simp only [Act.put, List.getElem_toArray, List.getElem_cons_zero, List.getElem_cons_succ, List.setIfInBounds_toArray, List.set_cons_zero, List.set_cons_succ])
                  refine wpAnyH_take (i := 17) (v := .bool false) rfl (by kernel_rfl) (by kernel_rfl) (by kernel_rfl) (fun _ _ _ h => h) (Or.inl ⟨by rfl, by (intro w hSw; (try dsimp only at hSw); go_simp)⟩) hHeld ?_
                  (try simp only [Act.put, List.getElem_toArray, List.getElem_cons_zero, List.getElem_cons_succ, List.setIfInBounds_toArray, List.set_cons_zero, List.set_cons_succ])
                  refine wpAnyH_done (by kernel_rfl) ?_ _
                  clear hHeld
                  go_wp2_with fail
                  go_meet
                  case rel => exact ⟨.inr ⟨rfl, HK2⟩, V5⟩
              case rest =>
                obtain ⟨hor, HW2⟩ := hcut
                obtain ⟨wm, rfl⟩ : ∃ y : World, y = wc := ⟨_, rfl⟩
                rcases hor with ⟨rfl, HOK⟩ | ⟨rfl, HK2⟩
                · obtain ⟨hjl, hle⟩ := HOK.out
                  have hlt : j < n1 := by rw [← HN4.out.1]; exact hjl
                  obtain ⟨-, rb, ro, hu1, hrb, -, g1, g2⟩ := rw_get HLV.out.r hjl
                  have hone := HSM3.out.one (scL d kl x)[j] (List.getElem_mem _)
                  have hso := off_succ hjl
                  have hol2 := off_le (scL d kl x) (j + 1)
                  have hall := HSM3.out.all
                  have HNX2 : Hid (∀ k, (hk : k < (scL d kl x).length) → k < j + 1 → off (scL d kl x) k + (scL d kl x)[k].2.2 ≤ a) := Lib.hid fun k hk hk2 => by
                    by_cases e : k = j
                    · subst e; exact hle
                    · exact HA.out k hk (by omega)
                  obtain ⟨⟨x1, x2, x3⟩, hx⟩ : ∃ z, (scL d kl x)[j] = z := ⟨_, rfl⟩
                  rw [hx] at g1 g2 hso hone
                  simp only [] at g1 g2 hso hone
                  obtain ⟨o2, ho2⟩ : ∃ o, off (scL d kl x) (j + 1) = o := ⟨_, rfl⟩
                  rw [HOG.out, ho2] at hso
                  rw [ho2] at hol2
                  have HO2 := Lib.hid ho2
                  subst hu1
                  have k0 : wm.cell? ⟨b12, 0, none⟩ = some (.slice (some ⟨rb, ro, none⟩) n1 i1) := HC12.out wm HW2.out 0
                  have k1 : wm.cell? ⟨rb, ro + j * 3 + 1, none⟩ = some (.int .i64 (x2 : Nat)) := (cell_same (HW2.out.block rb hrb) _).trans g1
                  have hjI : ((j : Nat) : Int) < ((n1 : Nat) : Int) := by omega
                  have hj0 : ¬ ((j : Nat) : Int) < 0 := by omega
                  have s2 : IntKind.i64.wrap (((og : Nat) : Int) + ((x2 : Nat) : Int)) = ((og + x2 : Nat) : Int) := by rw [IntWalk.i64_in _ (by omega)]; push_cast; rfl
                  have hso2 : og + x2 = o2 := by omega
                  clear g1 g2 HA hx hso ho2 hjl hol2 hall hle HOK hone
                  go_wp2_with fail
                  go_roundw
                  case rel => exact ⟨j + 1, by rw [HO2.out, ← hso2], by go_num, by omega, HNX2, HW2⟩
                  case measure => simp [intOf]; omega
                · clear HA
                  obtain ⟨cc, hEF⟩ := ends_math HF.out.may HE1.out HCN.out HK2.out
                  obtain ⟨cb, co, rfl, hcb, hcc⟩ := iv_at HLV.out.k hEF.ct
                  have HCB : Hid (∀ z, Below y7.heap.size y7 z → z.cell? ⟨cb, co + j, none⟩ = some (.int .i64 (cc : Nat))) := Lib.hid fun z hz => (cell_same (hz.block cb hcb) _).trans hcc
                  have hn3 : j < n3 := by have h := (List.getElem?_eq_some_iff.1 hEF.ct).1; rw [HN4.out.2.2.1] at h; exact h
                  have hcle := hEF.le
                  rw [HCC.out.1] at hcle
                  have hct0 := hEF.c0
                  have hct1 := hEF.c1
                  rw [HMM.out.1] at hct1
                  have hkt := hEF.kt
                  rw [HMM.out.1] at hkt
                  have hkx := hEF.kx
                  rw [HN4.out.1] at hkx
                  have hm1b := HG.out.lens.l1
                  rw [HMM.out.1] at hm1b
                  have hr1b : m1 ≤ e1 := by rw [← HMM.out.1]; exact HLT.out.h1
                  have hr2b : n1 ≤ i1 := by rw [← HN4.out.1]; exact HLV.out.h1
                  have HRAW : Hid (∀ z, Below y7.heap.size y7 z → Calls Try.prog 24 #[.slice q1 j e1, .slice u1 j i1] z fun e w' => e = .returned (.bool true) ∧ Below z.heap.size z w') := Lib.hid fun z hz => by
                    have h1 := rw_cut (k := j) (by have h := (HLT.out.up (Nat.le_refl _) hz).r; rw [HMM.out.1] at h; exact h) hkt HMM.out.1.symm
                    have h2 := rw_cut (k := j) (by have h := (HLV.out.up (Nat.le_refl _) hz).r; rw [HN4.out.1] at h; exact h) hkx HN4.out.1.symm
                    rw [hEF.eq] at h1
                    have hl : (((scL d kl x).take j).map tR).length = j := by rw [List.length_map, List.length_take, HN4.out.1]; omega
                    have h := sameraw_any (w := z) (l := ((scL d kl x).take j).map tR) (D := Lt y7.heap.size) (E := Lt y7.heap.size) (p := q1) (p' := u1) (c := e1) (c' := i1) (fun b (hb : b < y7.heap.size) => Nat.lt_of_lt_of_le hb hz.size) (fun b (hb : b < y7.heap.size) => Nat.lt_of_lt_of_le hb hz.size) (by rw [hl]; exact h1) (by rw [hl]; exact h2) (by omega)
                    rw [hl] at h
                    exact h
                  have hjn3 : ((j : Nat) : Int) < ((n3 : Nat) : Int) := by omega
                  have hj0' : ¬ ((j : Nat) : Int) < 0 := by omega
                  have hcc1 : ((cc : Nat) : Int) ≤ ((c1 : Nat) : Int) := by omega
                  have hct2 : IntKind.i64.wrap (((m1 : Nat) : Int) - ((j : Nat) : Int)) = ((m1 : Nat) : Int) - ((j : Nat) : Int) := IntWalk.i64_in _ (by omega)
                  clear hEF hcc
                  go_upto_region 22 with fail
                  have V6 : Hid ((fun z => Below y7.heap.size y7 z) wm.drew) := Lib.hid (below_drewN HW2.out 1)
                  refine wp_region_held_drew (S := fun z => Below y7.heap.size y7 z) (by kernel_rfl) V6.out (fun hHeld => ?_)
                  refine wpAnyH_take (i := 0) (v := .int .i64 (j : Nat)) rfl (by kernel_rfl) (by kernel_rfl) (by kernel_rfl) (fun _ _ _ h => h) (Or.inl ⟨by rfl, by (intro w hSw; (try dsimp only at hSw); go_simp)⟩) hHeld ?_
                  (try simp only [Act.put, List.getElem_toArray, List.getElem_cons_zero, List.getElem_cons_succ, List.setIfInBounds_toArray, List.set_cons_zero, List.set_cons_succ])
                  refine wpAnyH_take (i := 1) (v := .pointer (some ⟨b12, 2, none⟩)) rfl (by kernel_rfl) (by kernel_rfl) (by kernel_rfl) (fun _ _ _ h => h) (Or.inl ⟨by rfl, by (intro w hSw; (try dsimp only at hSw); go_simp)⟩) hHeld ?_
                  (try simp only [Act.put, List.getElem_toArray, List.getElem_cons_zero, List.getElem_cons_succ, List.setIfInBounds_toArray, List.set_cons_zero, List.set_cons_succ])
                  refine wpAnyH_take (i := 2) (v := .slice (some ⟨cb, co, none⟩) n3 i3) rfl (by kernel_rfl) (by kernel_rfl) (by kernel_rfl) (fun _ _ _ h => h) (Or.inl ⟨by rfl, (by intro w9 hSw; (try dsimp only at hSw); have c1_ : w9.cell? ⟨b12, 2, none⟩ = some (.slice (some ⟨cb, co, none⟩) n3 i3) := HC12.out w9 hSw 2; go_simp)⟩) hHeld ?_
                  (try simp only [Act.put, List.getElem_toArray, List.getElem_cons_zero, List.getElem_cons_succ, List.setIfInBounds_toArray, List.set_cons_zero, List.set_cons_succ])
                  refine wpAnyH_take (i := 3) (v := .int .i64 (n3 : Nat)) rfl (by kernel_rfl) (by kernel_rfl) (by kernel_rfl) (fun _ _ _ h => h) (Or.inl ⟨by rfl, by (intro w hSw; (try dsimp only at hSw); go_simp)⟩) hHeld ?_
                  (try simp only [Act.put, List.getElem_toArray, List.getElem_cons_zero, List.getElem_cons_succ, List.setIfInBounds_toArray, List.set_cons_zero, List.set_cons_succ])
                  refine wpAnyH_take (i := 4) (v := .bool true) rfl (by kernel_rfl) (by kernel_rfl) (by kernel_rfl) (fun _ _ _ h => h) (Or.inl ⟨by rfl, by (intro w hSw; (try dsimp only at hSw); go_simp)⟩) hHeld ?_
                  (try simp only [Act.put, List.getElem_toArray, List.getElem_cons_zero, List.getElem_cons_succ, List.setIfInBounds_toArray, List.set_cons_zero, List.set_cons_succ])
                  refine wpAnyH_take (i := 5) (v := .bool true) rfl (by kernel_rfl) (by kernel_rfl) (by kernel_rfl) (fun _ _ _ h => h) (Or.inl ⟨by rfl, by (intro w hSw; (try dsimp only at hSw); go_simp)⟩) hHeld ?_
                  (try simp only [Act.put, List.getElem_toArray, List.getElem_cons_zero, List.getElem_cons_succ, List.setIfInBounds_toArray, List.set_cons_zero, List.set_cons_succ])
                  refine wpAnyH_take (i := 6) (v := .pointer (some ⟨b10, 4, none⟩)) rfl (by kernel_rfl) (by kernel_rfl) (by kernel_rfl) (fun _ _ _ h => h) (Or.inl ⟨by rfl, by (intro w hSw; (try dsimp only at hSw); go_simp)⟩) hHeld ?_
                  (try simp only [Act.put, List.getElem_toArray, List.getElem_cons_zero, List.getElem_cons_succ, List.setIfInBounds_toArray, List.set_cons_zero, List.set_cons_succ])
                  refine wpAnyH_take (i := 7) (v := .int .i64 (c1 : Nat)) rfl (by kernel_rfl) (by kernel_rfl) (by kernel_rfl) (fun _ _ _ h => h) (Or.inl ⟨by rfl, (by intro w9 hSw; (try dsimp only at hSw); have c1_ : w9.cell? ⟨b10, 4, none⟩ = some (.int .i64 (c1 : Nat)) := HC10.out w9 hSw 4; go_simp)⟩) hHeld ?_
                  (try simp only [Act.put, List.getElem_toArray, List.getElem_cons_zero, List.getElem_cons_succ, List.setIfInBounds_toArray, List.set_cons_zero, List.set_cons_succ])
                  refine wpAnyH_take (i := 8) (v := .pointer (some ⟨b12, 2, none⟩)) rfl (by kernel_rfl) (by kernel_rfl) (by kernel_rfl) (fun _ _ _ h => h) (Or.inl ⟨by rfl, by (intro w hSw; (try dsimp only at hSw); go_simp)⟩) hHeld ?_
                  (try simp only [Act.put, List.getElem_toArray, List.getElem_cons_zero, List.getElem_cons_succ, List.setIfInBounds_toArray, List.set_cons_zero, List.set_cons_succ])
                  refine wpAnyH_take (i := 9) (v := .slice (some ⟨cb, co, none⟩) n3 i3) rfl (by kernel_rfl) (by kernel_rfl) (by kernel_rfl) (fun _ _ _ h => h) (Or.inl ⟨by rfl, (by intro w9 hSw; (try dsimp only at hSw); have c1_ : w9.cell? ⟨b12, 2, none⟩ = some (.slice (some ⟨cb, co, none⟩) n3 i3) := HC12.out w9 hSw 2; go_simp)⟩) hHeld ?_
                  (try simp only [Act.put, List.getElem_toArray, List.getElem_cons_zero, List.getElem_cons_succ, List.setIfInBounds_toArray, List.set_cons_zero, List.set_cons_succ])
                  refine wpAnyH_take (i := 10) (v := .int .i64 (j : Nat)) rfl (by kernel_rfl) (by kernel_rfl) (by kernel_rfl) (fun _ _ _ h => h) (Or.inl ⟨by rfl, by (intro w hSw; (try dsimp only at hSw); go_simp)⟩) hHeld ?_
                  (try simp only [Act.put, List.getElem_toArray, List.getElem_cons_zero, List.getElem_cons_succ, List.setIfInBounds_toArray, List.set_cons_zero, List.set_cons_succ])
                  refine wpAnyH_take (i := 11) (v := .pointer (some ⟨cb, co + j, none⟩)) rfl (by kernel_rfl) (by kernel_rfl) (by kernel_rfl) (fun _ _ _ h => h) (Or.inl ⟨by rfl, by (intro w hSw; (try dsimp only at hSw); go_simp)⟩) hHeld ?_
                  (try simp only [Act.put, List.getElem_toArray, List.getElem_cons_zero, List.getElem_cons_succ, List.setIfInBounds_toArray, List.set_cons_zero, List.set_cons_succ])
                  refine wpAnyH_take (i := 12) (v := .int .i64 (cc : Nat)) rfl (by kernel_rfl) (by kernel_rfl) (by kernel_rfl) (fun _ _ _ h => h) (Or.inl ⟨by rfl, (by intro w9 hSw; (try dsimp only at hSw); have c1_ := HCB.out w9 hSw; go_simp)⟩) hHeld ?_
                  (try simp only [Act.put, List.getElem_toArray, List.getElem_cons_zero, List.getElem_cons_succ, List.setIfInBounds_toArray, List.set_cons_zero, List.set_cons_succ])
                  refine wpAnyH_take (i := 13) (v := .bool true) rfl (by kernel_rfl) (by kernel_rfl) (by kernel_rfl) (fun _ _ _ h => h) (Or.inl ⟨by rfl, by (intro w hSw; (try dsimp only at hSw); go_simp)⟩) hHeld ?_
                  (try simp only [Act.put, List.getElem_toArray, List.getElem_cons_zero, List.getElem_cons_succ, List.setIfInBounds_toArray, List.set_cons_zero, List.set_cons_succ])
                  refine wpAnyH_take (i := 14) (v := .bool true) rfl (by kernel_rfl) (by kernel_rfl) (by kernel_rfl) (fun _ _ _ h => h) (Or.inl ⟨by rfl, by (intro w hSw; (try dsimp only at hSw); go_simp)⟩) hHeld ?_
                  (try simp only [Act.put, List.getElem_toArray, List.getElem_cons_zero, List.getElem_cons_succ, List.setIfInBounds_toArray, List.set_cons_zero, List.set_cons_succ])
                  refine wpAnyH_take (i := 15) (v := .bool true) rfl (by kernel_rfl) (by kernel_rfl) (by kernel_rfl) (fun _ _ _ h => h) (Or.inl ⟨by rfl, by (intro w hSw; (try dsimp only at hSw); go_simp)⟩) hHeld ?_
                  (try simp only [Act.put, List.getElem_toArray, List.getElem_cons_zero, List.getElem_cons_succ, List.setIfInBounds_toArray, List.set_cons_zero, List.set_cons_succ])
                  refine wpAnyH_take (i := 16) (v := .pointer (some ⟨b10, 6, none⟩)) rfl (by kernel_rfl) (by kernel_rfl) (by kernel_rfl) (fun _ _ _ h => h) (Or.inl ⟨by rfl, by (intro w hSw; (try dsimp only at hSw); go_simp)⟩) hHeld ?_
                  (try simp only [Act.put, List.getElem_toArray, List.getElem_cons_zero, List.getElem_cons_succ, List.setIfInBounds_toArray, List.set_cons_zero, List.set_cons_succ])
                  refine wpAnyH_take (i := 17) (v := .int .i64 cnt) rfl (by kernel_rfl) (by kernel_rfl) (by kernel_rfl) (fun _ _ _ h => h) (Or.inl ⟨by rfl, (by intro w9 hSw; (try dsimp only at hSw); have c1_ : w9.cell? ⟨b10, 6, none⟩ = some (.int .i64 cnt) := HC10.out w9 hSw 6; go_simp)⟩) hHeld ?_
                  (try simp only [Act.put, List.getElem_toArray, List.getElem_cons_zero, List.getElem_cons_succ, List.setIfInBounds_toArray, List.set_cons_zero, List.set_cons_succ])
                  refine wpAnyH_take (i := 18) (v := .bool true) rfl (by kernel_rfl) (by kernel_rfl) (by kernel_rfl) (fun _ _ _ h => h) (Or.inl ⟨by rfl, by (intro w hSw; (try dsimp only at hSw); go_simp)⟩) hHeld ?_
                  (try simp only [Act.put, List.getElem_toArray, List.getElem_cons_zero, List.getElem_cons_succ, List.setIfInBounds_toArray, List.set_cons_zero, List.set_cons_succ])
                  refine wpAnyH_take (i := 19) (v := .bool true) rfl (by kernel_rfl) (by kernel_rfl) (by kernel_rfl) (fun _ _ _ h => h) (Or.inl ⟨by rfl, by (intro w hSw; (try dsimp only at hSw); go_simp)⟩) hHeld ?_
                  (try simp only [Act.put, List.getElem_toArray, List.getElem_cons_zero, List.getElem_cons_succ, List.setIfInBounds_toArray, List.set_cons_zero, List.set_cons_succ])
                  refine wpAnyH_take (i := 20) (v := .bool true) rfl (by kernel_rfl) (by kernel_rfl) (by kernel_rfl) (fun _ _ _ h => h) (Or.inl ⟨by rfl, by (intro w hSw; (try dsimp only at hSw); go_simp)⟩) hHeld ?_
                  (try simp only [Act.put, List.getElem_toArray, List.getElem_cons_zero, List.getElem_cons_succ, List.setIfInBounds_toArray, List.set_cons_zero, List.set_cons_succ])
                  refine wpAnyH_take (i := 21) (v := .pointer (some ⟨b10, 6, none⟩)) rfl (by kernel_rfl) (by kernel_rfl) (by kernel_rfl) (fun _ _ _ h => h) (Or.inl ⟨by rfl, by (intro w hSw; (try dsimp only at hSw); go_simp)⟩) hHeld ?_
                  (try simp only [Act.put, List.getElem_toArray, List.getElem_cons_zero, List.getElem_cons_succ, List.setIfInBounds_toArray, List.set_cons_zero, List.set_cons_succ])
                  refine wpAnyH_take (i := 22) (v := .int .i64 cnt) rfl (by kernel_rfl) (by kernel_rfl) (by kernel_rfl) (fun _ _ _ h => h) (Or.inl ⟨by rfl, (by intro w9 hSw; (try dsimp only at hSw); have c1_ : w9.cell? ⟨b10, 6, none⟩ = some (.int .i64 cnt) := HC10.out w9 hSw 6; go_simp)⟩) hHeld ?_
                  (try simp only [Act.put, List.getElem_toArray, List.getElem_cons_zero, List.getElem_cons_succ, List.setIfInBounds_toArray, List.set_cons_zero, List.set_cons_succ])
                  refine wpAnyH_take (i := 23) (v := .pointer (some ⟨b10, 0, none⟩)) rfl (by kernel_rfl) (by kernel_rfl) (by kernel_rfl) (fun _ _ _ h => h) (Or.inl ⟨by rfl, by (intro w hSw; (try dsimp only at hSw); go_simp)⟩) hHeld ?_
                  (try simp only [Act.put, List.getElem_toArray, List.getElem_cons_zero, List.getElem_cons_succ, List.setIfInBounds_toArray, List.set_cons_zero, List.set_cons_succ])
                  refine wpAnyH_take (i := 24) (v := .pointer (some ⟨b10, 0, none⟩)) rfl (by kernel_rfl) (by kernel_rfl) (by kernel_rfl) (fun _ _ _ h => h) (Or.inl ⟨by rfl, by (intro w hSw; (try dsimp only at hSw); go_simp)⟩) hHeld ?_
                  (try simp only [Act.put, List.getElem_toArray, List.getElem_cons_zero, List.getElem_cons_succ, List.setIfInBounds_toArray, List.set_cons_zero, List.set_cons_succ])
                  refine wpAnyH_take (i := 25) (v := .slice q1 m1 e1) rfl (by kernel_rfl) (by kernel_rfl) (by kernel_rfl) (fun _ _ _ h => h) (Or.inl ⟨by rfl, (by intro w9 hSw; (try dsimp only at hSw); have c1_ : w9.cell? ⟨b10, 0, none⟩ = some (.slice q1 m1 e1) := HC10.out w9 hSw 0; go_simp)⟩) hHeld ?_
                  (try simp only [Act.put, List.getElem_toArray, List.getElem_cons_zero, List.getElem_cons_succ, List.setIfInBounds_toArray, List.set_cons_zero, List.set_cons_succ])
                  refine wpAnyH_take (i := 26) (v := .int .i64 (m1 : Nat)) rfl (by kernel_rfl) (by kernel_rfl) (by kernel_rfl) (fun _ _ _ h => h) (Or.inl ⟨by rfl, by (intro w hSw; (try dsimp only at hSw); go_simp)⟩) hHeld ?_
                  (try simp only [Act.put, List.getElem_toArray, List.getElem_cons_zero, List.getElem_cons_succ, List.setIfInBounds_toArray, List.set_cons_zero, List.set_cons_succ])
                  refine wpAnyH_take (i := 27) (v := .int .i64 (j : Nat)) rfl (by kernel_rfl) (by kernel_rfl) (by kernel_rfl) (fun _ _ _ h => h) (Or.inl ⟨by rfl, by (intro w hSw; (try dsimp only at hSw); go_simp)⟩) hHeld ?_
                  (try simp only [Act.put, List.getElem_toArray, List.getElem_cons_zero, List.getElem_cons_succ, List.setIfInBounds_toArray, List.set_cons_zero, List.set_cons_succ])
                  refine wpAnyH_take (i := 28) (v := .int .i64 (((m1 : Nat) : Int) - ((j : Nat) : Int))) rfl (by kernel_rfl) (by kernel_rfl) (by kernel_rfl) (fun _ _ _ h => h) (Or.inl ⟨by rfl, by (intro w hSw; (try dsimp only at hSw); go_simp)⟩) hHeld ?_
                  (try simp only [Act.put, List.getElem_toArray, List.getElem_cons_zero, List.getElem_cons_succ, List.setIfInBounds_toArray, List.set_cons_zero, List.set_cons_succ])
                  refine wpAnyH_take (i := 29) (v := .bool true) rfl (by kernel_rfl) (by kernel_rfl) (by kernel_rfl) (fun _ _ _ h => h) (Or.inl ⟨by rfl, by (intro w hSw; (try dsimp only at hSw); go_simp)⟩) hHeld ?_
                  (try simp only [Act.put, List.getElem_toArray, List.getElem_cons_zero, List.getElem_cons_succ, List.setIfInBounds_toArray, List.set_cons_zero, List.set_cons_succ])
                  refine wpAnyH_take (i := 30) (v := .bool true) rfl (by kernel_rfl) (by kernel_rfl) (by kernel_rfl) (fun _ _ _ h => h) (Or.inl ⟨by rfl, by (intro w hSw; (try dsimp only at hSw); go_simp)⟩) hHeld ?_
                  (try simp only [Act.put, List.getElem_toArray, List.getElem_cons_zero, List.getElem_cons_succ, List.setIfInBounds_toArray, List.set_cons_zero, List.set_cons_succ])
                  refine wpAnyH_take (i := 31) (v := .bool true) rfl (by kernel_rfl) (by kernel_rfl) (by kernel_rfl) (fun _ _ _ h => h) (Or.inl ⟨by rfl, by (intro w hSw; (try dsimp only at hSw); go_simp)⟩) hHeld ?_
                  (try simp only [Act.put, List.getElem_toArray, List.getElem_cons_zero, List.getElem_cons_succ, List.setIfInBounds_toArray, List.set_cons_zero, List.set_cons_succ])
                  refine wpAnyH_take (i := 32) (v := .pointer (some ⟨b10, 0, none⟩)) rfl (by kernel_rfl) (by kernel_rfl) (by kernel_rfl) (fun _ _ _ h => h) (Or.inl ⟨by rfl, by (intro w hSw; (try dsimp only at hSw); go_simp)⟩) hHeld ?_
                  (try simp only [Act.put, List.getElem_toArray, List.getElem_cons_zero, List.getElem_cons_succ, List.setIfInBounds_toArray, List.set_cons_zero, List.set_cons_succ])
                  refine wpAnyH_take (i := 33) (v := .pointer (some ⟨b10, 0, none⟩)) rfl (by kernel_rfl) (by kernel_rfl) (by kernel_rfl) (fun _ _ _ h => h) (Or.inl ⟨by rfl, by (intro w hSw; (try dsimp only at hSw); go_simp)⟩) hHeld ?_
                  (try simp only [Act.put, List.getElem_toArray, List.getElem_cons_zero, List.getElem_cons_succ, List.setIfInBounds_toArray, List.set_cons_zero, List.set_cons_succ])
                  refine wpAnyH_take (i := 34) (v := .slice q1 m1 e1) rfl (by kernel_rfl) (by kernel_rfl) (by kernel_rfl) (fun _ _ _ h => h) (Or.inl ⟨by rfl, (by intro w9 hSw; (try dsimp only at hSw); have c1_ : w9.cell? ⟨b10, 0, none⟩ = some (.slice q1 m1 e1) := HC10.out w9 hSw 0; go_simp)⟩) hHeld ?_
                  (try simp only [Act.put, List.getElem_toArray, List.getElem_cons_zero, List.getElem_cons_succ, List.setIfInBounds_toArray, List.set_cons_zero, List.set_cons_succ])
                  refine wpAnyH_take (i := 35) (v := .int .i64 (j : Nat)) rfl (by kernel_rfl) (by kernel_rfl) (by kernel_rfl) (fun _ _ _ h => h) (Or.inl ⟨by rfl, by (intro w hSw; (try dsimp only at hSw); go_simp)⟩) hHeld ?_
                  (try simp only [Act.put, List.getElem_toArray, List.getElem_cons_zero, List.getElem_cons_succ, List.setIfInBounds_toArray, List.set_cons_zero, List.set_cons_succ])
                  refine wpAnyH_take (i := 36) (v := .slice q1 j e1) rfl (by kernel_rfl) (by kernel_rfl) (by kernel_rfl) (fun _ _ _ h => h) (Or.inl ⟨by rfl, (by intro w9 hSw; (try dsimp only at hSw); go_simp <;> (intro h_; exfalso; omega))⟩) hHeld ?_
                  (try simp only [Act.put, List.getElem_toArray, List.getElem_cons_zero, List.getElem_cons_succ, List.setIfInBounds_toArray, List.set_cons_zero, List.set_cons_succ])
                  refine wpAnyH_take (i := 37) (v := .pointer (some ⟨b12, 0, none⟩)) rfl (by kernel_rfl) (by kernel_rfl) (by kernel_rfl) (fun _ _ _ h => h) (Or.inl ⟨by rfl, by (intro w hSw; (try dsimp only at hSw); go_simp)⟩) hHeld ?_
                  (try simp only [Act.put, List.getElem_toArray, List.getElem_cons_zero, List.getElem_cons_succ, List.setIfInBounds_toArray, List.set_cons_zero, List.set_cons_succ])
                  refine wpAnyH_take (i := 38) (v := .slice u1 n1 i1) rfl (by kernel_rfl) (by kernel_rfl) (by kernel_rfl) (fun _ _ _ h => h) (Or.inl ⟨by rfl, (by intro w9 hSw; (try dsimp only at hSw); have c1_ : w9.cell? ⟨b12, 0, none⟩ = some (.slice u1 n1 i1) := HC12.out w9 hSw 0; go_simp)⟩) hHeld ?_
                  (try simp only [Act.put, List.getElem_toArray, List.getElem_cons_zero, List.getElem_cons_succ, List.setIfInBounds_toArray, List.set_cons_zero, List.set_cons_succ])
                  refine wpAnyH_take (i := 39) (v := .int .i64 (j : Nat)) rfl (by kernel_rfl) (by kernel_rfl) (by kernel_rfl) (fun _ _ _ h => h) (Or.inl ⟨by rfl, by (intro w hSw; (try dsimp only at hSw); go_simp)⟩) hHeld ?_
                  (try simp only [Act.put, List.getElem_toArray, List.getElem_cons_zero, List.getElem_cons_succ, List.setIfInBounds_toArray, List.set_cons_zero, List.set_cons_succ])
                  refine wpAnyH_take (i := 40) (v := .slice u1 j i1) rfl (by kernel_rfl) (by kernel_rfl) (by kernel_rfl) (fun _ _ _ h => h) (Or.inl ⟨by rfl, (by intro w9 hSw; (try dsimp only at hSw); go_simp <;> (intro h_; exfalso; omega))⟩) hHeld ?_
                  (try simp only [Act.put, List.getElem_toArray, List.getElem_cons_zero, List.getElem_cons_succ, List.setIfInBounds_toArray, List.set_cons_zero, List.set_cons_succ])
                  refine wpAnyH_ready (rs := [41]) (by kernel_rfl) (by simp) ?_
                  refine AllReadyH.cons rfl (fun K hK => ?_) (AllReadyH.nil)
                  rw [if_pos (by rfl)]
                  go_wp2_with fail
                  refine (HRAW.out _ V6.out).mono ?_
                  rintro _ z_V7 ⟨rfl, hb⟩
                  have V7 : Hid ((fun z => Below y7.heap.size y7 z) z_V7) := Lib.hid (V6.out.trans (hb.mono V6.out.size))
                  refine hK.out _ _ V7.out (fun hHeld2 => ?_)
                  clear hHeld hK
                  have hHeld := hHeld2
                  clear hHeld2
                  (try simp only [Act.put, List.getElem_toArray, List.getElem_cons_zero, List.getElem_cons_succ, List.setIfInBounds_toArray, List.set_cons_zero, List.set_cons_succ])
                  clear hb
                  refine wpAnyH_take (i := 42) (v := .bool true) rfl (by kernel_rfl) (by kernel_rfl) (by kernel_rfl) (fun _ _ _ h => h) (Or.inl ⟨by rfl, by (intro w hSw; (try dsimp only at hSw); go_simp)⟩) hHeld ?_
                  (try simp only [Act.put, List.getElem_toArray, List.getElem_cons_zero, List.getElem_cons_succ, List.setIfInBounds_toArray, List.set_cons_zero, List.set_cons_succ])
                  refine wpAnyH_take (i := 43) (v := .bool true) rfl (by kernel_rfl) (by kernel_rfl) (by kernel_rfl) (fun _ _ _ h => h) (Or.inl ⟨by rfl, by (intro w hSw; (try dsimp only at hSw); go_simp)⟩) hHeld ?_
                  (try simp only [Act.put, List.getElem_toArray, List.getElem_cons_zero, List.getElem_cons_succ, List.setIfInBounds_toArray, List.set_cons_zero, List.set_cons_succ])
                  refine wpAnyH_ready (rs := [44]) (by kernel_rfl) (by simp) ?_
                  refine AllReadyH.cons rfl (fun K hK => ?_) (AllReadyH.nil)
                  rw [if_pos (by rfl)]
                  go_wp2_with fail
                  refine (alive12_any _).mono ?_
                  rintro _ z_V8 ⟨rfl, hb⟩
                  have V8 : Hid ((fun z => Below y7.heap.size y7 z) z_V8) := Lib.hid (V7.out.trans (hb.mono V7.out.size))
                  refine hK.out _ _ V8.out (fun hHeld2 => ?_)
                  clear hHeld hK
                  have hHeld := hHeld2
                  clear hHeld2
                  (try simp only [Act.put, List.getElem_toArray, List.getElem_cons_zero, List.getElem_cons_succ, List.setIfInBounds_toArray, List.set_cons_zero, List.set_cons_succ])
                  clear hb
                  refine wpAnyH_take (i := 45) (v := .bool true) rfl (by kernel_rfl) (by kernel_rfl) (by kernel_rfl) (fun _ _ _ h => h) (Or.inl ⟨by rfl, by (intro w hSw; (try dsimp only at hSw); go_simp)⟩) hHeld ?_
                  (try simp only [Act.put, List.getElem_toArray, List.getElem_cons_zero, List.getElem_cons_succ, List.setIfInBounds_toArray, List.set_cons_zero, List.set_cons_succ])
                  refine wpAnyH_take (i := 46) (v := .bool true) rfl (by kernel_rfl) (by kernel_rfl) (by kernel_rfl) (fun _ _ _ h => h) (Or.inl ⟨by rfl, by (intro w hSw; (try dsimp only at hSw); go_simp)⟩) hHeld ?_
                  (try simp only [Act.put, List.getElem_toArray, List.getElem_cons_zero, List.getElem_cons_succ, List.setIfInBounds_toArray, List.set_cons_zero, List.set_cons_succ])
                  refine wpAnyH_done (by kernel_rfl) ?_ _
                  clear hHeld
                  go_wp2_with fail
                  go_ret
                  exact ⟨rfl, S3.out.bel.trans ((HB37.out.trans (V8.out.mono HB37.out.size)).mono S3.out.bel.size)⟩
        · have hk2 : (K != 0) = true := by simp [hK0]
          have HED0 : Hid (Calls Try.prog 16 #[.pointer (some ⟨bS, 0, none⟩), .agg #[.int .i64 fm, .int .i64 tt, .string ye]] w3 fun e w' => e = .returned (.tuple #[.pointer none, .agg zR7, .int .i64 K]) ∧ Below w3.heap.size w3 w') := Lib.hid (edit_err HSC.out HF.out.sz (by omega) HK.out hK0)
          have f0 : w3.cell? ⟨b5, 0, none⟩ = some (.int .i64 fm) := S3.out.boxAt 0
          have f1 : w3.cell? ⟨b5, 1, none⟩ = some (.int .i64 tt) := S3.out.boxAt 1
          have f2 : w3.cell? ⟨b5, 2, none⟩ = some (.string ye) := S3.out.boxAt 2
          go_wp2_with fail
          refine HED0.out.mono ?_
          rintro _ w4 ⟨rfl, hb⟩
          obtain ⟨b10, hb10⟩ : ∃ b, w4.heap.size = b := ⟨_, rfl⟩
          have T5 := Lib.hid ((S3.out.up hb).allocAt hb10 (.cells zR7 51))
          clear hb f0 f1 f2 HED0
          go_upto_region 7 with fail
          refine at_world (fun y => Sep w.heap.size w y [.box b10 (.cells zR7 51 (0, 0)), .box b5 (.cells #[.int .i64 fm, .int .i64 tt, .string ye] 45 (0, 0)), .box b3 (.cells vs 63 (0, 0))]) T5.out fun y5 hy => ?_
          have S5 := Lib.hid hy
          clear hy T5 hb10
          have HAL := Lib.hid (alive12_any y5)
          go_wp2_with fail
          refine HAL.out.mono ?_
          rintro _ w6 ⟨rfl, hb⟩
          have S6 := Lib.hid (S5.out.up hb)
          clear hb
          go_wp2_with fail
          go_ret
          exact ⟨rfl, S6.out.bel⟩
end Go.Proofs.Ytemkppjdfjoipaa.I1.X
end
