/- Package relex. -/
import Derived.Test.YtemkppjdfjoipaaProg
import Derived.Test.YtemkppjdfjoipaaZd0
import Derived.Test.YtemkppjdfjoipaaU18
import Derived.Deep.SlicePairs
import Derived.Deep.Slices
import Derived.Laws.IdiomArrays
import Derived.OpenShut
import Derived.WideBlind
import Derived.Great.BuildSlice
import Derived.WalkKit
import Derived.Maps.OwnSet
import Derived.Maps.OwnOps
import Derived.Maps.Own
import Derived.DeepKeys5
import Derived.BigFrame
import Derived.WalkMore
import Derived.ScopeJumps
import Derived.StillTailTactics
import Derived.Stop.BytesEq
import Derived.WalkLawsBesides
import Derived.WalkSpells
import Derived.Outline
import Derived.Lib.Walk
import Derived.Lib.Hide
import Derived.Lib.Slices
import Derived.Lib.Strings
import Derived.RegionTactic
import Derived.LoopTactic
import Derived.Below
import Derived.IntWalk
import Derived.Deep.QuietTactic
import Derived.BigQuiet
import Derived.Deep.MidRow
import Derived.Maps.AppendAt
import Derived.Laws.Rows
import Derived.Laws.Tables
import Derived.Deep.WholeRow
import Derived.Deep.Cut
import Derived.Deep.CutRange
import Derived.Lib.SliceRun
import Derived.Laws.MakeOwn
import Derived.Deep.RegionLaw
import Derived.Deep.RegionLawGrows
import Derived.Deep.RegionHeld3
import Derived.RegionCalls
import Derived.Deep.RegionWith
import Derived.Deep.Light
import Derived.Laws.CopyOwn
import Derived.Laws.ResultCell
namespace Go.Proofs.Ytemkppjdfjoipaa.I1.X
set_option linter.unusedSimpArgs false
set_option linter.unusedVariables false
set_option maxRecDepth 100000
open Go.RowKit
/- IndentAlls. -/
set_option maxHeartbeats 32000000 in
theorem alls_any {D : Nat → Prop} {w : World} {s : ByteArray} {lst : List Rw} {p : Option Addr} {c : Nat} (hss : s.size ≤ 9223372036854775806) (hD : ∀ b, D b → b < w.heap.size) (hrw : RW D w lst (.slice p lst.length c)) :
    Calls Try.prog 3 #[.string s, .slice p lst.length c] w fun e w' => e = .returned (.bool true) ∧ Below w.heap.size w w' := by
  by_cases h2000 : 2000 < lst.length
  · have hI : (2000 : Int) < (lst.length : Int) := by omega
    have SZ := Lib.hid (Below.refl w.heap.size w)
    clear hrw hD
    go_enter Try.func3, Try.ntmps3
    go_wp2_with fail
    go_ret
    exact ⟨rfl, SZ.out⟩
  have hI : ¬ (2000 : Int) < (lst.length : Int) := by omega
  have h2k : lst.length ≤ 2000 := by omega
  have hz46 := zero46
  have hz26 := zero26
  have HRW : Hid (∀ z, Below w.heap.size w z → RW D z lst (.slice p lst.length c)) := Lib.hid fun z hb => hrw.mono (D := D) (E := D) (fun b h => h) (fun b h _ => hb.block b (hD b h))
  have HDD := Lib.hid hD
  have HTW := Lib.hid (twinraws_any (B := w.heap.size) (X := []) (by omega) hD hrw (Sep.start w))
  clear hrw hD
  obtain ⟨n, hn⟩ : ∃ n, lst.length = n := ⟨_, rfl⟩
  have HN := Lib.hid hn
  rw [hn] at hI HTW ⊢
  clear hn
  go_enter Try.func3, Try.ntmps3
  go_wp2_with fail
  refine HTW.out.mono ?_
  rintro _ w1 ⟨g, cap, rfl, hs1⟩
  have S1 := Lib.hid hs1
  clear hs1 HTW
  obtain ⟨B, hB⟩ : ∃ B, w1.heap.size = B := ⟨_, rfl⟩
  have HBB := Lib.hid hB
  have HTR := Lib.hid (twr_wv S1.out.at)
  obtain ⟨QR, hQ⟩ : ∃ Q, allQ s lst = Q := ⟨_, rfl⟩
  have HQB := Lib.hid (allQ_ok (s := s) h2k)
  rw [hQ] at HQB
  have HALL : Hid (∀ z, Below B w1 z → Calls Try.prog 9 #[.string s, .slice (some ⟨g, 0, none⟩) n cap] z (AllP z.heap.size z [] QR)) := Lib.hid fun z hz => by
    have hg : g < w1.heap.size := HTR.out.2.2.2.2
    have e := all_any (B := z.heap.size) (D := fun b => b = g) (w0 := z) (w := z) (s := s) (lst := lst) (p := some ⟨g, 0, none⟩) (c := cap) (XX := []) (by omega) hss (fun b hb => by rw [hb]; have := hz.size; omega) (HTR.out.1.mono (fun b h => h) (fun b h _ => by rw [h]; exact hz.block g (by omega))) (Sep.start z)
    rw [hQ, HN.out] at e
    exact e
  have HREF : Hid (∀ z XX, Sep B w1 z XX → Calls Try.prog 10 #[.string s, .slice p n c] z (AllP B w1 XX QR)) := Lib.hid fun z XX hz => by
    have hw : w.heap.size ≤ B := by rw [← hB]; exact S1.out.bel.size
    have e := rall_any (B := B) (D := D) (w0 := w1) (w := z) (s := s) (lst := lst) (p := p) (c := c) (XX := XX) (by omega) hss (fun b hb => Nat.lt_of_lt_of_le (HDD.out b hb) hw) (HRW.out z (S1.out.bel.trans (hz.bel.mono hw))) hz
    rw [hQ, HN.out] at e
    exact e
  have HLEFT : Hid (∀ z, Below B w1 z → Calls Try.prog 12 #[.slice (some ⟨g, 0, none⟩) n cap, .slice p n c] z fun e w' => e = .returned (.bool true) ∧ Below z.heap.size z w') := Lib.hid fun z hz => by
    have hw : w.heap.size ≤ B := by rw [← hB]; exact S1.out.bel.size
    have hbz := S1.out.bel.trans (hz.mono hw)
    have hs : Sep w.heap.size w z [rTR g cap lst] := S1.out.up (by rw [hB]; exact hz)
    have e := leftraws_any (E := D) (B := w.heap.size) (w := z) (l := lst) (g := g) (cap := cap) (pb := p) (cb := c) (by omega) (fun b hb => Nat.lt_of_lt_of_le (HDD.out b hb) hbz.size) hs.at (HRW.out z hbz)
    rw [HN.out] at e
    exact e
  clear hQ
  obtain ⟨⟨RS, x⟩, E⟩ := QR
  simp only [] at HQB
  have hmk : x.marks.length ≤ 2001 := HQB.out.m
  have hck : x.counts.length ≤ 2001 := HQB.out.k
  have hrk : RS.length ≤ 2000 := HQB.out.r
  have htk : x.toks.length ≤ 20000000 := HQB.out.t
  have hE1 : (E != E) = false := by simp
  have hE2 : (E == E) = true := by simp
  clear hB
  go_wp2_with fail
  refine (HALL.out w1 (Below.refl _ _)).mono ?_
  rintro _ w2 ⟨v1, v2, v3, v4, vs, rfl, hvs, hs2⟩
  simp only [] at hvs hs2
  rw [HBB.out] at hs2
  obtain ⟨p1, c1, rfl⟩ := row_form hs2.at
  obtain ⟨p2, c2, rfl⟩ := row_form hs2.tl.at
  obtain ⟨p3, c3, rfl⟩ := row_form hs2.tl.tl.at
  obtain ⟨p4, c4, rfl⟩ := row_form hs2.tl.tl.tl.at
  have HVS := Lib.hid hvs
  obtain ⟨b6, hb6⟩ : ∃ b, w2.heap.size = b := ⟨_, rfl⟩
  have S2 := Lib.hid (hs2.allocAt hb6 (.cells #[.slice p1 RS.length c1, .slice p2 x.marks.length c2, .slice p3 x.counts.length c3, .slice p4 x.toks.length c4] 28))
  clear hs2 hvs
  go_upto_region 5 with fail
  refine at_world (fun y => Sep B w1 y (bxL b6 #[.slice p1 RS.length c1, .slice p2 x.marks.length c2, .slice p3 x.counts.length c3, .slice p4 x.toks.length c4] :: rR (.slice p1 RS.length c1) RS :: rM (.slice p2 x.marks.length c2) vs x.marks :: rI (.slice p3 x.counts.length c3) x.counts :: rT (.slice p4 x.toks.length c4) x.toks :: (colsI vs x.marks ++ []))) S2.out fun y3 hy => ?_
  have S3 := Lib.hid hy
  clear hy S2 hb6
  go_wp2_with fail
  refine (HREF.out _ _ S3.out).mono ?_
  rintro _ w4 ⟨u1, u2, u3, u4, us, rfl, hus, hs4⟩
  simp only [] at hus hs4
  obtain ⟨q1, f1, rfl⟩ := row_form hs4.at
  obtain ⟨q2, f2, rfl⟩ := row_form hs4.tl.at
  obtain ⟨q3, f3, rfl⟩ := row_form hs4.tl.tl.at
  obtain ⟨q4, f4, rfl⟩ := row_form hs4.tl.tl.tl.at
  have HUS := Lib.hid hus
  obtain ⟨b8, hb8⟩ : ∃ b, w4.heap.size = b := ⟨_, rfl⟩
  have S4 := Lib.hid (hs4.allocAt hb8 (.cells #[.slice q1 RS.length f1, .slice q2 x.marks.length f2, .slice q3 x.counts.length f3, .slice q4 x.toks.length f4] 28))
  clear hs4 hus S3 HREF
  go_upto_region 6 with fail
  refine at_world (fun y => Sep B w1 y (bxL b8 #[.slice q1 RS.length f1, .slice q2 x.marks.length f2, .slice q3 x.counts.length f3, .slice q4 x.toks.length f4] :: rR (.slice q1 RS.length f1) RS :: rM (.slice q2 x.marks.length f2) us x.marks :: rI (.slice q3 x.counts.length f3) x.counts :: rT (.slice q4 x.toks.length f4) x.toks :: (colsI us x.marks ++ (bxL b6 #[.slice p1 RS.length c1, .slice p2 x.marks.length c2, .slice p3 x.counts.length c3, .slice p4 x.toks.length c4] :: rR (.slice p1 RS.length c1) RS :: rM (.slice p2 x.marks.length c2) vs x.marks :: rI (.slice p3 x.counts.length c3) x.counts :: rT (.slice p4 x.toks.length c4) x.toks :: (colsI vs x.marks ++ []))))) S4.out fun y5 hy => ?_
  obtain ⟨LW, hLW⟩ : ∃ L : List It, (bxL b8 #[.slice q1 RS.length f1, .slice q2 x.marks.length f2, .slice q3 x.counts.length f3, .slice q4 x.toks.length f4] :: rR (.slice q1 RS.length f1) RS :: rM (.slice q2 x.marks.length f2) us x.marks :: rI (.slice q3 x.counts.length f3) x.counts :: rT (.slice q4 x.toks.length f4) x.toks :: colsI us x.marks) = L := ⟨_, rfl⟩
  have S5 : Hid (Sep B w1 y5 (bxL b6 #[.slice p1 RS.length c1, .slice p2 x.marks.length c2, .slice p3 x.counts.length c3, .slice p4 x.toks.length c4] :: rR (.slice p1 RS.length c1) RS :: rM (.slice p2 x.marks.length c2) vs x.marks :: rI (.slice p3 x.counts.length c3) x.counts :: rT (.slice p4 x.toks.length c4) x.toks :: (colsI vs x.marks ++ LW))) := Lib.hid (by
    rw [List.append_nil] at hy
    have h : Sep B w1 y5 ((bxL b8 #[.slice q1 RS.length f1, .slice q2 x.marks.length f2, .slice q3 x.counts.length f3, .slice q4 x.toks.length f4] :: rR (.slice q1 RS.length f1) RS :: rM (.slice q2 x.marks.length f2) us x.marks :: rI (.slice q3 x.counts.length f3) x.counts :: rT (.slice q4 x.toks.length f4) x.toks :: colsI us x.marks) ++ (bxL b6 #[.slice p1 RS.length c1, .slice p2 x.marks.length c2, .slice p3 x.counts.length c3, .slice p4 x.toks.length c4] :: rR (.slice p1 RS.length c1) RS :: rM (.slice p2 x.marks.length c2) vs x.marks :: rI (.slice p3 x.counts.length c3) x.counts :: rT (.slice p4 x.toks.length c4) x.toks :: colsI vs x.marks)) := hy
    rw [hLW] at h
    exact h.perm List.perm_append_comm)
  have HLW : Hid (∀ z, Sep B w1 z LW → (∀ j, z.cell? ⟨b8, j, none⟩ = (#[.slice q1 RS.length f1, .slice q2 x.marks.length f2, .slice q3 x.counts.length f3, .slice q4 x.toks.length f4] : Array Value)[j]?) ∧ SLv z.heap.size z RS x (.slice q1 RS.length f1) (.slice q2 x.marks.length f2) (.slice q3 x.counts.length f3) (.slice q4 x.toks.length f4)) := Lib.hid (by
    intro z hz
    rw [← hLW] at hz
    refine ⟨fun j => hz.boxAt j, slv_of (X := []) (vs := us) (B := B) (w0 := w1) ?_ HUS.out⟩
    rw [List.append_nil]
    exact hz.tl)
  clear hy S4 hb8 hLW
  have HW5 := Lib.hid (HLW.out y5 (S5.out.sub (List.Sublist.trans (List.sublist_append_right (colsI vs x.marks) LW) (.cons _ (.cons _ (.cons _ (.cons _ (.cons _ (.refl _)))))))))
  have c0 : y5.cell? ⟨b6, 0, none⟩ = some (.slice p1 RS.length c1) := S5.out.boxAt 0
  have c1 : y5.cell? ⟨b6, 1, none⟩ = some (.slice p2 x.marks.length c2) := S5.out.boxAt 1
  have c2 : y5.cell? ⟨b6, 2, none⟩ = some (.slice p3 x.counts.length c3) := S5.out.boxAt 2
  have c3 : y5.cell? ⟨b6, 3, none⟩ = some (.slice p4 x.toks.length c4) := S5.out.boxAt 3
  have d0 : y5.cell? ⟨b8, 0, none⟩ = some (.slice q1 RS.length f1) := HW5.out.1 0
  have d1 : y5.cell? ⟨b8, 1, none⟩ = some (.slice q2 x.marks.length f2) := HW5.out.1 1
  have d2 : y5.cell? ⟨b8, 2, none⟩ = some (.slice q3 x.counts.length f3) := HW5.out.1 2
  have d3 : y5.cell? ⟨b8, 3, none⟩ = some (.slice q4 x.toks.length f4) := HW5.out.1 3
  have HSM := Lib.hid (samelq_any (w := y5) (Nat.le_refl _) (Nat.le_refl _) (slv_of S5.out.tl HVS.out) HW5.out.2 HQB.out)
  go_wp2_with fail
  refine HSM.out.mono ?_
  rintro _ w6 ⟨rfl, hb⟩
  have S6 := Lib.hid (S5.out.up hb)
  clear hb HSM HW5 S5 c0 c1 c2 c3 d0 d1 d2 d3
  go_wp2_with fail
  refine (HLEFT.out _ S6.out.bel).mono ?_
  rintro _ w7 ⟨rfl, hb⟩
  have S7 := Lib.hid (S6.out.up hb)
  clear hb S6
  have c2_ : w7.cell? ⟨b6, 2, none⟩ = some (.slice p3 x.counts.length c3) := S7.out.boxAt 2
  have HMI := Lib.hid (mark2_any (B := B) (w := w7) (n := 0) (l := x.counts) (v := .slice p3 x.counts.length c3) (by omega) (by have := HQB.out.k; omega) S7.out.tl.tl.tl.at)
  go_wp2_with fail
  refine HMI.out.mono ?_
  rintro _ w8 ⟨rfl, ho, hr⟩
  have S8 : Hid (Sep B w1 w8 (bxL b6 #[.slice p1 RS.length c1, .slice p2 x.marks.length c2, .slice p3 x.counts.length c3, .slice p4 x.toks.length c4] :: rR (.slice p1 RS.length c1) RS :: rM (.slice p2 x.marks.length c2) vs x.marks :: .row (.slice p3 x.counts.length c3) 3 1 x.counts.length (zi (mkn 0 x.counts.length)) :: rT (.slice p4 x.toks.length c4) x.toks :: (colsK x.counts.length (vs.take 0) (x.marks.take 0) ++ (colsI (vs.drop 0) (x.marks.drop 0) ++ LW)))) := Lib.hid (Sep_mark (P := [_, _, _]) S7.out ho hr)
  clear HMI ho hr S7 c2_
  go_wp2_with fail
  go_loopw [10, 11] (fun k i wr => ∃ j : Nat, k = .int .i64 ((x.counts.length + clen (x.marks.take j) : Nat) : Int) ∧ i = .int .i64 (j : Nat) ∧ j ≤ x.marks.length ∧ Hid (Sep B w1 wr (bxL b6 #[.slice p1 RS.length c1, .slice p2 x.marks.length c2, .slice p3 x.counts.length c3, .slice p4 x.toks.length c4] :: rR (.slice p1 RS.length c1) RS :: rM (.slice p2 x.marks.length c2) vs x.marks :: .row (.slice p3 x.counts.length c3) 3 1 x.counts.length (zi (mkn 0 x.counts.length)) :: rT (.slice p4 x.toks.length c4) x.toks :: (colsK x.counts.length (vs.take j) (x.marks.take j) ++ (colsI (vs.drop j) (x.marks.drop j) ++ LW))))) (fun _ i _ => x.marks.length - (intOf i).toNat)
  case atStart => exact ⟨0, by simp [clen], rfl, by omega, S8⟩
  case round =>
  clear S8
  obtain ⟨j, rfl, rfl, hj, HS⟩ := hrel
  obtain ⟨wl, rfl⟩ : ∃ wl : World, wl = wr := ⟨_, rfl⟩
  have c1_ : wl.cell? ⟨b6, 1, none⟩ = some (.slice p2 x.marks.length c2) := HS.out.boxAt 1
  by_cases hlt : j < x.marks.length
  · have hltI : (j : Int) < (x.marks.length : Int) := by omega
    have hjI : ¬ (j : Int) < 0 := by omega
    have hvj : j < vs.length := by rw [HVS.out]; exact hlt
    obtain ⟨g2, hp2, hcell⟩ := mark_cell (i := j) HS.out HVS.out (List.mem_cons_of_mem _ (List.mem_cons_of_mem _ (List.mem_cons_self ..))) hlt
    subst hp2
    have hit := HS.out
    rw [colsI_drop HVS.out hlt] at hit
    obtain ⟨pv, cv, hv⟩ := row_form (hit.li (rI vs[j] x.marks[j].cols) (by simp))
    have hrow : wl.ownsRow B 3 1 vs[j] x.marks[j].cols.length (zi x.marks[j].cols) := hit.li (rI vs[j] x.marks[j].cols) (by simp)
    have hcb := HQB.out.c x.marks[j] (List.getElem_mem _)
    have hkb : clen (x.marks.take j) ≤ 8200000 := by
      have h1 := clen_le x.marks j
      have h2 := clen_bound x.marks HQB.out.c
      have h3 := HQB.out.m
      have := Nat.mul_le_mul_right 4097 h3
      omega
    have HMI := Lib.hid (mark2_any (B := B) (w := wl) (n := x.counts.length + clen (x.marks.take j)) (l := x.marks[j].cols) (v := vs[j]) (by have := HQB.out.k; omega) (by omega) hrow)
    have HK2 : Hid (((x.counts.length + clen (x.marks.take j) + x.marks[j].cols.length : Nat) : Int) = ((x.counts.length + clen (x.marks.take (j + 1)) : Nat) : Int)) := Lib.hid (by rw [clen_take x.marks hlt]; omega)
    have HUP : Hid (∀ z, Only vs[j].ownBlock wl z → z.ownsRow B 3 1 vs[j] x.marks[j].cols.length (zi (mkn (x.counts.length + clen (x.marks.take j)) x.marks[j].cols.length)) → Sep B w1 z (bxL b6 #[.slice p1 RS.length c1, .slice (some ⟨g2, 0, none⟩) x.marks.length c2, .slice p3 x.counts.length c3, .slice p4 x.toks.length c4] :: rR (.slice p1 RS.length c1) RS :: rM (.slice (some ⟨g2, 0, none⟩) x.marks.length c2) vs x.marks :: .row (.slice p3 x.counts.length c3) 3 1 x.counts.length (zi (mkn 0 x.counts.length)) :: rT (.slice p4 x.toks.length c4) x.toks :: (colsK x.counts.length (vs.take (j + 1)) (x.marks.take (j + 1)) ++ (colsI (vs.drop (j + 1)) (x.marks.drop (j + 1)) ++ LW)))) := Lib.hid (fun z ho hr => by
      rw [colsK_snoc HVS.out hlt, List.append_assoc]
      have h1 := Sep_mark (P := _ :: _ :: _ :: _ :: _ :: colsK x.counts.length (vs.take j) (x.marks.take j)) hit ho hr
      exact h1)
    rw [hv] at hcell HMI HUP
    clear hit hrow hcb hkb hv hvj HS
    go_wp2_with fail
    refine HMI.out.mono ?_
    rintro _ w9 ⟨rfl, ho, hr⟩
    have S9 := Lib.hid (HUP.out w9 ho hr)
    clear ho hr HMI HUP hcell
    go_wp2_with fail
    go_roundw
    case rel => exact ⟨j + 1, congrArg (Value.int .i64) (by have e := HK2.out; push_cast at e ⊢; omega), by go_num, by omega, S9⟩
    case measure => simp [intOf]; omega
  · obtain rfl : x.marks.length = j := by omega
    have hltI : ¬ (x.marks.length : Int) < (x.marks.length : Int) := by omega
    obtain ⟨KS, hKS⟩ : ∃ L : List It, (colsK x.counts.length vs x.marks ++ LW) = L := ⟨_, rfl⟩
    have S10 : Hid (∃ xs, Sep B w1 wl (.row (.slice p1 RS.length c1) 38 3 RS.length xs :: bxL b6 #[.slice p1 RS.length c1, .slice p2 x.marks.length c2, .slice p3 x.counts.length c3, .slice p4 x.toks.length c4] :: rM (.slice p2 x.marks.length c2) vs x.marks :: .row (.slice p3 x.counts.length c3) 3 1 x.counts.length (zi (mkn 0 x.counts.length)) :: rT (.slice p4 x.toks.length c4) x.toks :: KS)) := Lib.hid ⟨_, by
      have h := HS.out
      rw [colsI_done HVS.out, List.take_length, show vs.take x.marks.length = vs by rw [← HVS.out, List.take_length], List.nil_append, hKS] at h
      exact h.to 1 (by simp)⟩
    have HKS := Lib.hid hKS
    clear hKS HS
    go_wp2_with fail
    go_loopw [12] (fun i wr => ∃ j : Nat, i = .int .i64 (j : Nat) ∧ j ≤ RS.length ∧ Hid (∃ xs, Sep B w1 wr (.row (.slice p1 RS.length c1) 38 3 RS.length xs :: bxL b6 #[.slice p1 RS.length c1, .slice p2 x.marks.length c2, .slice p3 x.counts.length c3, .slice p4 x.toks.length c4] :: rM (.slice p2 x.marks.length c2) vs x.marks :: .row (.slice p3 x.counts.length c3) 3 1 x.counts.length (zi (mkn 0 x.counts.length)) :: rT (.slice p4 x.toks.length c4) x.toks :: KS))) (fun i _ => RS.length - (intOf i).toNat)
    case atStart => exact ⟨0, rfl, by omega, S10⟩
    case round =>
    clear S10 hltI c1_
    obtain ⟨j, rfl, hj2, HS⟩ := hrel
    obtain ⟨Z, rfl⟩ : ∃ W : World, W = wr := ⟨_, rfl⟩
    by_cases hlt2 : j < RS.length
    · have hltI : (j : Int) < (RS.length : Int) := by omega
      have hjI : ¬ (j : Int) < 0 := by omega
      obtain ⟨xs, hxs⟩ := HS.out
      obtain ⟨g5, k5', hv5, -⟩ := row_own hxs.at (by omega)
      injection hv5 with e1 e2 e3
      subst e1
      have cb_ : Z.cell? ⟨b6, 0, none⟩ = some (.slice (some ⟨g5, 0, none⟩) RS.length c1) := hxs.tl.boxAt 0
      obtain ⟨⟨u0, hu0⟩, hf0, xs1, h1⟩ := Sep_wr hxs (j := j * 3) (by omega) (.int .i64 (-1))
      obtain ⟨⟨u1, hu1⟩, hf1, -⟩ := Sep_wr hxs (j := j * 3 + 1) (by omega) (.int .i64 0)
      obtain ⟨⟨u2, hu2⟩, hf2, -⟩ := Sep_wr hxs (j := j * 3 + 2) (by omega) (.int .i64 0)
      obtain ⟨-, -, xs2, h2⟩ := Sep_wr h1 (j := j * 3 + 1) (by omega) (.int .i64 0)
      obtain ⟨-, -, xs3, h3⟩ := Sep_wr h2 (j := j * 3 + 2) (by omega) (.int .i64 0)
      have HS3 : Hid (∃ xs, Sep B w1 (((Z.setCell ⟨g5, j * 3, none⟩ (.int .i64 (-1))).setCell ⟨g5, j * 3 + 1, none⟩ (.int .i64 0)).setCell ⟨g5, j * 3 + 2, none⟩ (.int .i64 0)) (.row (.slice (some ⟨g5, 0, none⟩) RS.length c1) 38 3 RS.length xs :: bxL b6 #[.slice (some ⟨g5, 0, none⟩) RS.length c1, .slice p2 x.marks.length c2, .slice p3 x.counts.length c3, .slice p4 x.toks.length c4] :: rM (.slice p2 x.marks.length c2) vs x.marks :: .row (.slice p3 x.counts.length c3) 3 1 x.counts.length (zi (mkn 0 x.counts.length)) :: rT (.slice p4 x.toks.length c4) x.toks :: KS)) := Lib.hid ⟨_, h3⟩
      clear hxs h1 h2 h3 HS e2 e3
      go_wp2_with fail
      go_roundw
      case rel => exact ⟨j + 1, by go_num, by omega, HS3⟩
      case measure => simp [intOf]; omega
    · obtain rfl : RS.length = j := by omega
      have hltI : ¬ (RS.length : Int) < (RS.length : Int) := by omega
      obtain ⟨xr, hxr⟩ := HS.out
      have S11 : Hid (∃ xs, Sep B w1 Z (.row (.slice p4 x.toks.length c4) 40 3 x.toks.length xs :: bxL b6 #[.slice p1 RS.length c1, .slice p2 x.marks.length c2, .slice p3 x.counts.length c3, .slice p4 x.toks.length c4] :: .row (.slice p1 RS.length c1) 38 3 RS.length xr :: rM (.slice p2 x.marks.length c2) vs x.marks :: .row (.slice p3 x.counts.length c3) 3 1 x.counts.length (zi (mkn 0 x.counts.length)) :: KS)) := Lib.hid ⟨_, (hxr.to 4 (by simp)).perm (.cons _ (List.Perm.swap _ _ _))⟩
      have cb_ : Z.cell? ⟨b6, 0, none⟩ = some (.slice p1 RS.length c1) := hxr.tl.boxAt 0
      clear HS hxr
      go_wp2_with fail
      go_loopw [13] (fun i wr => ∃ j : Nat, i = .int .i64 (j : Nat) ∧ j ≤ x.toks.length ∧ Hid (∃ xs, Sep B w1 wr (.row (.slice p4 x.toks.length c4) 40 3 x.toks.length xs :: bxL b6 #[.slice p1 RS.length c1, .slice p2 x.marks.length c2, .slice p3 x.counts.length c3, .slice p4 x.toks.length c4] :: .row (.slice p1 RS.length c1) 38 3 RS.length xr :: rM (.slice p2 x.marks.length c2) vs x.marks :: .row (.slice p3 x.counts.length c3) 3 1 x.counts.length (zi (mkn 0 x.counts.length)) :: KS))) (fun i _ => x.toks.length - (intOf i).toNat)
      case atStart => exact ⟨0, rfl, by omega, S11⟩
      case round =>
      clear S11 hltI hj2 hlt2 cb_
      obtain ⟨j, rfl, hj2, HS⟩ := hrel
      obtain ⟨Z, rfl⟩ : ∃ W : World, W = wr := ⟨_, rfl⟩
      by_cases hlt2 : j < x.toks.length
      · have hltI : (j : Int) < (x.toks.length : Int) := by omega
        have hjI : ¬ (j : Int) < 0 := by omega
        obtain ⟨xs, hxs⟩ := HS.out
        obtain ⟨g5, k5', hv5, -⟩ := row_own hxs.at (by omega)
        injection hv5 with e1 e2 e3
        subst e1
        have cb_ : Z.cell? ⟨b6, 3, none⟩ = some (.slice (some ⟨g5, 0, none⟩) x.toks.length c4) := hxs.tl.boxAt 3
        obtain ⟨⟨u0, hu0⟩, hf0, xs1, h1⟩ := Sep_wr hxs (j := j * 3) (by omega) (.int .i64 (-1))
        obtain ⟨⟨u1, hu1⟩, hf1, -⟩ := Sep_wr hxs (j := j * 3 + 1) (by omega) (.int .i64 0)
        obtain ⟨⟨u2, hu2⟩, hf2, -⟩ := Sep_wr hxs (j := j * 3 + 2) (by omega) (.int .i64 0)
        obtain ⟨-, -, xs2, h2⟩ := Sep_wr h1 (j := j * 3 + 1) (by omega) (.int .i64 0)
        obtain ⟨-, -, xs3, h3⟩ := Sep_wr h2 (j := j * 3 + 2) (by omega) (.int .i64 0)
        have HS3 : Hid (∃ xs, Sep B w1 (((Z.setCell ⟨g5, j * 3, none⟩ (.int .i64 (-1))).setCell ⟨g5, j * 3 + 1, none⟩ (.int .i64 0)).setCell ⟨g5, j * 3 + 2, none⟩ (.int .i64 0)) (.row (.slice (some ⟨g5, 0, none⟩) x.toks.length c4) 40 3 x.toks.length xs :: bxL b6 #[.slice p1 RS.length c1, .slice p2 x.marks.length c2, .slice p3 x.counts.length c3, .slice (some ⟨g5, 0, none⟩) x.toks.length c4] :: .row (.slice p1 RS.length c1) 38 3 RS.length xr :: rM (.slice p2 x.marks.length c2) vs x.marks :: .row (.slice p3 x.counts.length c3) 3 1 x.counts.length (zi (mkn 0 x.counts.length)) :: KS)) := Lib.hid ⟨_, h3⟩
        clear hxs h1 h2 h3 HS e2 e3
        go_wp2_with fail
        go_roundw
        case rel => exact ⟨j + 1, by go_num, by omega, HS3⟩
        case measure => simp [intOf]; omega
      · obtain rfl : x.toks.length = j := by omega
        have hltI : ¬ (x.toks.length : Int) < (x.toks.length : Int) := by omega
        obtain ⟨xt, hxt⟩ := HS.out
        have SZ : Hid (Sep B w1 Z (bxL b6 #[.slice p1 RS.length c1, .slice p2 x.marks.length c2, .slice p3 x.counts.length c3, .slice p4 x.toks.length c4] :: .row (.slice p1 RS.length c1) 38 3 RS.length xr :: .row (.slice p4 x.toks.length c4) 40 3 x.toks.length xt :: rM (.slice p2 x.marks.length c2) vs x.marks :: .row (.slice p3 x.counts.length c3) 3 1 x.counts.length (zi (mkn 0 x.counts.length)) :: (colsK x.counts.length vs x.marks ++ LW))) := Lib.hid (by
          have h := hxt
          rw [← HKS.out] at h
          exact h.tl.to 0 (by simp) |>.perm (List.Perm.refl _) |> fun h1 => (show Sep B w1 Z (bxL b6 #[.slice p1 RS.length c1, .slice p2 x.marks.length c2, .slice p3 x.counts.length c3, .slice p4 x.toks.length c4] :: .row (.slice p1 RS.length c1) 38 3 RS.length xr :: .row (.slice p4 x.toks.length c4) 40 3 x.toks.length xt :: rM (.slice p2 x.marks.length c2) vs x.marks :: .row (.slice p3 x.counts.length c3) 3 1 x.counts.length (zi (mkn 0 x.counts.length)) :: (colsK x.counts.length vs x.marks ++ LW)) from (h.to 1 (by simp)).perm (.cons _ (.swap _ _ _)) ))
        have cb_ : Z.cell? ⟨b6, 3, none⟩ = some (.slice p4 x.toks.length c4) := SZ.out.boxAt 3
        clear HS hxt HKS hj2 hlt2
        have HSUB : Hid (∀ z, Below Z.heap.size Z z → Sep B w1 z LW) := Lib.hid (fun z hz => (SZ.out.up hz).sub (List.Sublist.trans (List.sublist_append_right (colsK x.counts.length vs x.marks) LW) (.cons _ (.cons _ (.cons _ (.cons _ (.cons _ (.refl _))))))))
        have c1_ : Z.cell? ⟨b6, 1, none⟩ = some (.slice p2 x.marks.length c2) := SZ.out.boxAt 1
        have c2_ : Z.cell? ⟨b6, 2, none⟩ = some (.slice p3 x.counts.length c3) := SZ.out.boxAt 2
        have HHI := Lib.hid (has_any (B := B) (w := Z) (n := 0) (m := x.counts.length) (v := .slice p3 x.counts.length c3) (by omega) (by omega) (SZ.out.li (.row (.slice p3 x.counts.length c3) 3 1 x.counts.length (zi (mkn 0 x.counts.length))) (by simp)))
        go_wp2_with fail
        refine HHI.out.mono ?_
        rintro _ zz ⟨rfl, rfl⟩
        clear HHI
        go_wp2_with fail
        go_loopw [10, 14] (fun k i wr => ∃ j : Nat, k = .int .i64 ((x.counts.length + clen (x.marks.take j) : Nat) : Int) ∧ i = .int .i64 (j : Nat) ∧ j ≤ x.marks.length ∧ wr = zz) (fun _ i _ => x.marks.length - (intOf i).toNat)
        case atStart => exact ⟨0, by simp [clen], rfl, by omega, by first | rfl | trivial⟩
        case round =>
        clear hltI
        obtain ⟨j, rfl, rfl, hj4, rfl⟩ := hrel
        by_cases hlt4 : j < x.marks.length
        · have hltI : (j : Int) < (x.marks.length : Int) := by omega
          have hjI : ¬ (j : Int) < 0 := by omega
          have hvj : j < vs.length := by rw [HVS.out]; exact hlt4
          obtain ⟨g2, hp2, hcell⟩ := mark_cell (i := j) SZ.out HVS.out (List.mem_cons_of_mem _ (List.mem_cons_of_mem _ (List.mem_cons_of_mem _ (List.mem_cons_self ..)))) hlt4
          subst hp2
          have hrow : wr.ownsRow B 3 1 vs[j] x.marks[j].cols.length (zi (mkn (x.counts.length + clen (x.marks.take j)) x.marks[j].cols.length)) := SZ.out.li _ (List.mem_cons_of_mem _ (List.mem_cons_of_mem _ (List.mem_cons_of_mem _ (List.mem_cons_of_mem _ (List.mem_cons_of_mem _ (List.mem_append_left _ (colsK_mem HVS.out hlt4 x.counts.length)))))))
          obtain ⟨pv, cv, hv⟩ := row_form hrow
          have hcb := HQB.out.c x.marks[j] (List.getElem_mem _)
          have hkb : clen (x.marks.take j) ≤ 8200000 := by
            have h1 := clen_le x.marks j
            have h2 := clen_bound x.marks HQB.out.c
            have := Nat.mul_le_mul_right 4097 hmk
            omega
          have HHI := Lib.hid (has_any (B := B) (w := wr) (n := x.counts.length + clen (x.marks.take j)) (m := x.marks[j].cols.length) (v := vs[j]) (by omega) (by omega) hrow)
          have HK2 : Hid (((x.counts.length + clen (x.marks.take j) + x.marks[j].cols.length : Nat) : Int) = ((x.counts.length + clen (x.marks.take (j + 1)) : Nat) : Int)) := Lib.hid (by rw [clen_take x.marks hlt4]; omega)
          have hwk : IntKind.i64.wrap (((x.counts.length + clen (x.marks.take j) : Nat) : Int) + (x.marks[j].cols.length : Int)) = ((x.counts.length + clen (x.marks.take (j + 1)) : Nat) : Int) := by rw [IntWalk.i64_in _ (by omega), ← HK2.out]; push_cast; rfl
          have hwk2 : IntKind.i64.wrap ((x.counts.length : Int) + (clen (x.marks.take j) : Int) + (x.marks[j].cols.length : Int)) = ((x.counts.length + clen (x.marks.take (j + 1)) : Nat) : Int) := by rw [← hwk]; push_cast; rfl
          rw [hv] at hcell HHI
          clear hrow hcb hkb hv hvj
          go_wp2_with fail
          refine HHI.out.mono ?_
          rintro _ z9 ⟨rfl, hz9⟩
          subst hz9
          go_wp2_with fail
          go_roundw
          case rel => exact ⟨j + 1, by first | rfl | (congr 1), by go_num, by omega, by first | rfl | trivial⟩
          case measure => simp [intOf]; omega
        · obtain rfl : x.marks.length = j := by omega
          have hltI : ¬ (x.marks.length : Int) < (x.marks.length : Int) := by omega
          go_wp2_with fail
          refine (HALL.out _ SZ.out.bel).mono ?_
          rintro _ w10 ⟨y1, y2, y3_, y4, ys, rfl, hys, hs10⟩
          simp only [] at hys hs10
          obtain ⟨k1, j1, rfl⟩ := row_form hs10.at
          obtain ⟨k2, j2, rfl⟩ := row_form hs10.tl.at
          obtain ⟨k3, j3, rfl⟩ := row_form hs10.tl.tl.at
          obtain ⟨k4, j4, rfl⟩ := row_form hs10.tl.tl.tl.at
          have HYS := Lib.hid hys
          obtain ⟨b15, hb15⟩ : ∃ b, w10.heap.size = b := ⟨_, rfl⟩
          have S20 := Lib.hid (hs10.allocAt hb15 (.cells #[.slice k1 RS.length j1, .slice k2 x.marks.length j2, .slice k3 x.counts.length j3, .slice k4 x.toks.length j4] 28))
          clear hs10 hys
          go_upto_region 31 with fail
          refine at_world (fun y => Sep wr.heap.size wr y (bxL b15 #[.slice k1 RS.length j1, .slice k2 x.marks.length j2, .slice k3 x.counts.length j3, .slice k4 x.toks.length j4] :: rR (.slice k1 RS.length j1) RS :: rM (.slice k2 x.marks.length j2) ys x.marks :: rI (.slice k3 x.counts.length j3) x.counts :: rT (.slice k4 x.toks.length j4) x.toks :: (colsI ys x.marks ++ []))) S20.out fun z1 hy => ?_
          have S21 := Lib.hid hy
          clear hy S20 hb15
          have HW2 := Lib.hid (HLW.out z1 (HSUB.out z1 S21.out.bel))
          have d0 : z1.cell? ⟨b8, 0, none⟩ = some (.slice q1 RS.length f1) := HW2.out.1 0
          have d1 : z1.cell? ⟨b8, 1, none⟩ = some (.slice q2 x.marks.length f2) := HW2.out.1 1
          have d2 : z1.cell? ⟨b8, 2, none⟩ = some (.slice q3 x.counts.length f3) := HW2.out.1 2
          have d3 : z1.cell? ⟨b8, 3, none⟩ = some (.slice q4 x.toks.length f4) := HW2.out.1 3
          have e0 : z1.cell? ⟨b15, 0, none⟩ = some (.slice k1 RS.length j1) := S21.out.boxAt 0
          have e1 : z1.cell? ⟨b15, 1, none⟩ = some (.slice k2 x.marks.length j2) := S21.out.boxAt 1
          have e2 : z1.cell? ⟨b15, 2, none⟩ = some (.slice k3 x.counts.length j3) := S21.out.boxAt 2
          have e3 : z1.cell? ⟨b15, 3, none⟩ = some (.slice k4 x.toks.length j4) := S21.out.boxAt 3
          have HSM := Lib.hid (samelq_any (w := z1) (Nat.le_refl _) (Nat.le_refl _) (slv_of S21.out.tl HYS.out) HW2.out.2 HQB.out)
          have HB1 := Lib.hid (SZ.out.up S21.out.bel).bel
          go_wp2_with fail
          refine HSM.out.mono ?_
          rintro _ z2 ⟨rfl, hb⟩
          have HB2 := Lib.hid (HB1.out.trans (hb.mono (SZ.out.up S21.out.bel).sz))
          have hsz2 : B ≤ z2.heap.size := Nat.le_trans (SZ.out.up S21.out.bel).sz hb.size
          clear hb HSM
          go_wp2_with fail
          refine (HLEFT.out _ HB2.out).mono ?_
          rintro _ z3 ⟨rfl, hb⟩
          have HB3 := Lib.hid (HB2.out.trans (hb.mono hsz2))
          have hsz3 : B ≤ z3.heap.size := Nat.le_trans hsz2 hb.size
          clear hb
          have HAL := Lib.hid (Go.Proofs.Ytemkppjdfjoipaa.I1.alive_any (w := z3))
          go_wp2_with fail
          refine HAL.out.mono ?_
          rintro _ z4 ⟨rfl, hb⟩
          have HB4 := Lib.hid (HB3.out.trans (hb.mono hsz3))
          clear hb HAL
          go_wp2_with fail
          go_ret
          exact ⟨rfl, S1.out.bel.trans (HB4.out.mono (by rw [← HBB.out]; exact S1.out.bel.size))⟩
end Go.Proofs.Ytemkppjdfjoipaa.I1.X
