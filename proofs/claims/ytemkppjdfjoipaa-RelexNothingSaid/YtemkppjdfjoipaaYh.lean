/- RelexNothing -/
import Derived.Test.YtemkppjdfjoipaaProg
import Derived.Test.YtemkppjdfjoipaaW47
import Derived.Test.YtemkppjdfjoipaaW40
import Derived.Test.YtemkppjdfjoipaaW49
import Derived.Test.YtemkppjdfjoipaaYk
import Derived.Deep.SlicePairs
import Derived.Deep.Slices
import Derived.Laws.IdiomArrays
import Derived.OpenShut
import Derived.WideBlind
import Derived.Great.BuildSlice
import Derived.WalkKit
import Derived.Maps.OwnSet
import Derived.Maps.OwnOps
import Derived.Maps.Own
import Derived.DeepKeys5
import Derived.BigFrame
import Derived.WalkMore
import Derived.ScopeJumps
import Derived.StillTailTactics
import Derived.Stop.BytesEq
import Derived.WalkLawsBesides
import Derived.WalkSpells
import Derived.Outline
import Derived.Lib.Walk
import Derived.Lib.Hide
import Derived.Lib.Slices
import Derived.Lib.Strings
import Derived.RegionTactic
import Derived.LoopTactic
import Derived.Below
import Derived.IntWalk
import Derived.Deep.QuietTactic
import Derived.BigQuiet
import Derived.Deep.MidRow
import Derived.Maps.AppendAt
import Derived.Laws.Rows
import Derived.Laws.Tables
import Derived.Deep.WholeRow
import Derived.Deep.Cut
import Derived.Deep.CutRange
import Derived.Lib.SliceRun
import Derived.Laws.MakeOwn
import Derived.Deep.RegionLaw
import Derived.Deep.RegionLawGrows
import Derived.Deep.RegionHeld3
import Derived.RegionCalls
import Derived.Deep.RegionWith
import Derived.Deep.Light
import Derived.Laws.CopyOwn
import Derived.Laws.ResultCell
namespace Go.Proofs.Ytemkppjdfjoipaa.I1.X
set_option linter.unusedSimpArgs false
set_option linter.unusedVariables false
set_option maxRecDepth 100000
open Go.RowKit
/- RelexNothing. -/
set_option maxHeartbeats 16000000 in
theorem nothing12_any {w : World} {d : Df} {vs ds : Array Value} {p q : Option Addr} {c f fr : Nat} {ts : List R6.RT} {qr : Option Addr} (x : ByteArray) (fm tt : Int) (hv : SC vs ds qr ts.length fr) (hd : DC d ds p q c f) (hm : DM (fun b => b < w.heap.size) w d p q c f) (hR : R6.RuV (fun b => b < w.heap.size) w ts (.slice qr ts.length fr)) (hln : ts.length ≤ 9223372036854775806) (hwid : ∀ t ∈ ts, R6.wid t ≤ 9223372036854775806) (hx : x.size ≤ 281474976710656) :
    Calls Try.prog 7 #[.agg vs, .string x, .agg #[.int .i64 fm, .int .i64 tt]] w fun e w' => e = .returned (.bool true) ∧ Below w.heap.size w w' := by
  have hz51 := zero51
  have hz28 := zero28
  have HSZ := Lib.hid hd.sz
  have HD := Lib.hid hd
  have HV := Lib.hid hv
  have HM : Hid (∀ z, Below w.heap.size w z → DM (Lt w.heap.size) z d p q c f) := Lib.hid fun z hz => hm.up hz
  obtain ⟨kl, hkl, hkr⟩ := kr_of hR
  have HKR : Hid (∀ z, Below w.heap.size w z → KR (Lt w.heap.size) z kl qr) := Lib.hid fun z hz => hkr.mono (fun b h => h) (fun b (hb : b < w.heap.size) _ => hz.block b hb)
  obtain ⟨sm, hsm⟩ : ∃ sm, smA x d ts = sm := ⟨_, rfl⟩
  have HSM : Hid (∀ z, Below w.heap.size w z → Calls Try.prog 20 #[.slice qr ts.length fr, .agg ds, .string x] z fun e w' => e = .returned (.bool sm) ∧ Below z.heap.size z w') := Lib.hid fun z hz => by
    rw [← hsm]
    exact small12_any (D := Lt w.heap.size) x hd (hm.up hz) (hR.mono (fun b h => h) (fun b (hb : b < w.heap.size) _ => hz.block b hb)) hln hwid
  have HSME := Lib.hid hsm
  have HKL := Lib.hid hkl
  obtain ⟨nt, hnt⟩ : ∃ n, ts.length = n := ⟨_, rfl⟩
  rw [hnt] at HSM HV HKL
  have HNT := Lib.hid hnt
  obtain ⟨b3, hb3⟩ : ∃ b, w.heap.size = b := ⟨_, rfl⟩
  have S0 := (Sep.start w).allocAt hb3 (.cells vs 63)
  have S0 := S0.allocAt (b := b3 + 1) (by simp [hb3]) (.cells #[.int .i64 fm, .int .i64 tt] 72)
  obtain ⟨b5, hb5⟩ : ∃ b, b3 + 1 = b := ⟨_, rfl⟩
  rw [hb5] at S0
  have S0 := Lib.hid S0
  have HLOAD : Hid (∀ z, Sep w.heap.size w z [.box b5 (.cells #[.int .i64 fm, .int .i64 tt] 72 (0, 0)), .box b3 (.cells vs 63 (0, 0))] → z.cell? ⟨b3, 0, none⟩ = some (.slice qr nt fr) ∧ ∀ j v, ds[j]? = some v → z.cell? ⟨b3, 1 + j, none⟩ = some v) := Lib.hid fun z hz => ⟨(hz.tl.boxAt 0).trans HV.out.r, fun j v hj => (hz.tl.boxAt (1 + j)).trans (HV.out.d j v hj)⟩
  clear hv hd hm hR hkr hkl hsm hnt hwid hln
  go_enter Try.func7, Try.ntmps7
  go_upto_region 1 with fail
  refine at_world (fun y => Sep w.heap.size w y [.box b5 (.cells #[.int .i64 fm, .int .i64 tt] 72 (0, 0)), .box b3 (.cells vs 63 (0, 0))]) S0.out fun y hy => ?_
  have S1 := Lib.hid hy
  clear hy S0 hb3 hb5
  go_cut [38] from 13 to 38 (fun s38 wx => (s38 = .bool true ∨ (s38 = .bool false ∧ sm = true ∧ 0 ≤ fm ∧ fm ≤ tt ∧ tt ≤ (x.size : Int))) ∧ Hid (Sep w.heap.size w wx [.box b5 (.cells #[.int .i64 fm, .int .i64 tt] 72 (0, 0)), .box b3 (.cells vs 63 (0, 0))]))
  case first =>
    have c0 := (HLOAD.out y S1.out).1
    have HC := Lib.hid (HLOAD.out y S1.out).2
    go_wp2_with (refine wpList_load_Do _ rfl b3 1 ds rfl HC.out HSZ.out rfl ?_)
    refine (HSM.out _ S1.out.bel).mono ?_
    rintro _ w2 ⟨rfl, hb⟩
    have S2 := Lib.hid (S1.out.up hb)
    have f0 : w2.cell? ⟨b5, 0, none⟩ = some (.int .i64 fm) := S2.out.boxAt 0
    have f1 : w2.cell? ⟨b5, 1, none⟩ = some (.int .i64 tt) := S2.out.boxAt 1
    clear hb c0 HC S1
    cases sm with
    | false =>
      go_wp2_with fail
      go_meet
      case rel => exact ⟨.inl rfl, S2⟩
    | true =>
      by_cases h1 : fm < 0
      · go_wp2_with fail
        go_meet
        case rel => exact ⟨.inl rfl, S2⟩
      · by_cases h2 : tt < fm
        · go_wp2_with fail
          go_meet
          case rel => exact ⟨.inl rfl, S2⟩
        · by_cases h3 : tt > (x.size : Int)
          · have h3' : (x.size : Int) < tt := h3
            go_wp2_with fail
            go_meet
            case rel => exact ⟨.inl (by simp [h3']), S2⟩
          · have h3' : ¬ (x.size : Int) < tt := h3
            go_wp2_with fail
            go_meet
            case rel => exact ⟨.inr (by simp [h3']; omega), S2⟩
  case rest =>
    obtain ⟨hor, S2⟩ := hcut
    obtain ⟨y1, rfl⟩ : ∃ y : World, y = wc := ⟨_, rfl⟩
    rcases hor with rfl | ⟨rfl, rfl, h1, h2, h3⟩
    · go_wp2_with fail
      go_ret
      exact ⟨rfl, S2.out.bel⟩
    · obtain ⟨a, rfl⟩ : ∃ a : Nat, fm = (a : Int) := ⟨fm.toNat, by omega⟩
      obtain ⟨e, rfl⟩ : ∃ a : Nat, tt = (a : Int) := ⟨tt.toNat, by omega⟩
      have h2 : a ≤ e := by omega
      have h3 : e ≤ x.size := by omega
      obtain ⟨g1, g2, g3⟩ := smA_true HSME.out
      have hrw : ∀ r ∈ d.nx, r.length ≤ 1000000 := fun r hr => by
        have : ∀ (l : List (List Int)), r ∈ l → r.length ≤ sumL l := by
          intro l
          induction l with
          | nil => intro h; cases h
          | cons a l ih => intro h; rcases List.mem_cons.1 h with rfl | h <;> simp only [sumL] <;> first | omega | (have := ih h; omega)
        have := this d.nx hr
        omega
      have hN := HNT.out
      have c0 := (HLOAD.out y1 S2.out).1
      have HC := Lib.hid (HLOAD.out y1 S2.out).2
      have HNEW : Hid (Calls Try.prog 21 #[.slice qr nt fr, .agg ds, .string x] y1 (NewP y1 d kl x (newE d kl x))) := Lib.hid (by
        have e := new_any (N := w.heap.size) (fr := fr) x S2.out.bel.size HD.out (HM.out y1 S2.out.bel) (HKR.out y1 S2.out.bel) (by rw [HKL.out]; omega) (by omega) (by omega) hrw hx
        rw [HKL.out] at e
        exact e)
      have HKB : Hid (kl.length ≤ 1000000) := Lib.hid (by rw [HKL.out]; omega)
      obtain ⟨E, hE⟩ : ∃ E, newE d kl x = E := ⟨_, rfl⟩
      rw [hE] at HNEW
      have HEE := Lib.hid hE
      clear hE hrw g2 g3 hN
      go_wp2_with (refine wpList_load_Do _ rfl b3 1 ds rfl HC.out HSZ.out rfl ?_)
      refine HNEW.out.mono ?_
      rintro _ w3 ⟨hb, hor⟩
      have S3 := Lib.hid (S2.out.up hb)
      clear hb c0 HC HNEW S2
      rcases hor with ⟨hne, rfl⟩ | ⟨rfl, bS, rfl, hsc⟩
      · have hne2 : (E != 0) = true := by simp [hne]
        have HAL := Lib.hid (alive12_any w3)
        go_wp2_with fail
        refine HAL.out.mono ?_
        rintro _ w4 ⟨rfl, hb⟩
        have S4 := Lib.hid (S3.out.up hb)
        clear hb
        go_wp2_with fail
        go_ret
        exact ⟨rfl, S4.out.bel⟩
      · have HSC := Lib.hid hsc
        have HF : Hid (Fine d kl x) := Lib.hid (newE_ok HKB.out HEE.out).2
        clear hsc
        have hN9 := S3.out.bel.size
        obtain ⟨n1, hn1⟩ : ∃ n, (scL d kl x).length = n := ⟨_, rfl⟩
        obtain ⟨n2, hn2⟩ : ∃ n, (scX d kl x).marks.length = n := ⟨_, rfl⟩
        obtain ⟨n3, hn3⟩ : ∃ n, (scX d kl x).counts.length = n := ⟨_, rfl⟩
        obtain ⟨n4, hn4⟩ : ∃ n, (scX d kl x).toks.length = n := ⟨_, rfl⟩
        have HED : Hid (∀ z XF, Sep w3.heap.size w3 z XF → Calls Try.prog 16 #[.pointer (some ⟨bS, 0, none⟩), .agg #[.int .i64 (a : Nat), .int .i64 (e : Nat), .string (x.extract a e)]] z fun r w' => ∃ bq bs q1 q3 q4 e1 e3 e4 bT bR cnt o1 o2 o3 o4 r1 r2 r3 r4 l1 l2 l3 l4 vs J, r = .returned (.tuple #[.pointer (some ⟨bq, 0, none⟩), .agg #[.slice q1 n1 e1, .slice (some ⟨bT, 0, none⟩) n2 n2, .slice q3 n3 e3, .slice q4 n4 e4, .int .i64 (n4 : Nat), .int .i64 0, .int .i64 cnt], .int .i64 0]) ∧ NsI w3.heap.size w3 XF J d kl x bq bs o1 o2 o3 o4 r1 r2 r3 r4 l1 l2 l3 l4 vs q1 q3 q4 e1 e3 e4 bT bR w') := Lib.hid (fun z XF hz => by
          have hs9 := HF.out.sz
          have hc := chk_same x hs9 h2 h3
          obtain ⟨a', e', i1, i2, i3, i4, i5⟩ := ed_of hs9 hc
          obtain rfl : a' = a := by omega
          obtain rfl : e' = e := by omega
          have hsp := splice_same x h2 h3
          rw [hsp] at i3 i4
          refine (edit_fr (Nat.le_refl _) (Nat.le_refl _) hz HSC.out HF.out HF.out hc i3 i4).mono ?_
          rintro r w' ⟨bq, bs, q1, q3, q4, e1, e3, e4, bT, bR, cnt, o1, o2, o3, o4, r1, r2, r3, r4, l1, l2, l3, l4, vs, J, rfl, _, hR⟩
          refine ⟨bq, bs, q1, q3, q4, e1, e3, e4, bT, bR, cnt, o1, o2, o3, o4, r1, r2, r3, r4, l1, l2, l3, l4, vs, J, ?_, hR⟩
          rw [cpre_self, csuf_self, rlV, hn1, hn2, hn3, hn4]
          rfl)
        have HNN := Lib.hid (And.intro hn1 (And.intro hn2 (And.intro hn3 hn4)))
        clear hn1 hn2 hn3 hn4
        go_upto_region 6 with fail
        go_cut [9, 10, 11] from 12 to 103 (fun s9 s10 s11 wx => ∃ (bq b10 : Nat) (q1 q3 q4 : Option Addr) (e1 e3 e4 bT : Nat) (cnt : Int), s9 = .pointer (some ⟨bq, 0, none⟩) ∧ s10 = .pointer (some ⟨b10, 0, none⟩) ∧ s11 = .int .i64 0 ∧ Hid (ScV wx.heap.size wx bq d kl x) ∧ Hid (LV wx.heap.size wx (scL d kl x) (scX d kl x) q1 (some ⟨bT, 0, none⟩) q3 q4 e1 (scX d kl x).marks.length e3 e4) ∧ Hid (Sep w3.heap.size w3 wx [.box b10 (.cells #[.slice q1 n1 e1, .slice (some ⟨bT, 0, none⟩) n2 n2, .slice q3 n3 e3, .slice q4 n4 e4, .int .i64 (n4 : Nat), .int .i64 0, .int .i64 cnt] 51 (0, 0))]))
        case first =>
          have h2I : (a : Int) ≤ (e : Int) := by omega
          have h3I : (e : Int) ≤ (x.size : Int) := by omega
          have h0I : (0 : Int) ≤ (a : Int) := by omega
          have HS6 : Hid ((fun z => Below w3.heap.size w3 z) w3.drew) := Lib.hid (below_drewN (Below.refl _ _) 1)
          refine wp_region_held_drew (S := fun z => Below w3.heap.size w3 z) (by kernel_rfl) HS6.out (fun hHeld => ?_)
          refine wpAnyH_take (i := 0) (v := .pointer (some ⟨bS, 0, none⟩)) rfl (by kernel_rfl) (by kernel_rfl) (by kernel_rfl) (fun _ _ _ h => h) (Or.inl ⟨by rfl, by (intro w hSw; (try dsimp only at hSw); go_simp)⟩) hHeld ?_
          (try simp only [Act.put, List.getElem_toArray, List.getElem_cons_zero, List.getElem_cons_succ, List.setIfInBounds_toArray, List.set_cons_zero, List.set_cons_succ])
          refine wpAnyH_take (i := 1) (v := .pointer (some ⟨b5, 0, none⟩)) rfl (by kernel_rfl) (by kernel_rfl) (by kernel_rfl) (fun _ _ _ h => h) (Or.inl ⟨by rfl, by (intro w hSw; (try dsimp only at hSw); go_simp)⟩) hHeld ?_
          (try simp only [Act.put, List.getElem_toArray, List.getElem_cons_zero, List.getElem_cons_succ, List.setIfInBounds_toArray, List.set_cons_zero, List.set_cons_succ])
          refine wpAnyH_take (i := 2) (v := .int .i64 (a : Nat)) rfl (by kernel_rfl) (by kernel_rfl) (by kernel_rfl) (fun _ _ _ h => h) (Or.inl ⟨by rfl, (by intro w9 hSw; (try dsimp only at hSw); have c1_ : w9.cell? ⟨b5, 0, none⟩ = some (.int .i64 (a : Nat)) := (S3.out.up hSw).boxAt 0; go_simp)⟩) hHeld ?_
          (try simp only [Act.put, List.getElem_toArray, List.getElem_cons_zero, List.getElem_cons_succ, List.setIfInBounds_toArray, List.set_cons_zero, List.set_cons_succ])
          refine wpAnyH_take (i := 3) (v := .pointer (some ⟨b5, 1, none⟩)) rfl (by kernel_rfl) (by kernel_rfl) (by kernel_rfl) (fun _ _ _ h => h) (Or.inl ⟨by rfl, by (intro w hSw; (try dsimp only at hSw); go_simp)⟩) hHeld ?_
          (try simp only [Act.put, List.getElem_toArray, List.getElem_cons_zero, List.getElem_cons_succ, List.setIfInBounds_toArray, List.set_cons_zero, List.set_cons_succ])
          refine wpAnyH_take (i := 4) (v := .int .i64 (e : Nat)) rfl (by kernel_rfl) (by kernel_rfl) (by kernel_rfl) (fun _ _ _ h => h) (Or.inl ⟨by rfl, (by intro w9 hSw; (try dsimp only at hSw); have c1_ : w9.cell? ⟨b5, 1, none⟩ = some (.int .i64 (e : Nat)) := (S3.out.up hSw).boxAt 1; go_simp)⟩) hHeld ?_
          (try simp only [Act.put, List.getElem_toArray, List.getElem_cons_zero, List.getElem_cons_succ, List.setIfInBounds_toArray, List.set_cons_zero, List.set_cons_succ])
          refine wpAnyH_take (i := 5) (v := .string x) rfl (by kernel_rfl) (by kernel_rfl) (by kernel_rfl) (fun _ _ _ h => h) (Or.inl ⟨by rfl, by (intro w hSw; (try dsimp only at hSw); go_simp)⟩) hHeld ?_
          (try simp only [Act.put, List.getElem_toArray, List.getElem_cons_zero, List.getElem_cons_succ, List.setIfInBounds_toArray, List.set_cons_zero, List.set_cons_succ])
          refine wpAnyH_take (i := 6) (v := .pointer (some ⟨b5, 0, none⟩)) rfl (by kernel_rfl) (by kernel_rfl) (by kernel_rfl) (fun _ _ _ h => h) (Or.inl ⟨by rfl, by (intro w hSw; (try dsimp only at hSw); go_simp)⟩) hHeld ?_
          (try simp only [Act.put, List.getElem_toArray, List.getElem_cons_zero, List.getElem_cons_succ, List.setIfInBounds_toArray, List.set_cons_zero, List.set_cons_succ])
          refine wpAnyH_take (i := 7) (v := .int .i64 (a : Nat)) rfl (by kernel_rfl) (by kernel_rfl) (by kernel_rfl) (fun _ _ _ h => h) (Or.inl ⟨by rfl, (by intro w9 hSw; (try dsimp only at hSw); have c1_ : w9.cell? ⟨b5, 0, none⟩ = some (.int .i64 (a : Nat)) := (S3.out.up hSw).boxAt 0; go_simp)⟩) hHeld ?_
          (try simp only [Act.put, List.getElem_toArray, List.getElem_cons_zero, List.getElem_cons_succ, List.setIfInBounds_toArray, List.set_cons_zero, List.set_cons_succ])
          refine wpAnyH_take (i := 8) (v := .pointer (some ⟨b5, 1, none⟩)) rfl (by kernel_rfl) (by kernel_rfl) (by kernel_rfl) (fun _ _ _ h => h) (Or.inl ⟨by rfl, by (intro w hSw; (try dsimp only at hSw); go_simp)⟩) hHeld ?_
          (try simp only [Act.put, List.getElem_toArray, List.getElem_cons_zero, List.getElem_cons_succ, List.setIfInBounds_toArray, List.set_cons_zero, List.set_cons_succ])
          refine wpAnyH_take (i := 9) (v := .int .i64 (e : Nat)) rfl (by kernel_rfl) (by kernel_rfl) (by kernel_rfl) (fun _ _ _ h => h) (Or.inl ⟨by rfl, (by intro w9 hSw; (try dsimp only at hSw); have c1_ : w9.cell? ⟨b5, 1, none⟩ = some (.int .i64 (e : Nat)) := (S3.out.up hSw).boxAt 1; go_simp)⟩) hHeld ?_
          (try simp only [Act.put, List.getElem_toArray, List.getElem_cons_zero, List.getElem_cons_succ, List.setIfInBounds_toArray, List.set_cons_zero, List.set_cons_succ])
          refine wpAnyH_take (i := 10) (v := .string (x.extract a e)) rfl (by kernel_rfl) (by kernel_rfl) (by kernel_rfl) (fun _ _ _ h => h) (Or.inl ⟨by rfl, by (intro w hSw; (try dsimp only at hSw); go_simp)⟩) hHeld ?_
          (try simp only [Act.put, List.getElem_toArray, List.getElem_cons_zero, List.getElem_cons_succ, List.setIfInBounds_toArray, List.set_cons_zero, List.set_cons_succ])
          refine wpAnyH_take (i := 11) (v := .agg #[.int .i64 (a : Nat), .int .i64 (e : Nat), .string (x.extract a e)]) rfl (by kernel_rfl) (by kernel_rfl) (by kernel_rfl) (fun _ _ _ h => h) (Or.inl ⟨by rfl, by (intro w hSw; (try dsimp only at hSw); go_simp)⟩) hHeld ?_
          (try simp only [Act.put, List.getElem_toArray, List.getElem_cons_zero, List.getElem_cons_succ, List.setIfInBounds_toArray, List.set_cons_zero, List.set_cons_succ])
          have HSTA : Hid (Sep w3.heap.size w3 w3.drew []) := Lib.hid (Sep.start w3).drew
          refine wpAnyH_ready (rs := [12, 17]) (by kernel_rfl) (by simp) ?_
          refine AllReadyH.cons rfl (fun K hK => ?_) (AllReadyH.cons rfl (fun K hK => ?_) AllReadyH.nil)
          · rw [if_pos (by rfl)]
            go_wp2_with fail
            refine (HED.out _ _ HSTA.out).mono ?_
            rintro _ z1 ⟨bq, bs, q1, q3, q4, e1, e3, e4, bT, bR, cnt, o1, o2, o3, o4, r1, r2, r3, r4, l1, l2, l3, l4, vs, J, rfl, hR⟩
            have HR := Lib.hid hR
            clear hR
            refine hK.out _ _ HR.out.sp.bel (fun hHeld2 => ?_)
            clear hHeld hK
            have hHeld := hHeld2
            clear hHeld2
            (try simp only [Act.put, List.getElem_toArray, List.getElem_cons_zero, List.getElem_cons_succ, List.setIfInBounds_toArray, List.set_cons_zero, List.set_cons_succ])
            refine wpAnyH_take (i := 13) (v := .tuple #[.pointer (some ⟨bq, 0, none⟩), .agg #[.slice q1 n1 e1, .slice (some ⟨bT, 0, none⟩) n2 n2, .slice q3 n3 e3, .slice q4 n4 e4, .int .i64 (n4 : Nat), .int .i64 0, .int .i64 cnt], .int .i64 0]) rfl (by kernel_rfl) (by kernel_rfl) (by kernel_rfl) (fun _ _ _ h => h) (Or.inl ⟨by rfl, by (intro w hSw; (try dsimp only at hSw); go_simp)⟩) hHeld ?_
            (try simp only [Act.put, List.getElem_toArray, List.getElem_cons_zero, List.getElem_cons_succ, List.setIfInBounds_toArray, List.set_cons_zero, List.set_cons_succ])
            refine wpAnyH_take (i := 14) (v := .pointer (some ⟨bq, 0, none⟩)) rfl (by kernel_rfl) (by kernel_rfl) (by kernel_rfl) (fun _ _ _ h => h) (Or.inl ⟨by rfl, by (intro w hSw; (try dsimp only at hSw); go_simp)⟩) hHeld ?_
            (try simp only [Act.put, List.getElem_toArray, List.getElem_cons_zero, List.getElem_cons_succ, List.setIfInBounds_toArray, List.set_cons_zero, List.set_cons_succ])
            refine wpAnyH_take (i := 15) (v := .agg #[.slice q1 n1 e1, .slice (some ⟨bT, 0, none⟩) n2 n2, .slice q3 n3 e3, .slice q4 n4 e4, .int .i64 (n4 : Nat), .int .i64 0, .int .i64 cnt]) rfl (by kernel_rfl) (by kernel_rfl) (by kernel_rfl) (fun _ _ _ h => h) (Or.inl ⟨by rfl, by (intro w hSw; (try dsimp only at hSw); go_simp)⟩) hHeld ?_
            (try simp only [Act.put, List.getElem_toArray, List.getElem_cons_zero, List.getElem_cons_succ, List.setIfInBounds_toArray, List.set_cons_zero, List.set_cons_succ])
            refine wpAnyH_take (i := 16) (v := .int .i64 0) rfl (by kernel_rfl) (by kernel_rfl) (by kernel_rfl) (fun _ _ _ h => h) (Or.inl ⟨by rfl, by (intro w hSw; (try dsimp only at hSw); go_simp)⟩) hHeld ?_
            (try simp only [Act.put, List.getElem_toArray, List.getElem_cons_zero, List.getElem_cons_succ, List.setIfInBounds_toArray, List.set_cons_zero, List.set_cons_succ])
            refine wpAnyH_ready (rs := [17]) (by kernel_rfl) (by simp) ?_
            refine AllReadyH.cons rfl (fun K hK => ?_) (AllReadyH.nil)
            rw [if_pos (by rfl)]
            go_wp2_with fail
            have T2 : Hid (Sep w3.heap.size w3 (z1.alloc (.cells zR7 51)) [.box z1.heap.size (.cells zR7 51)]) := Lib.hid ((HR.out.sp.alloc (.cells zR7 51)).sub (.cons_cons _ (List.nil_sublist _)))
            refine hK.out _ _ T2.out.bel (fun hHeld2 => ?_)
            clear hHeld hK
            have hHeld := hHeld2
            clear hHeld2
            (try simp only [Act.put, List.getElem_toArray, List.getElem_cons_zero, List.getElem_cons_succ, List.setIfInBounds_toArray, List.set_cons_zero, List.set_cons_succ])
            obtain ⟨z2, hz2⟩ : ∃ y, z1.alloc (.cells zR7 51) = y := ⟨_, rfl⟩
            have hb1 : Below z1.heap.size z1 z2 := by rw [← hz2]; exact (Below.refl _ _).alloc (Nat.le_refl _) _
            obtain ⟨b10, hb10⟩ : ∃ b, z1.heap.size = b := ⟨_, rfl⟩
            unfold zR7 at hz2 T2
            simp only [hb10, hz2] at T2 hb1 hHeld ⊢
            have hh : z2.heap[b10]? = some (.cells zR7 51 (0, 0)) := T2.out.at.2
            have x0 : z2.cell? ⟨b10, 0, none⟩ = some (.slice none 0 0) := cell_of_row z2 b10 0 _ 51 (0, 0) hh
            have x1 : z2.cell? ⟨b10, 1, none⟩ = some (.slice none 0 0) := cell_of_row z2 b10 1 _ 51 (0, 0) hh
            have x2 : z2.cell? ⟨b10, 2, none⟩ = some (.slice none 0 0) := cell_of_row z2 b10 2 _ 51 (0, 0) hh
            have x3 : z2.cell? ⟨b10, 3, none⟩ = some (.slice none 0 0) := cell_of_row z2 b10 3 _ 51 (0, 0) hh
            have x4 : z2.cell? ⟨b10, 4, none⟩ = some (.int .i64 0) := cell_of_row z2 b10 4 _ 51 (0, 0) hh
            have x5 : z2.cell? ⟨b10, 5, none⟩ = some (.int .i64 0) := cell_of_row z2 b10 5 _ 51 (0, 0) hh
            have x6 : z2.cell? ⟨b10, 6, none⟩ = some (.int .i64 0) := cell_of_row z2 b10 6 _ 51 (0, 0) hh
            have g0 : z2.frozen? ⟨b10, 0, none⟩ = false := frozen_of_row z2 b10 0 _ 51 hh
            have g1 : z2.frozen? ⟨b10, 1, none⟩ = false := frozen_of_row z2 b10 1 _ 51 hh
            have g2 : z2.frozen? ⟨b10, 2, none⟩ = false := frozen_of_row z2 b10 2 _ 51 hh
            have g3 : z2.frozen? ⟨b10, 3, none⟩ = false := frozen_of_row z2 b10 3 _ 51 hh
            have g4 : z2.frozen? ⟨b10, 4, none⟩ = false := frozen_of_row z2 b10 4 _ 51 hh
            have g5 : z2.frozen? ⟨b10, 5, none⟩ = false := frozen_of_row z2 b10 5 _ 51 hh
            have g6 : z2.frozen? ⟨b10, 6, none⟩ = false := frozen_of_row z2 b10 6 _ 51 hh
            have T8 := Lib.hid (((((((T2.out.setAt ([]) 0 (.slice q1 n1 e1)).setAt ([]) 1 (.slice (some ⟨bT, 0, none⟩) n2 n2)).setAt ([]) 2 (.slice q3 n3 e3)).setAt ([]) 3 (.slice q4 n4 e4)).setAt ([]) 4 (.int .i64 (n4 : Nat))).setAt ([]) 5 (.int .i64 0)).setAt ([]) 6 (.int .i64 cnt))
            refine wpAnyH_take (i := 18) (v := .pointer (some ⟨bq, 0, none⟩)) rfl (by kernel_rfl) (by kernel_rfl) (by kernel_rfl) (fun _ _ _ h => h) (Or.inl ⟨by rfl, by (intro w hSw; (try dsimp only at hSw); go_simp)⟩) hHeld ?_
            (try simp only [Act.put, List.getElem_toArray, List.getElem_cons_zero, List.getElem_cons_succ, List.setIfInBounds_toArray, List.set_cons_zero, List.set_cons_succ])
            have HR2 := Lib.hid (HR.out.up (by rw [hb10]; exact (((((((hb1.setCell (p := ⟨b10, 0, none⟩) (Nat.le_refl _) (.slice q1 n1 e1)).setCell (p := ⟨b10, 1, none⟩) (Nat.le_refl _) (.slice (some ⟨bT, 0, none⟩) n2 n2)).setCell (p := ⟨b10, 2, none⟩) (Nat.le_refl _) (.slice q3 n3 e3)).setCell (p := ⟨b10, 3, none⟩) (Nat.le_refl _) (.slice q4 n4 e4)).setCell (p := ⟨b10, 4, none⟩) (Nat.le_refl _) (.int .i64 (n4 : Nat))).setCell (p := ⟨b10, 5, none⟩) (Nat.le_refl _) (.int .i64 0)).setCell (p := ⟨b10, 6, none⟩) (Nat.le_refl _) (.int .i64 cnt))))
            refine wpAnyH_ready (rs := [19]) (by kernel_rfl) (by simp) ?_
            refine AllReadyH.cons rfl (fun K hK => ?_) (AllReadyH.nil)
            rw [if_pos (by rfl)]
            go_wp2_with fail
            refine hK.out _ _ T8.out.bel (fun hHeld2 => ?_)
            clear hHeld hK
            have hHeld := hHeld2
            clear hHeld2
            (try simp only [Act.put, List.getElem_toArray, List.getElem_cons_zero, List.getElem_cons_succ, List.setIfInBounds_toArray, List.set_cons_zero, List.set_cons_succ])
            refine wpAnyH_take (i := 20) (v := .int .i64 0) rfl (by kernel_rfl) (by kernel_rfl) (by kernel_rfl) (fun _ _ _ h => h) (Or.inl ⟨by rfl, by (intro w hSw; (try dsimp only at hSw); go_simp)⟩) hHeld ?_
            (try simp only [Act.put, List.getElem_toArray, List.getElem_cons_zero, List.getElem_cons_succ, List.setIfInBounds_toArray, List.set_cons_zero, List.set_cons_succ])
            refine wpAnyH_done (by kernel_rfl) ?_ _
            clear hHeld
            go_wp2_with fail
            go_meet
            case rel => exact ⟨bq, b10, q1, q3, q4, e1, e3, e4, bT, cnt, rfl, rfl, rfl, Lib.hid HR2.out.sc, Lib.hid HR2.out.lv, T8⟩
          · rw [if_pos (by rfl)]
            go_wp2_with fail
            have T0 : Hid (Sep w3.heap.size w3 ((w3.alloc (.cells zR7 51)).drew) [.box w3.heap.size (.cells zR7 51)]) := Lib.hid ((Sep.start w3).alloc (.cells zR7 51)).drew
            refine hK.out _ _ T0.out.bel (fun hHeld2 => ?_)
            clear hHeld hK
            have hHeld := hHeld2
            clear hHeld2
            (try simp only [Act.put, List.getElem_toArray, List.getElem_cons_zero, List.getElem_cons_succ, List.setIfInBounds_toArray, List.set_cons_zero, List.set_cons_succ])
            obtain ⟨z0, hz0⟩ : ∃ y, (w3.alloc (.cells zR7 51)).drew = y := ⟨_, rfl⟩
            unfold zR7 at hz0 T0
            simp only [hz0] at T0 hHeld ⊢
            refine wpAnyH_ready (rs := [12]) (by kernel_rfl) (by simp) ?_
            refine AllReadyH.cons rfl (fun K hK => ?_) (AllReadyH.nil)
            rw [if_pos (by rfl)]
            go_wp2_with fail
            refine (HED.out _ _ T0.out).mono ?_
            rintro _ z1 ⟨bq, bs, q1, q3, q4, e1, e3, e4, bT, bR, cnt, o1, o2, o3, o4, r1, r2, r3, r4, l1, l2, l3, l4, vs, J, rfl, hR⟩
            have HR := Lib.hid hR
            clear hR
            refine hK.out _ _ HR.out.sp.bel (fun hHeld2 => ?_)
            clear hHeld hK
            have hHeld := hHeld2
            clear hHeld2
            (try simp only [Act.put, List.getElem_toArray, List.getElem_cons_zero, List.getElem_cons_succ, List.setIfInBounds_toArray, List.set_cons_zero, List.set_cons_succ])
            refine wpAnyH_take (i := 13) (v := .tuple #[.pointer (some ⟨bq, 0, none⟩), .agg #[.slice q1 n1 e1, .slice (some ⟨bT, 0, none⟩) n2 n2, .slice q3 n3 e3, .slice q4 n4 e4, .int .i64 (n4 : Nat), .int .i64 0, .int .i64 cnt], .int .i64 0]) rfl (by kernel_rfl) (by kernel_rfl) (by kernel_rfl) (fun _ _ _ h => h) (Or.inl ⟨by rfl, by (intro w hSw; (try dsimp only at hSw); go_simp)⟩) hHeld ?_
            (try simp only [Act.put, List.getElem_toArray, List.getElem_cons_zero, List.getElem_cons_succ, List.setIfInBounds_toArray, List.set_cons_zero, List.set_cons_succ])
            refine wpAnyH_take (i := 14) (v := .pointer (some ⟨bq, 0, none⟩)) rfl (by kernel_rfl) (by kernel_rfl) (by kernel_rfl) (fun _ _ _ h => h) (Or.inl ⟨by rfl, by (intro w hSw; (try dsimp only at hSw); go_simp)⟩) hHeld ?_
            (try simp only [Act.put, List.getElem_toArray, List.getElem_cons_zero, List.getElem_cons_succ, List.setIfInBounds_toArray, List.set_cons_zero, List.set_cons_succ])
            refine wpAnyH_take (i := 15) (v := .agg #[.slice q1 n1 e1, .slice (some ⟨bT, 0, none⟩) n2 n2, .slice q3 n3 e3, .slice q4 n4 e4, .int .i64 (n4 : Nat), .int .i64 0, .int .i64 cnt]) rfl (by kernel_rfl) (by kernel_rfl) (by kernel_rfl) (fun _ _ _ h => h) (Or.inl ⟨by rfl, by (intro w hSw; (try dsimp only at hSw); go_simp)⟩) hHeld ?_
            (try simp only [Act.put, List.getElem_toArray, List.getElem_cons_zero, List.getElem_cons_succ, List.setIfInBounds_toArray, List.set_cons_zero, List.set_cons_succ])
            refine wpAnyH_take (i := 16) (v := .int .i64 0) rfl (by kernel_rfl) (by kernel_rfl) (by kernel_rfl) (fun _ _ _ h => h) (Or.inl ⟨by rfl, by (intro w hSw; (try dsimp only at hSw); go_simp)⟩) hHeld ?_
            (try simp only [Act.put, List.getElem_toArray, List.getElem_cons_zero, List.getElem_cons_succ, List.setIfInBounds_toArray, List.set_cons_zero, List.set_cons_succ])
            have hh : z1.heap[w3.heap.size]? = some (.cells zR7 51 (0, 0)) := (HR.out.sp.li (.box w3.heap.size (.cells zR7 51 (0, 0))) (by simp)).2
            have x0 : z1.cell? ⟨w3.heap.size, 0, none⟩ = some (.slice none 0 0) := cell_of_row z1 w3.heap.size 0 _ 51 (0, 0) hh
            have x1 : z1.cell? ⟨w3.heap.size, 1, none⟩ = some (.slice none 0 0) := cell_of_row z1 w3.heap.size 1 _ 51 (0, 0) hh
            have x2 : z1.cell? ⟨w3.heap.size, 2, none⟩ = some (.slice none 0 0) := cell_of_row z1 w3.heap.size 2 _ 51 (0, 0) hh
            have x3 : z1.cell? ⟨w3.heap.size, 3, none⟩ = some (.slice none 0 0) := cell_of_row z1 w3.heap.size 3 _ 51 (0, 0) hh
            have x4 : z1.cell? ⟨w3.heap.size, 4, none⟩ = some (.int .i64 0) := cell_of_row z1 w3.heap.size 4 _ 51 (0, 0) hh
            have x5 : z1.cell? ⟨w3.heap.size, 5, none⟩ = some (.int .i64 0) := cell_of_row z1 w3.heap.size 5 _ 51 (0, 0) hh
            have x6 : z1.cell? ⟨w3.heap.size, 6, none⟩ = some (.int .i64 0) := cell_of_row z1 w3.heap.size 6 _ 51 (0, 0) hh
            have g0 : z1.frozen? ⟨w3.heap.size, 0, none⟩ = false := frozen_of_row z1 w3.heap.size 0 _ 51 hh
            have g1 : z1.frozen? ⟨w3.heap.size, 1, none⟩ = false := frozen_of_row z1 w3.heap.size 1 _ 51 hh
            have g2 : z1.frozen? ⟨w3.heap.size, 2, none⟩ = false := frozen_of_row z1 w3.heap.size 2 _ 51 hh
            have g3 : z1.frozen? ⟨w3.heap.size, 3, none⟩ = false := frozen_of_row z1 w3.heap.size 3 _ 51 hh
            have g4 : z1.frozen? ⟨w3.heap.size, 4, none⟩ = false := frozen_of_row z1 w3.heap.size 4 _ 51 hh
            have g5 : z1.frozen? ⟨w3.heap.size, 5, none⟩ = false := frozen_of_row z1 w3.heap.size 5 _ 51 hh
            have g6 : z1.frozen? ⟨w3.heap.size, 6, none⟩ = false := frozen_of_row z1 w3.heap.size 6 _ 51 hh
            have T8 := Lib.hid (((((((HR.out.sp.setAt (_ :: _ :: _ :: _ :: _ :: _ :: _ :: _ :: _ :: _ :: J) 0 (.slice q1 n1 e1)).setAt (_ :: _ :: _ :: _ :: _ :: _ :: _ :: _ :: _ :: _ :: J) 1 (.slice (some ⟨bT, 0, none⟩) n2 n2)).setAt (_ :: _ :: _ :: _ :: _ :: _ :: _ :: _ :: _ :: _ :: J) 2 (.slice q3 n3 e3)).setAt (_ :: _ :: _ :: _ :: _ :: _ :: _ :: _ :: _ :: _ :: J) 3 (.slice q4 n4 e4)).setAt (_ :: _ :: _ :: _ :: _ :: _ :: _ :: _ :: _ :: _ :: J) 4 (.int .i64 (n4 : Nat))).setAt (_ :: _ :: _ :: _ :: _ :: _ :: _ :: _ :: _ :: _ :: J) 5 (.int .i64 0)).setAt (_ :: _ :: _ :: _ :: _ :: _ :: _ :: _ :: _ :: _ :: J) 6 (.int .i64 cnt))
            refine wpAnyH_take (i := 18) (v := .pointer (some ⟨bq, 0, none⟩)) rfl (by kernel_rfl) (by kernel_rfl) (by kernel_rfl) (fun _ _ _ h => h) (Or.inl ⟨by rfl, by (intro w hSw; (try dsimp only at hSw); go_simp)⟩) hHeld ?_
            (try simp only [Act.put, List.getElem_toArray, List.getElem_cons_zero, List.getElem_cons_succ, List.setIfInBounds_toArray, List.set_cons_zero, List.set_cons_succ])
            refine wpAnyH_ready (rs := [19]) (by kernel_rfl) (by simp) ?_
            refine AllReadyH.cons rfl (fun K hK => ?_) (AllReadyH.nil)
            rw [if_pos (by rfl)]
            go_wp2_with fail
            refine hK.out _ _ T8.out.bel (fun hHeld2 => ?_)
            clear hHeld hK
            have hHeld := hHeld2
            clear hHeld2
            (try simp only [Act.put, List.getElem_toArray, List.getElem_cons_zero, List.getElem_cons_succ, List.setIfInBounds_toArray, List.set_cons_zero, List.set_cons_succ])
            refine wpAnyH_take (i := 20) (v := .int .i64 0) rfl (by kernel_rfl) (by kernel_rfl) (by kernel_rfl) (fun _ _ _ h => h) (Or.inl ⟨by rfl, by (intro w hSw; (try dsimp only at hSw); go_simp)⟩) hHeld ?_
            (try simp only [Act.put, List.getElem_toArray, List.getElem_cons_zero, List.getElem_cons_succ, List.setIfInBounds_toArray, List.set_cons_zero, List.set_cons_succ])
            refine wpAnyH_done (by kernel_rfl) ?_ _
            clear hHeld
            go_wp2_with fail
            go_meet
            have hend : ∀ y8, Sep w3.heap.size w3 y8 (.box bq (.cells (qV bs x r1 r2 r3 r4 (scL d kl x).length l1 (scX d kl x).marks.length l2 (scX d kl x).counts.length l3 (scX d kl x).toks.length l4) 49 (0, 0)) :: cpI q1 q3 q4 e1 e3 e4 bT bR (scL d kl x) (scX d kl x) (xI o1 o2 o3 o4 (.slice r1 (scL d kl x).length l1) (.slice r2 (scX d kl x).marks.length l2) (.slice r3 (scX d kl x).counts.length l3) (.slice r4 (scX d kl x).toks.length l4) (scL d kl x) vs (scX d kl x).marks (scX d kl x).counts (scX d kl x).toks (J ++ [.box w3.heap.size (.cells #[.slice q1 n1 e1, .slice (some ⟨bT, 0, none⟩) n2 n2, .slice q3 n3 e3, .slice q4 n4 e4, .int .i64 (n4 : Nat), .int .i64 0, .int .i64 cnt] 51 (0, 0))]))) → Hid (ScV y8.heap.size y8 bq d kl x) ∧ Hid (LV y8.heap.size y8 (scL d kl x) (scX d kl x) q1 (some ⟨bT, 0, none⟩) q3 q4 e1 (scX d kl x).marks.length e3 e4) ∧ Hid (Sep w3.heap.size w3 y8 [.box w3.heap.size (.cells #[.slice q1 n1 e1, .slice (some ⟨bT, 0, none⟩) n2 n2, .slice q3 n3 e3, .slice q4 n4 e4, .int .i64 (n4 : Nat), .int .i64 0, .int .i64 cnt] 51 (0, 0))]) := fun y8 h => by
              have h5 := HR.out.re (XF' := [.box w3.heap.size (.cells #[.slice q1 n1 e1, .slice (some ⟨bT, 0, none⟩) n2 n2, .slice q3 n3 e3, .slice q4 n4 e4, .int .i64 (n4 : Nat), .int .i64 0, .int .i64 cnt] 51 (0, 0))]) (fun v l hv => by simpa using hv) h
              exact ⟨Lib.hid h5.sc, Lib.hid h5.lv, Lib.hid (h.sub (List.singleton_sublist.2 (by simp)))⟩
            case rel => exact ⟨bq, _, q1, q3, q4, e1, e3, e4, bT, cnt, rfl, rfl, rfl, hend _ T8.out⟩
        case rest =>
          obtain ⟨bq, b10, q1, q3, q4, e1, e3, e4, bT, cnt, rfl, rfl, rfl, HSB, HLV, T9⟩ := hcut
          obtain ⟨y5, rfl⟩ : ∃ y : World, y = wc := ⟨_, rfl⟩
          have hb35 := T9.out.bel
          have HLX : Hid (Calls Try.prog 18 #[.pointer (some ⟨bS, 0, none⟩)] y5 fun r w' => ∃ u1 u3 u4 i1 i3 i4 bU bV, r = .returned (.agg #[.slice u1 n1 i1, .slice (some ⟨bU, 0, none⟩) n2 n2, .slice u3 n3 i3, .slice u4 n4 i4]) ∧ Sep y5.heap.size y5 w' (cpI u1 u3 u4 i1 i3 i4 bU bV (scL d kl x) (scX d kl x) [])) := Lib.hid (by
            refine (lexed_any (B := y5.heap.size) (w0 := y5) (Nat.le_refl _) (HSC.out.up hb35.size (Nat.le_refl _) hb35) HF.out (Sep.start y5)).mono ?_
            intro r w' h
            obtain ⟨u1, u3, u4, i1, i3, i4, bU, bV, rfl, hs⟩ := h.cq
            refine ⟨u1, u3, u4, i1, i3, i4, bU, bV, ?_, hs⟩
            rw [cpV, HNN.out.1, HNN.out.2.1, HNN.out.2.2.1, HNN.out.2.2.2])
          clear hb35
          go_wp2_with fail
          refine HLX.out.mono ?_
          rintro _ y6 ⟨u1, u3, u4, i1, i3, i4, bU, bV, rfl, hs6⟩
          have T10 := Lib.hid (T9.out.up hs6.bel)
          have HLV6 := Lib.hid (cp_lv hs6)
          have HB56 := Lib.hid hs6.bel
          have HSB6 := Lib.hid (HSB.out.up hs6.bel.size (Nat.le_refl _) hs6.bel)
          clear hs6 HLX
          obtain ⟨b12, hb12⟩ : ∃ b, y6.heap.size = b := ⟨_, rfl⟩
          have T11 := Lib.hid (And.intro (T10.out.allocAt hb12 (.cells #[.slice u1 n1 i1, .slice (some ⟨bU, 0, none⟩) n2 n2, .slice u3 n3 i3, .slice u4 n4 i4] 28)) ((Below.refl y6.heap.size y6).alloc (Nat.le_refl _) (.cells #[.slice u1 n1 i1, .slice (some ⟨bU, 0, none⟩) n2 n2, .slice u3 n3 i3, .slice u4 n4 i4] 28)))
          go_upto_region 10 with fail
          refine at_world (fun y => Sep w3.heap.size w3 y [.box b12 (.cells #[.slice u1 n1 i1, .slice (some ⟨bU, 0, none⟩) n2 n2, .slice u3 n3 i3, .slice u4 n4 i4] 28 (0, 0)), .box b10 (.cells #[.slice q1 n1 e1, .slice (some ⟨bT, 0, none⟩) n2 n2, .slice q3 n3 e3, .slice q4 n4 e4, .int .i64 (n4 : Nat), .int .i64 0, .int .i64 cnt] 51 (0, 0))] ∧ Below y6.heap.size y6 y) T11.out fun y7 hy => ?_
          have T12 := Lib.hid hy
          clear hy T11 hb12
          have HXX : Hid (LV y6.heap.size y6 (scL d kl x) (scX d kl x) q1 (some ⟨bT, 0, none⟩) q3 q4 e1 (scX d kl x).marks.length e3 e4) := Lib.hid (HLV.out.up HB56.out.size HB56.out)
          have HSAME : Hid (∀ z, Below y6.heap.size y6 z → Calls Try.prog 11 #[.agg #[.slice q1 n1 e1, .slice (some ⟨bT, 0, none⟩) n2 n2, .slice q3 n3 e3, .slice q4 n4 e4], .agg #[.slice u1 n1 i1, .slice (some ⟨bU, 0, none⟩) n2 n2, .slice u3 n3 i3, .slice u4 n4 i4]] z fun e w' => e = .returned (.bool true) ∧ Below z.heap.size z w') := Lib.hid (fun z hz => by
            have hl := HF.out.lens
            have h := samelx_any (w := z) hz.size hz.size (HXX.out.up (Nat.le_refl _) hz) (HLV6.out.up (Nat.le_refl _) hz) (by have := hl.l1; omega) (by have h1 := hl.l1; have h2 := hl.l2; rw [h2]; omega) (by have h1 := hl.l1; have h2 := hl.l3; rw [h2]; omega) (Nat.le_trans hl.l4 (by decide)) (fun m hm => Nat.le_trans (HF.out.mks.1 m hm).len (by decide))
            rw [HNN.out.1, HNN.out.2.1, HNN.out.2.2.1, HNN.out.2.2.2] at h
            exact h)
          have HLX2 : Hid (∀ z, Below y6.heap.size y6 z → Calls Try.prog 18 #[.pointer (some ⟨bq, 0, none⟩)] z fun r w' => ∃ k1 k3 k4 j1 j3 j4 bZ bW, r = .returned (.agg #[.slice k1 n1 j1, .slice (some ⟨bZ, 0, none⟩) n2 n2, .slice k3 n3 j3, .slice k4 n4 j4]) ∧ Below z.heap.size z w' ∧ LV w'.heap.size w' (scL d kl x) (scX d kl x) k1 (some ⟨bZ, 0, none⟩) k3 k4 j1 (scX d kl x).marks.length j3 j4) := Lib.hid (fun z hz => by
            refine (lexed_any (B := z.heap.size) (w0 := z) (Nat.le_refl _) (HSB6.out.up hz.size (Nat.le_refl _) hz) HF.out (Sep.start z)).mono ?_
            intro r w' h
            obtain ⟨k1, k3, k4, j1, j3, j4, bZ, bW, rfl, hs⟩ := h.cq
            refine ⟨k1, k3, k4, j1, j3, j4, bZ, bW, ?_, hs.bel, cp_lv hs⟩
            rw [cpV, HNN.out.1, HNN.out.2.1, HNN.out.2.2.1, HNN.out.2.2.2])
          have HS7 : Hid ((fun z => Sep w3.heap.size w3 z [.box b12 (.cells #[.slice u1 n1 i1, .slice (some ⟨bU, 0, none⟩) n2 n2, .slice u3 n3 i3, .slice u4 n4 i4] 28 (0, 0)), .box b10 (.cells #[.slice q1 n1 e1, .slice (some ⟨bT, 0, none⟩) n2 n2, .slice q3 n3 e3, .slice q4 n4 e4, .int .i64 (n4 : Nat), .int .i64 0, .int .i64 cnt] 51 (0, 0))] ∧ Below y6.heap.size y6 z) y7.drew) := Lib.hid ⟨T12.out.1.drew, below_drewN T12.out.2 1⟩
          refine wp_region_held_drew (S := fun z => Sep w3.heap.size w3 z [.box b12 (.cells #[.slice u1 n1 i1, .slice (some ⟨bU, 0, none⟩) n2 n2, .slice u3 n3 i3, .slice u4 n4 i4] 28 (0, 0)), .box b10 (.cells #[.slice q1 n1 e1, .slice (some ⟨bT, 0, none⟩) n2 n2, .slice q3 n3 e3, .slice q4 n4 e4, .int .i64 (n4 : Nat), .int .i64 0, .int .i64 cnt] 51 (0, 0))] ∧ Below y6.heap.size y6 z) (by kernel_rfl) HS7.out (fun hHeld => ?_)
          refine wpAnyH_take (i := 0) (v := .pointer (some ⟨bq, 0, none⟩)) rfl (by kernel_rfl) (by kernel_rfl) (by kernel_rfl) (fun _ _ _ h => h) (Or.inl ⟨by rfl, by (intro w hSw; (try dsimp only at hSw); go_simp)⟩) hHeld ?_
          (try simp only [Act.put, List.getElem_toArray, List.getElem_cons_zero, List.getElem_cons_succ, List.setIfInBounds_toArray, List.set_cons_zero, List.set_cons_succ])
          refine wpAnyH_take (i := 2) (v := .string x) rfl (by kernel_rfl) (by kernel_rfl) (by kernel_rfl) (fun _ _ _ h => h) (Or.inl ⟨by rfl, by (intro w hSw; (try dsimp only at hSw); go_simp)⟩) hHeld ?_
          (try simp only [Act.put, List.getElem_toArray, List.getElem_cons_zero, List.getElem_cons_succ, List.setIfInBounds_toArray, List.set_cons_zero, List.set_cons_succ])
          refine wpAnyH_ready (rs := [1]) (by kernel_rfl) (by simp) ?_
          refine AllReadyH.cons rfl (fun K hK => ?_) (AllReadyH.nil)
          rw [if_pos (by rfl)]
          go_wp2_with fail
          refine (text_any (HSB6.out.up HS7.out.2.size (Nat.le_refl _) HS7.out.2)).mono ?_
          rintro _ z_0 ⟨rfl, rfl⟩
          refine hK.out _ _ HS7.out (fun hHeld2 => ?_)
          clear hHeld hK
          have hHeld := hHeld2
          clear hHeld2
          (try simp only [Act.put, List.getElem_toArray, List.getElem_cons_zero, List.getElem_cons_succ, List.setIfInBounds_toArray, List.set_cons_zero, List.set_cons_succ])
          refine wpAnyH_take (i := 3) (v := .bool true) rfl (by kernel_rfl) (by kernel_rfl) (by kernel_rfl) (fun _ _ _ h => h) (Or.inl ⟨by rfl, by (intro w hSw; (try dsimp only at hSw); go_simp)⟩) hHeld ?_
          (try simp only [Act.put, List.getElem_toArray, List.getElem_cons_zero, List.getElem_cons_succ, List.setIfInBounds_toArray, List.set_cons_zero, List.set_cons_succ])
          refine wpAnyH_take (i := 4) (v := .bool true) rfl (by kernel_rfl) (by kernel_rfl) (by kernel_rfl) (fun _ _ _ h => h) (Or.inl ⟨by rfl, by (intro w hSw; (try dsimp only at hSw); go_simp)⟩) hHeld ?_
          (try simp only [Act.put, List.getElem_toArray, List.getElem_cons_zero, List.getElem_cons_succ, List.setIfInBounds_toArray, List.set_cons_zero, List.set_cons_succ])
          refine wpAnyH_take (i := 5) (v := .pointer (some ⟨b10, 0, none⟩)) rfl (by kernel_rfl) (by kernel_rfl) (by kernel_rfl) (fun _ _ _ h => h) (Or.inl ⟨by rfl, by (intro w hSw; (try dsimp only at hSw); go_simp)⟩) hHeld ?_
          (try simp only [Act.put, List.getElem_toArray, List.getElem_cons_zero, List.getElem_cons_succ, List.setIfInBounds_toArray, List.set_cons_zero, List.set_cons_succ])
          refine wpAnyH_take (i := 6) (v := .agg #[.slice q1 n1 e1, .slice (some ⟨bT, 0, none⟩) n2 n2, .slice q3 n3 e3, .slice q4 n4 e4]) rfl (by kernel_rfl) (by kernel_rfl) (by kernel_rfl) (fun _ _ _ h => h) (Or.inl ⟨by rfl, (by intro w9 hSw; (try dsimp only at hSw); obtain ⟨hs1, hs2⟩ := hSw; have c0_ := hs1.tl.boxAt 0; have c1_ := hs1.tl.boxAt 1; have c2_ := hs1.tl.boxAt 2; have c3_ := hs1.tl.boxAt 3; simp only [List.getElem?_toArray, List.getElem?_cons_zero, List.getElem?_cons_succ] at c0_ c1_ c2_ c3_; go_simp)⟩) hHeld ?_
          (try simp only [Act.put, List.getElem_toArray, List.getElem_cons_zero, List.getElem_cons_succ, List.setIfInBounds_toArray, List.set_cons_zero, List.set_cons_succ])
          refine wpAnyH_take (i := 7) (v := .agg #[.slice u1 n1 i1, .slice (some ⟨bU, 0, none⟩) n2 n2, .slice u3 n3 i3, .slice u4 n4 i4]) rfl (by kernel_rfl) (by kernel_rfl) (by kernel_rfl) (fun _ _ _ h => h) (Or.inl ⟨by rfl, (by intro w9 hSw; (try dsimp only at hSw); obtain ⟨hs1, hs2⟩ := hSw; have c0_ := hs1.boxAt 0; have c1_ := hs1.boxAt 1; have c2_ := hs1.boxAt 2; have c3_ := hs1.boxAt 3; simp only [List.getElem?_toArray, List.getElem?_cons_zero, List.getElem?_cons_succ] at c0_ c1_ c2_ c3_; go_simp)⟩) hHeld ?_
          (try simp only [Act.put, List.getElem_toArray, List.getElem_cons_zero, List.getElem_cons_succ, List.setIfInBounds_toArray, List.set_cons_zero, List.set_cons_succ])
          refine wpAnyH_ready (rs := [8]) (by kernel_rfl) (by simp) ?_
          refine AllReadyH.cons rfl (fun K hK => ?_) (AllReadyH.nil)
          rw [if_pos (by rfl)]
          go_wp2_with fail
          refine (HSAME.out _ HS7.out.2).mono ?_
          rintro _ z_U1 ⟨rfl, hb⟩
          have U1 : Hid ((fun z => Sep w3.heap.size w3 z [.box b12 (.cells #[.slice u1 n1 i1, .slice (some ⟨bU, 0, none⟩) n2 n2, .slice u3 n3 i3, .slice u4 n4 i4] 28 (0, 0)), .box b10 (.cells #[.slice q1 n1 e1, .slice (some ⟨bT, 0, none⟩) n2 n2, .slice q3 n3 e3, .slice q4 n4 e4, .int .i64 (n4 : Nat), .int .i64 0, .int .i64 cnt] 51 (0, 0))] ∧ Below y6.heap.size y6 z) z_U1) := Lib.hid ⟨HS7.out.1.up hb, HS7.out.2.trans (hb.mono HS7.out.2.size)⟩
          refine hK.out _ _ U1.out (fun hHeld2 => ?_)
          clear hHeld hK
          have hHeld := hHeld2
          clear hHeld2
          (try simp only [Act.put, List.getElem_toArray, List.getElem_cons_zero, List.getElem_cons_succ, List.setIfInBounds_toArray, List.set_cons_zero, List.set_cons_succ])
          clear hb
          refine wpAnyH_take (i := 9) (v := .bool true) rfl (by kernel_rfl) (by kernel_rfl) (by kernel_rfl) (fun _ _ _ h => h) (Or.inl ⟨by rfl, by (intro w hSw; (try dsimp only at hSw); go_simp)⟩) hHeld ?_
          (try simp only [Act.put, List.getElem_toArray, List.getElem_cons_zero, List.getElem_cons_succ, List.setIfInBounds_toArray, List.set_cons_zero, List.set_cons_succ])
          refine wpAnyH_take (i := 10) (v := .bool true) rfl (by kernel_rfl) (by kernel_rfl) (by kernel_rfl) (fun _ _ _ h => h) (Or.inl ⟨by rfl, by (intro w hSw; (try dsimp only at hSw); go_simp)⟩) hHeld ?_
          (try simp only [Act.put, List.getElem_toArray, List.getElem_cons_zero, List.getElem_cons_succ, List.setIfInBounds_toArray, List.set_cons_zero, List.set_cons_succ])
          refine wpAnyH_take (i := 11) (v := .pointer (some ⟨bq, 0, none⟩)) rfl (by kernel_rfl) (by kernel_rfl) (by kernel_rfl) (fun _ _ _ h => h) (Or.inl ⟨by rfl, by (intro w hSw; (try dsimp only at hSw); go_simp)⟩) hHeld ?_
          (try simp only [Act.put, List.getElem_toArray, List.getElem_cons_zero, List.getElem_cons_succ, List.setIfInBounds_toArray, List.set_cons_zero, List.set_cons_succ])
          refine wpAnyH_take (i := 13) (v := .agg #[.slice u1 n1 i1, .slice (some ⟨bU, 0, none⟩) n2 n2, .slice u3 n3 i3, .slice u4 n4 i4]) rfl (by kernel_rfl) (by kernel_rfl) (by kernel_rfl) (fun _ _ _ h => h) (Or.inl ⟨by rfl, (by intro w9 hSw; (try dsimp only at hSw); obtain ⟨hs1, hs2⟩ := hSw; have c0_ := hs1.boxAt 0; have c1_ := hs1.boxAt 1; have c2_ := hs1.boxAt 2; have c3_ := hs1.boxAt 3; simp only [List.getElem?_toArray, List.getElem?_cons_zero, List.getElem?_cons_succ] at c0_ c1_ c2_ c3_; go_simp)⟩) hHeld ?_
          (try simp only [Act.put, List.getElem_toArray, List.getElem_cons_zero, List.getElem_cons_succ, List.setIfInBounds_toArray, List.set_cons_zero, List.set_cons_succ])
          refine wpAnyH_ready (rs := [12]) (by kernel_rfl) (by simp) ?_
          refine AllReadyH.cons rfl (fun K hK => ?_) (AllReadyH.nil)
          rw [if_pos (by rfl)]
          go_wp2_with fail
          refine (HLX2.out _ U1.out.2).mono ?_
          rintro _ z_U2 ⟨k1, k3, k4, j1, j3, j4, bZ, bW, rfl, hb, hlz⟩
          have HLZ := Lib.hid hlz
          clear hlz
          have U2 : Hid ((fun z => Sep w3.heap.size w3 z [.box b12 (.cells #[.slice u1 n1 i1, .slice (some ⟨bU, 0, none⟩) n2 n2, .slice u3 n3 i3, .slice u4 n4 i4] 28 (0, 0)), .box b10 (.cells #[.slice q1 n1 e1, .slice (some ⟨bT, 0, none⟩) n2 n2, .slice q3 n3 e3, .slice q4 n4 e4, .int .i64 (n4 : Nat), .int .i64 0, .int .i64 cnt] 51 (0, 0))] ∧ Below y6.heap.size y6 z) z_U2) := Lib.hid ⟨U1.out.1.up hb, U1.out.2.trans (hb.mono U1.out.2.size)⟩
          refine hK.out _ _ U2.out (fun hHeld2 => ?_)
          clear hHeld hK
          have hHeld := hHeld2
          clear hHeld2
          (try simp only [Act.put, List.getElem_toArray, List.getElem_cons_zero, List.getElem_cons_succ, List.setIfInBounds_toArray, List.set_cons_zero, List.set_cons_succ])
          clear hb
          have HSAME2 : Hid (Calls Try.prog 11 #[.agg #[.slice k1 n1 j1, .slice (some ⟨bZ, 0, none⟩) n2 n2, .slice k3 n3 j3, .slice k4 n4 j4], .agg #[.slice u1 n1 i1, .slice (some ⟨bU, 0, none⟩) n2 n2, .slice u3 n3 i3, .slice u4 n4 i4]] z_U2 fun e w' => e = .returned (.bool true) ∧ Below z_U2.heap.size z_U2 w') := Lib.hid (by
            have hl := HF.out.lens
            have h := samelx_any (w := z_U2) (Nat.le_refl _) U2.out.2.size HLZ.out (HLV6.out.up (Nat.le_refl _) U2.out.2) (by have := hl.l1; omega) (by have h1 := hl.l1; have h2 := hl.l2; rw [h2]; omega) (by have h1 := hl.l1; have h2 := hl.l3; rw [h2]; omega) (Nat.le_trans hl.l4 (by decide)) (fun m hm => Nat.le_trans (HF.out.mks.1 m hm).len (by decide))
            rw [HNN.out.1, HNN.out.2.1, HNN.out.2.2.1, HNN.out.2.2.2] at h
            exact h)
          refine wpAnyH_ready (rs := [14]) (by kernel_rfl) (by simp) ?_
          refine AllReadyH.cons rfl (fun K hK => ?_) (AllReadyH.nil)
          rw [if_pos (by rfl)]
          go_wp2_with fail
          refine HSAME2.out.mono ?_
          rintro _ z_U3 ⟨rfl, hb⟩
          have U3 : Hid ((fun z => Sep w3.heap.size w3 z [.box b12 (.cells #[.slice u1 n1 i1, .slice (some ⟨bU, 0, none⟩) n2 n2, .slice u3 n3 i3, .slice u4 n4 i4] 28 (0, 0)), .box b10 (.cells #[.slice q1 n1 e1, .slice (some ⟨bT, 0, none⟩) n2 n2, .slice q3 n3 e3, .slice q4 n4 e4, .int .i64 (n4 : Nat), .int .i64 0, .int .i64 cnt] 51 (0, 0))] ∧ Below y6.heap.size y6 z) z_U3) := Lib.hid ⟨U2.out.1.up hb, U2.out.2.trans (hb.mono U2.out.2.size)⟩
          refine hK.out _ _ U3.out (fun hHeld2 => ?_)
          clear hHeld hK
          have hHeld := hHeld2
          clear hHeld2
          (try simp only [Act.put, List.getElem_toArray, List.getElem_cons_zero, List.getElem_cons_succ, List.setIfInBounds_toArray, List.set_cons_zero, List.set_cons_succ])
          clear hb
          refine wpAnyH_take (i := 15) (v := .bool true) rfl (by kernel_rfl) (by kernel_rfl) (by kernel_rfl) (fun _ _ _ h => h) (Or.inl ⟨by rfl, by (intro w hSw; (try dsimp only at hSw); go_simp)⟩) hHeld ?_
          (try simp only [Act.put, List.getElem_toArray, List.getElem_cons_zero, List.getElem_cons_succ, List.setIfInBounds_toArray, List.set_cons_zero, List.set_cons_succ])
          refine wpAnyH_take (i := 16) (v := .bool true) rfl (by kernel_rfl) (by kernel_rfl) (by kernel_rfl) (fun _ _ _ h => h) (Or.inl ⟨by rfl, by (intro w hSw; (try dsimp only at hSw); go_simp)⟩) hHeld ?_
          (try simp only [Act.put, List.getElem_toArray, List.getElem_cons_zero, List.getElem_cons_succ, List.setIfInBounds_toArray, List.set_cons_zero, List.set_cons_succ])
          refine wpAnyH_take (i := 17) (v := .pointer (some ⟨b10, 4, none⟩)) rfl (by kernel_rfl) (by kernel_rfl) (by kernel_rfl) (fun _ _ _ h => h) (Or.inl ⟨by rfl, by (intro w hSw; (try dsimp only at hSw); go_simp)⟩) hHeld ?_
          (try simp only [Act.put, List.getElem_toArray, List.getElem_cons_zero, List.getElem_cons_succ, List.setIfInBounds_toArray, List.set_cons_zero, List.set_cons_succ])
          refine wpAnyH_take (i := 18) (v := .int .i64 (n4 : Nat)) rfl (by kernel_rfl) (by kernel_rfl) (by kernel_rfl) (fun _ _ _ h => h) (Or.inl ⟨by rfl, (by intro w9 hSw; (try dsimp only at hSw); obtain ⟨hs1, hs2⟩ := hSw; have c1_ : w9.cell? ⟨b10, 4, none⟩ = some (.int .i64 (n4 : Nat)) := hs1.tl.boxAt 4; go_simp)⟩) hHeld ?_
          (try simp only [Act.put, List.getElem_toArray, List.getElem_cons_zero, List.getElem_cons_succ, List.setIfInBounds_toArray, List.set_cons_zero, List.set_cons_succ])
          refine wpAnyH_take (i := 19) (v := .pointer (some ⟨b12, 3, none⟩)) rfl (by kernel_rfl) (by kernel_rfl) (by kernel_rfl) (fun _ _ _ h => h) (Or.inl ⟨by rfl, by (intro w hSw; (try dsimp only at hSw); go_simp)⟩) hHeld ?_
          (try simp only [Act.put, List.getElem_toArray, List.getElem_cons_zero, List.getElem_cons_succ, List.setIfInBounds_toArray, List.set_cons_zero, List.set_cons_succ])
          refine wpAnyH_take (i := 20) (v := .slice u4 n4 i4) rfl (by kernel_rfl) (by kernel_rfl) (by kernel_rfl) (fun _ _ _ h => h) (Or.inl ⟨by rfl, (by intro w9 hSw; (try dsimp only at hSw); obtain ⟨hs1, hs2⟩ := hSw; have c1_ : w9.cell? ⟨b12, 3, none⟩ = some (.slice u4 n4 i4) := hs1.boxAt 3; go_simp)⟩) hHeld ?_
          (try simp only [Act.put, List.getElem_toArray, List.getElem_cons_zero, List.getElem_cons_succ, List.setIfInBounds_toArray, List.set_cons_zero, List.set_cons_succ])
          refine wpAnyH_take (i := 21) (v := .int .i64 (n4 : Nat)) rfl (by kernel_rfl) (by kernel_rfl) (by kernel_rfl) (fun _ _ _ h => h) (Or.inl ⟨by rfl, by (intro w hSw; (try dsimp only at hSw); go_simp)⟩) hHeld ?_
          (try simp only [Act.put, List.getElem_toArray, List.getElem_cons_zero, List.getElem_cons_succ, List.setIfInBounds_toArray, List.set_cons_zero, List.set_cons_succ])
          refine wpAnyH_take (i := 22) (v := .bool true) rfl (by kernel_rfl) (by kernel_rfl) (by kernel_rfl) (fun _ _ _ h => h) (Or.inl ⟨by rfl, by (intro w hSw; (try dsimp only at hSw); go_simp)⟩) hHeld ?_
          (try simp only [Act.put, List.getElem_toArray, List.getElem_cons_zero, List.getElem_cons_succ, List.setIfInBounds_toArray, List.set_cons_zero, List.set_cons_succ])
          refine wpAnyH_take (i := 23) (v := .bool true) rfl (by kernel_rfl) (by kernel_rfl) (by kernel_rfl) (fun _ _ _ h => h) (Or.inl ⟨by rfl, by (intro w hSw; (try dsimp only at hSw); go_simp)⟩) hHeld ?_
          (try simp only [Act.put, List.getElem_toArray, List.getElem_cons_zero, List.getElem_cons_succ, List.setIfInBounds_toArray, List.set_cons_zero, List.set_cons_succ])
          refine wpAnyH_take (i := 24) (v := .bool true) rfl (by kernel_rfl) (by kernel_rfl) (by kernel_rfl) (fun _ _ _ h => h) (Or.inl ⟨by rfl, by (intro w hSw; (try dsimp only at hSw); go_simp)⟩) hHeld ?_
          (try simp only [Act.put, List.getElem_toArray, List.getElem_cons_zero, List.getElem_cons_succ, List.setIfInBounds_toArray, List.set_cons_zero, List.set_cons_succ])
          refine wpAnyH_take (i := 25) (v := .pointer (some ⟨b10, 5, none⟩)) rfl (by kernel_rfl) (by kernel_rfl) (by kernel_rfl) (fun _ _ _ h => h) (Or.inl ⟨by rfl, by (intro w hSw; (try dsimp only at hSw); go_simp)⟩) hHeld ?_
          (try simp only [Act.put, List.getElem_toArray, List.getElem_cons_zero, List.getElem_cons_succ, List.setIfInBounds_toArray, List.set_cons_zero, List.set_cons_succ])
          refine wpAnyH_take (i := 26) (v := .int .i64 0) rfl (by kernel_rfl) (by kernel_rfl) (by kernel_rfl) (fun _ _ _ h => h) (Or.inl ⟨by rfl, (by intro w9 hSw; (try dsimp only at hSw); obtain ⟨hs1, hs2⟩ := hSw; have c1_ : w9.cell? ⟨b10, 5, none⟩ = some (.int .i64 0) := hs1.tl.boxAt 5; go_simp)⟩) hHeld ?_
          (try simp only [Act.put, List.getElem_toArray, List.getElem_cons_zero, List.getElem_cons_succ, List.setIfInBounds_toArray, List.set_cons_zero, List.set_cons_succ])
          refine wpAnyH_take (i := 27) (v := .bool true) rfl (by kernel_rfl) (by kernel_rfl) (by kernel_rfl) (fun _ _ _ h => h) (Or.inl ⟨by rfl, by (intro w hSw; (try dsimp only at hSw); go_simp)⟩) hHeld ?_
          (try simp only [Act.put, List.getElem_toArray, List.getElem_cons_zero, List.getElem_cons_succ, List.setIfInBounds_toArray, List.set_cons_zero, List.set_cons_succ])
          refine wpAnyH_take (i := 28) (v := .bool true) rfl (by kernel_rfl) (by kernel_rfl) (by kernel_rfl) (fun _ _ _ h => h) (Or.inl ⟨by rfl, by (intro w hSw; (try dsimp only at hSw); go_simp)⟩) hHeld ?_
          (try simp only [Act.put, List.getElem_toArray, List.getElem_cons_zero, List.getElem_cons_succ, List.setIfInBounds_toArray, List.set_cons_zero, List.set_cons_succ])
          refine wpAnyH_take (i := 29) (v := .bool true) rfl (by kernel_rfl) (by kernel_rfl) (by kernel_rfl) (fun _ _ _ h => h) (Or.inl ⟨by rfl, by (intro w hSw; (try dsimp only at hSw); go_simp)⟩) hHeld ?_
          (try simp only [Act.put, List.getElem_toArray, List.getElem_cons_zero, List.getElem_cons_succ, List.setIfInBounds_toArray, List.set_cons_zero, List.set_cons_succ])
          refine wpAnyH_ready (rs := [30]) (by kernel_rfl) (by simp) ?_
          refine AllReadyH.cons rfl (fun K hK => ?_) (AllReadyH.nil)
          rw [if_pos (by rfl)]
          go_wp2_with fail
          refine (alive12_any _).mono ?_
          rintro _ z_U4 ⟨rfl, hb⟩
          have U4 : Hid ((fun z => Sep w3.heap.size w3 z [.box b12 (.cells #[.slice u1 n1 i1, .slice (some ⟨bU, 0, none⟩) n2 n2, .slice u3 n3 i3, .slice u4 n4 i4] 28 (0, 0)), .box b10 (.cells #[.slice q1 n1 e1, .slice (some ⟨bT, 0, none⟩) n2 n2, .slice q3 n3 e3, .slice q4 n4 e4, .int .i64 (n4 : Nat), .int .i64 0, .int .i64 cnt] 51 (0, 0))] ∧ Below y6.heap.size y6 z) z_U4) := Lib.hid ⟨U3.out.1.up hb, U3.out.2.trans (hb.mono U3.out.2.size)⟩
          refine hK.out _ _ U4.out (fun hHeld2 => ?_)
          clear hHeld hK
          have hHeld := hHeld2
          clear hHeld2
          (try simp only [Act.put, List.getElem_toArray, List.getElem_cons_zero, List.getElem_cons_succ, List.setIfInBounds_toArray, List.set_cons_zero, List.set_cons_succ])
          clear hb
          refine wpAnyH_take (i := 31) (v := .bool true) rfl (by kernel_rfl) (by kernel_rfl) (by kernel_rfl) (fun _ _ _ h => h) (Or.inl ⟨by rfl, by (intro w hSw; (try dsimp only at hSw); go_simp)⟩) hHeld ?_
          (try simp only [Act.put, List.getElem_toArray, List.getElem_cons_zero, List.getElem_cons_succ, List.setIfInBounds_toArray, List.set_cons_zero, List.set_cons_succ])
          refine wpAnyH_take (i := 32) (v := .bool true) rfl (by kernel_rfl) (by kernel_rfl) (by kernel_rfl) (fun _ _ _ h => h) (Or.inl ⟨by rfl, by (intro w hSw; (try dsimp only at hSw); go_simp)⟩) hHeld ?_
          (try simp only [Act.put, List.getElem_toArray, List.getElem_cons_zero, List.getElem_cons_succ, List.setIfInBounds_toArray, List.set_cons_zero, List.set_cons_succ])
          refine wpAnyH_done (by kernel_rfl) ?_ _
          clear hHeld
          go_wp2_with fail
          go_ret
          exact ⟨rfl, S3.out.bel.trans (U4.out.1.bel.mono S3.out.bel.size)⟩
end Go.Proofs.Ytemkppjdfjoipaa.I1.X
