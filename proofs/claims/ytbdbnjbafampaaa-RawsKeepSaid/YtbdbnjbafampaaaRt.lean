/- Package raws. -/
import Derived.Test.YtbdbnjbafampaaaProg
import Derived.Test.YtbdbnjbafampaaaEt
import Derived.Test.YtbdbnjbafampaaaRo
import Derived.WalkKit
import Derived.BigFrame
import Derived.WalkMore
import Derived.ScopeJumps
import Derived.StillTailTactics
import Derived.Stop.BytesEq
import Derived.WalkLawsBesides
import Derived.WalkSpells
import Derived.Outline
import Derived.Lib.Walk
import Derived.Lib.Hide
import Derived.Lib.Slices
import Derived.Lib.Strings
import Derived.RegionTactic
import Derived.LoopTactic
import Derived.Below
import Derived.IntWalk
import Derived.Deep.QuietTactic
import Derived.BigQuiet
import Derived.Deep.MidRow
import Derived.Maps.AppendAt
import Derived.Laws.Rows
import Derived.Laws.Tables
import Derived.Deep.WholeRow
import Derived.Deep.Cut
import Derived.Deep.CutRange
import Derived.Lib.SliceRun
import Derived.Laws.MakeOwn
import Derived.Deep.RegionLaw
import Derived.Deep.RegionLawGrows
import Derived.Deep.RegionHeld3
import Derived.RegionCalls
import Derived.Deep.RegionWith
import Derived.Deep.Light
import Derived.Laws.CopyOwn
import Derived.Laws.ResultCell
namespace Go.Proofs.Ytbdbnjbafampaaa
set_option linter.unusedSimpArgs false
set_option linter.unusedVariables false
set_option maxRecDepth 100000
open Go.RowKit
/- RawsKeep. -/
theorem wpList_load_Do {ops : Array Oper} {rest : List Oper} {op : Oper} {a : Act} {w : World} {Q : Exit → Act → World → Prop} (x : Operand) (ho : op.op = .load 26 x) (b o : Nat) (ds : Array Value) (hx : a.eval x = .pointer (some ⟨b, o, none⟩)) (hc : ∀ j v, ds[j]? = some v → w.cell? ⟨b, o + j, none⟩ = some v) (hs : ds.size = 259)
    (hw : Region.wanted op (yielded ops a.tmps) = true) (h : wpList Try.prog ops Q rest (a.put op.dst (.agg ds)) w) : wpList Try.prog ops Q (op :: rest) a w :=
  BigFrame.wpList_want hw fun K hK => wp_load_mid 26 x ho b o hx ds.toList _ (fun j v hj => hc j v (by simpa using hj)) Try.underlying26 rfl (by rw [info26]; simp [hs]) (by simpa using hK _ _ h)
/-- A Scan's cells. -/
structure SC (vs ds : Array Value) (qr : Option Addr) (n fr : Nat) : Prop where
  sz : vs.size = 260
  r : vs[0]? = some (.slice qr n fr)
  d : ∀ j v, ds[j]? = some v → vs[1 + j]? = some v
theorem splice_bl (x t : ByteArray) (a c : Nat) (ha : a ≤ x.size) : (bl (Ed.splice x a c t)).take a = (bl x).take a ∧ a ≤ (bl (Ed.splice x a c t)).length := by
  have e : bl (Ed.splice x a c t) = (bl x).take a ++ (bl t ++ (bl x).drop c) := by
    unfold bl Ed.splice
    simp
  have hl : ((bl x).take a).length = a := by rw [List.length_take, bl_len]; omega
  rw [e]
  refine ⟨?_, by rw [List.length_append, hl]; omega⟩
  rw [List.take_append_of_le_length (by omega), List.take_of_length_le (by omega)]
theorem ck_ok {n : Nat} {s e : Int} {t : ByteArray} (h : Ed.checkZ n s e t = 0) : 0 ≤ s ∧ s ≤ e ∧ e ≤ (n : Int) := by
  unfold Ed.checkZ at h
  split at h
  · omega
  split at h
  · omega
  rename_i h1 h2
  have : Ed.withinB s e n = true := by simpa using h2
  simp [Ed.withinB] at this
  omega
theorem rawsE_same (d : Df) (n : Nat) {x y : ByteArray} (hx : x.size ≤ 65536) (hy : y.size ≤ 65536) : rawsE d n x = rawsE d n y := by
  unfold rawsE
  rw [if_neg (by omega : ¬ 65536 < x.size), if_neg (by omega : ¬ 65536 < y.size)]
theorem rawsF_snd (d : Df) (ks : Nat → Int) (n : Nat) (s : ByteArray) : (rawsF d ks n s).2 = rawsE d n s := by
  rw [rawsF_E]
  split
  · rename_i h; exact h.symm
  · rfl
set_option maxHeartbeats 16000000 in
theorem keep_any {D : Nat → Prop} {w : World} {d : Df} {vs ds : Array Value} {p q : Option Addr} {c f : Nat} {kf : Nat → Int} {n fr : Nat} {qr : Option Addr} (x : ByteArray) (s e : Int) (t : ByteArray) (hv : SC vs ds qr n fr) (hd : DC d ds p q c f) (hm : DM D w d p q c f) (hk : KV w kf n qr) (hn : n ≤ 9223372036854775806) (hs : x.size ≤ 9223372036854775805) (ht : t.size ≤ 9223372036854775807) :
    Calls Try.prog 14 #[.agg vs, .string x, .agg #[.int .i64 s, .int .i64 e, .string t]] w fun e w' => e = .returned (.bool true) ∧ Below w.heap.size w w' := by
  have HSZ := Lib.hid hd.sz
  have HD := Lib.hid hd
  have HM := Lib.hid hm
  have HK := Lib.hid hk
  have HV := Lib.hid hv
  have S0 := ((Sb.start w).alloc (.cells vs 72)).alloc (.cells #[.int .i64 s, .int .i64 e, .string t] 74)
  have hs1 : (w.alloc (.cells vs 72)).heap.size = w.heap.size + 1 := by simp
  rw [hs1] at S0
  have HS0 := Lib.hid S0
  obtain ⟨E1, hE1⟩ : ∃ E1, Ed.checkZ x.size s e t = E1 := ⟨_, rfl⟩
  obtain ⟨y, hy⟩ : ∃ y, Ed.apS x s e t = y := ⟨_, rfl⟩
  have HAP := Lib.hid (Ed.apply_any x s e t ((w.alloc (.cells vs 72)).alloc (.cells #[.int .i64 s, .int .i64 e, .string t] 74)) (by omega) (by omega))
  rw [hE1, hy] at HAP
  have HE1 := Lib.hid hE1
  have HY := Lib.hid hy
  have HLOAD : Hid (∀ z, Sb w z [(w.heap.size + 1, .cells #[.int .i64 s, .int .i64 e, .string t] 74), (w.heap.size, .cells vs 72)] → z.cell? ⟨w.heap.size, 0, none⟩ = some (.slice qr n fr) ∧ ∀ j v, ds[j]? = some v → z.cell? ⟨w.heap.size, 1 + j, none⟩ = some v) := Lib.hid fun z hz => ⟨(hz.tl.cell 0).trans hv.r, fun j v hj => (hz.tl.cell (1 + j)).trans (hv.d j v hj)⟩
  clear hd hm hk hv S0 hs1 hE1 hy
  go_enter Try.func14, Try.ntmps14
  go_wp2_with fail
  refine HAP.out.mono ?_
  rintro _ w1 ⟨rfl, hb⟩
  have S1 := Lib.hid (HS0.out.up hb)
  clear hb HAP HS0
  go_upto_region 2 with fail
  obtain ⟨sm, hsm⟩ : ∃ sm, smallF d n x = sm := ⟨_, rfl⟩
  have HSM : Hid (∀ z, Below w.heap.size w z → Calls Try.prog 39 #[.slice qr n fr, .agg ds, .string x] z fun e w' => e = .returned (.bool sm) ∧ Below z.heap.size z w') := Lib.hid fun z hz => by rw [← hsm]; exact small_any x HD.out (HM.out.up hz)
  have HSME := Lib.hid hsm
  clear hsm
  go_cut [36] from 21 to 36 (fun s36 wx => (s36 = .bool true ∨ (s36 = .bool false ∧ E1 = 0 ∧ sm = true ∧ y.size ≤ 300)) ∧ Hid (Sb w wx [(w.heap.size + 1, .cells #[.int .i64 s, .int .i64 e, .string t] 74), (w.heap.size, .cells vs 72)]))
  case first =>
    have c0 := (HLOAD.out w1 S1.out).1
    have HC := Lib.hid (HLOAD.out w1 S1.out).2
    by_cases h0 : E1 = 0
    · have hne : (E1 != 0) = false := by simp [h0]
      have H0 := Lib.hid h0
      clear h0
      go_wp2_with (refine wpList_load_Do _ rfl w.heap.size 1 ds rfl HC.out HSZ.out rfl ?_)
      refine (HSM.out _ S1.out.1).mono ?_
      rintro _ w2 ⟨rfl, hb⟩
      have S2 := Lib.hid (S1.out.up hb)
      clear hb c0 HC
      cases sm with
      | true =>
        by_cases h3 : 300 < y.size
        · have h3' : (300 : Int) < (y.size : Int) := by omega
          go_wp2_with fail
          go_meet
          case rel => exact ⟨.inl rfl, S2⟩
        · have h3' : ¬ (300 : Int) < (y.size : Int) := by omega
          go_wp2_with fail
          go_meet
          case rel => exact ⟨.inr (by have h0 := H0.out; simp [h0]; omega), S2⟩
      | false =>
        go_wp2_with fail
        go_meet
        case rel => exact ⟨.inl rfl, S2⟩
    · have hne : (E1 != 0) = true := by simp [h0]
      clear h0
      go_wp2_with fail
      go_meet
      case rel => exact ⟨.inl rfl, S1⟩
  case rest =>
    obtain ⟨hcut, hS⟩ := hcut
    rcases hcut with rfl | ⟨rfl, h0, hsmt, hy3⟩
    · clear S1 HSM HSME
      go_wp2_with fail
      go_ret
      exact ⟨rfl, hS.out.1⟩
    · have HH := Lib.hid (smallF_true (HSME.out.trans hsmt))
      have hx3 : x.size ≤ 300 := HH.out.1
      have hck := ck_ok (HE1.out.trans h0)
      have hyy : y = Ed.splice x s.toNat e.toNat t := by
        rw [← HY.out, Ed.apS, if_pos (HE1.out.trans h0)]
      obtain ⟨S, rfl⟩ : ∃ S : Nat, s = (S : Int) := ⟨s.toNat, by omega⟩
      have hSx : S ≤ x.size := by omega
      have hspl := splice_bl x t S e.toNat hSx
      rw [Int.toNat_natCast] at hyy
      rw [← hyy] at hspl
      have HSPL := Lib.hid hspl
      obtain ⟨L, hL⟩ : ∃ L, rawsF d kf n x = L := ⟨_, rfl⟩
      obtain ⟨M, hM⟩ : ∃ M, rawsF d kf n y = M := ⟨_, rfl⟩
      have hEE : M.2 = L.2 := by
        rw [← hL, ← hM, rawsF_snd, rawsF_snd, rawsE_same d n (x := y) (y := x) (by omega) (by omega)]
      obtain ⟨L, E⟩ := L
      obtain ⟨M, E'⟩ := M
      simp only [] at hEE
      subst hEE
      have HR1 : Hid (∀ z, Below w.heap.size w z → Calls Try.prog 34 #[.slice qr n fr, .agg ds, .string x] z (RawsP z (L, E'))) := Lib.hid fun z hz => by
        rw [← hL]; exact rawsof_any x HD.out (HM.out.up hz) (HK.out.up hz) hn hs
      have HR2 : Hid (∀ z, Below w.heap.size w z → Calls Try.prog 34 #[.slice qr n fr, .agg ds, .string y] z (RawsP z (M, E'))) := Lib.hid fun z hz => by
        rw [← hM]; exact rawsof_any y HD.out (HM.out.up hz) (HK.out.up hz) hn (by omega)
      have HXL := Lib.hid (rawsF_cases hL)
      have HXM := Lib.hid (rawsF_cases hM)
      unfold RawsP at HR1 HR2
      simp only [] at HR1 HR2
      have S2 := hS
      clear hL hM hyy hspl hck h0 hsmt HY HE1 S1 HSM HSME hS HH
      have c0 := (HLOAD.out wc S2.out).1
      have HC := Lib.hid (HLOAD.out wc S2.out).2
      go_wp2_with (refine wpList_load_Do _ rfl w.heap.size 1 ds rfl HC.out HSZ.out rfl ?_)
      refine (HR1.out _ S2.out.1).mono ?_
      rintro _ w3 ⟨sl, rfl, hro, hb⟩
      have S3 := Lib.hid (S2.out.up hb)
      obtain ⟨p1, c1, rfl, hx1⟩ := hro.form
      clear c0 HC S2 hro hb HR1
      obtain ⟨N, hN⟩ : ∃ N, L.length = N := ⟨_, rfl⟩
      have HN := Lib.hid hN
      rw [hN] at hx1 ⊢
      have HX1 := Lib.hid hx1
      clear hx1 hN
      have c0 := (HLOAD.out w3 S3.out).1
      have HC := Lib.hid (HLOAD.out w3 S3.out).2
      go_wp2_with (refine wpList_load_Do _ rfl w.heap.size 1 ds rfl HC.out HSZ.out rfl ?_)
      refine (HR2.out _ S3.out.1).mono ?_
      rintro _ w4 ⟨sl2, rfl, hro, hb⟩
      have S4 := Lib.hid (S3.out.up hb)
      obtain ⟨p2, c2, rfl, hx2⟩ := hro.form
      obtain ⟨N', hN'⟩ : ∃ N', M.length = N' := ⟨_, rfl⟩
      have HN' := Lib.hid hN'
      rw [hN'] at hx2 ⊢
      have HX2 := Lib.hid hx2
      have HX14 := Lib.hid (HX1.out.up (fun b h => h) hb)
      have HLE := Lib.hid hb.size
      clear c0 HC S3 hro hb HR2 hx2 hN' HX1 HLOAD
      by_cases hE0 : E' = 0
      · have hne : (E' != 0) = false := by simp [hE0]
        obtain ⟨hL, hmay, -, -⟩ := HXL.out.resolve_right (fun h => h.1 hE0) |>.2
        obtain ⟨hM, -, -, -⟩ := HXM.out.resolve_right (fun h => h.1 hE0) |>.2
        have HMAY := Lib.hid hmay
        have HL := Lib.hid hL
        have HM2 := Lib.hid hM
        clear hmay hL hM HXL HXM
        have hlen : N ≤ x.size := by
          have := pcA_len HMAY.out kf _ (bl x) (Nat.le_refl _)
          rw [bl_len, ← HL.out, HN.out] at this
          exact this
        have hlen' : N' ≤ y.size := by
          have := pcA_len HMAY.out kf _ (bl y) (Nat.le_refl _)
          rw [bl_len, ← HM2.out, HN'.out] at this
          exact this
        go_wp2_with fail
        go_loopw [13, 14] (fun at_ i wr => ∃ (k n1 : Nat), at_ = .int .i64 (n1 : Nat) ∧ i = .int .i64 (k : Nat) ∧ k ≤ N ∧ n1 ≤ S ∧ Hid (PcI d kf (bl x) k n1) ∧ Hid (PcI d kf (bl y) k n1) ∧ Hid (Sb w wr [(w.heap.size + 1, .cells #[.int .i64 (S : Nat), .int .i64 e, .string t] 74), (w.heap.size, .cells vs 72)]) ∧ Hid (Below w4.heap.size w4 wr)) (fun _ i _ => N - (intOf i).toNat)
        case atStart => exact ⟨0, 0, rfl, rfl, by omega, by omega, Lib.hid (PcI.zero _ _ _), Lib.hid (PcI.zero _ _ _), S4, Lib.hid (Below.refl _ _)⟩
        case round =>
          clear S4
          obtain ⟨k, n1, rfl, rfl, hk, hn1, HP, HP2, HS, HB⟩ := hrel
          obtain ⟨wo, rfl⟩ : ∃ wo : World, wo = wr := ⟨_, rfl⟩
          by_cases hlt : k < N
          · obtain ⟨b, o, z, rfl, hb, hz, c0, c1', c2'⟩ := HX14.out.at HN.out hlt
            have hkl : k < (pcA d kf (bl x)).length := by rw [← HL.out, HN.out]; exact hlt
            have hz2 : (pcA d kf (bl x))[k] = z := by
              have hz3 := hz
              rw [HL.out, List.getElem?_eq_getElem hkl] at hz3
              exact Option.some.inj hz3
            have d0 : wo.cell? ⟨b, o + k * 3, none⟩ = some (.int .i64 z.1) := (cell_same (HB.out.block b (Nat.lt_of_lt_of_le hb HLE.out)) _).trans c0
            have d1 : wo.cell? ⟨b, o + k * 3 + 1, none⟩ = some (.int .i64 (z.2.1 : Nat)) := (cell_same (HB.out.block b (Nat.lt_of_lt_of_le hb HLE.out)) _).trans c1'
            have d2 : wo.cell? ⟨b, o + k * 3 + 2, none⟩ = some (.int .i64 (z.2.2 : Nat)) := (cell_same (HB.out.block b (Nat.lt_of_lt_of_le hb HLE.out)) _).trans c2'
            have e0 : wo.cell? ⟨w.heap.size + 1, 0, none⟩ = some (.int .i64 (S : Nat)) := HS.out.cell 0
            have hsub : IntKind.i64.wrap ((S : Int) - (n1 : Int)) = (S : Int) - (n1 : Int) := IntWalk.i64_in _ (by omega)
            have hkI : (k : Int) < (N : Int) := by omega
            have hk0 : ¬ (k : Int) < 0 := by omega
            have HKEEP : Hid (n1 + z.2.2 ≤ S → ∃ hk' : k < (pcA d kf (bl y)).length, (pcA d kf (bl y))[k] = z ∧ n1 + z.2.1 ≤ S ∧ PcI d kf (bl x) (k + 1) (n1 + z.2.1) ∧ PcI d kf (bl y) (k + 1) (n1 + z.2.1)) := Lib.hid fun h => by
              have := HP.out.keep HMAY.out HSPL.out.1.symm (by rw [bl_len]; exact hSx) HSPL.out.2 HP2.out hkl (by rw [hz2]; exact h)
              rw [hz2] at this
              exact this
            obtain ⟨⟨zk, zl, zo⟩, hzz⟩ : ∃ q, z = q := ⟨_, rfl⟩
            rw [hzz] at d0 d1 d2 HKEEP
            simp only [] at d0 d1 d2 HKEEP
            clear hz hz2 hzz c0 c1' c2' hkl
            by_cases hlook : n1 + zo ≤ S
            · obtain ⟨hk', g1, g2, g3, g4⟩ := HKEEP.out hlook
              have G3 := Lib.hid g3
              have G4 := Lib.hid g4
              have hkN' : k < N' := by rw [← HN'.out, HM2.out]; exact hk'
              have hlI : (zo : Int) ≤ (S : Int) - (n1 : Int) := by omega
              have hlI2 : ¬ ((S : Int) - (n1 : Int)) < (zo : Int) := by omega
              obtain ⟨b2, o2, z2, rfl, hb2, hzz2, c0, c1', c2'⟩ := HX2.out.at HN'.out hkN'
              have hz3 : z2 = (zk, zl, zo) := by
                rw [← g1]
                have hz4 := hzz2
                rw [HM2.out, List.getElem?_eq_getElem hk'] at hz4
                exact (Option.some.inj hz4).symm
              subst hz3
              have C0 := Lib.hid ((cell_same (HB.out.block b2 hb2) _).trans c0)
              have C1 := Lib.hid ((cell_same (HB.out.block b2 hb2) _).trans c1')
              have C2 := Lib.hid ((cell_same (HB.out.block b2 hb2) _).trans c2')
              have DD0 := Lib.hid d0
              have DD1 := Lib.hid d1
              have DD2 := Lib.hid d2
              clear HKEEP g1 g3 g4 hzz2 c0 c1' c2' hk'
              go_upto_region 10 with fail
              go_quiet (fail)
              go_upto_region 12 with fail
              refine at_world (fun v => (Sb w v [(w.heap.size + 1, .cells #[.int .i64 (S : Nat), .int .i64 e, .string t] 74), (w.heap.size, .cells vs 72)] ∧ Below w4.heap.size w4 v) ∧ (v.cell? ⟨b, o + k * 3, none⟩ = some (.int .i64 zk) ∧ v.cell? ⟨b, o + k * 3 + 1, none⟩ = some (.int .i64 (zl : Nat)) ∧ v.cell? ⟨b, o + k * 3 + 2, none⟩ = some (.int .i64 (zo : Nat))) ∧ (v.cell? ⟨b2, o2 + k * 3, none⟩ = some (.int .i64 zk) ∧ v.cell? ⟨b2, o2 + k * 3 + 1, none⟩ = some (.int .i64 (zl : Nat)) ∧ v.cell? ⟨b2, o2 + k * 3 + 2, none⟩ = some (.int .i64 (zo : Nat)))) ⟨⟨HS.out.drewN _, below_drewN HB.out _⟩, ⟨DD0.out, DD1.out, DD2.out⟩, ⟨C0.out, C1.out, C2.out⟩⟩ fun v hv => ?_
              clear d0 d1 d2 e0
              have S5 := Lib.hid hv.1.1
              have HB5 := Lib.hid hv.1.2
              have d0 := hv.2.1.1
              have d1 := hv.2.1.2.1
              have d2 := hv.2.1.2.2
              have c0 := hv.2.2.1
              have c1' := hv.2.2.2.1
              have c2' := hv.2.2.2.2
              have DV1 := Lib.hid d1
              have hq := fun u => neq60 zk (zl : Nat) (zo : Nat) zk (zl : Nat) (zo : Nat) u
              rw [show (!((zk == zk) && (((zl : Int) == (zl : Int)) && ((zo : Int) == (zo : Int))))) = false by simp] at hq
              have hkI2 : ¬ (N' : Int) ≤ (k : Int) := by omega
              have hkI3 : (k : Int) < (N' : Int) := by omega
              clear hv C0 C1 C2 DD0 DD1 DD2 HS HB
              go_quiet (fail)
              go_upto_region 14 with fail
              refine at_world (fun z => (Sb w z [(w.heap.size + 1, .cells #[.int .i64 (S : Nat), .int .i64 e, .string t] 74), (w.heap.size, .cells vs 72)] ∧ Below w4.heap.size w4 z) ∧ z.cell? ⟨b, o + k * 3 + 1, none⟩ = some (.int .i64 (zl : Nat))) ⟨⟨S5.out.drewN _, below_drewN HB5.out _⟩, DV1.out⟩ fun z hz => ?_
              have S6 := Lib.hid hz.1.1
              have HB6 := Lib.hid hz.1.2
              clear d0 d1 d2 c0 c1' c2' hq
              have d1 := hz.2
              clear hz S5 HB5 DV1
              go_wp2_with fail
              go_roundw
              case rel => exact ⟨k + 1, n1 + zl, by go_num, by go_num, by omega, by omega, G3, G4, S6, HB6⟩
              case measure => simp [intOf]; omega
            · have hlI : ¬ (zo : Int) ≤ (S : Int) - (n1 : Int) := by omega
              have hlI2 : ((S : Int) - (n1 : Int)) < (zo : Int) := by omega
              clear HKEEP hb
              go_upto_region 10 with fail
              go_quiet (fail)
              go_wp2_with fail
              refine (alive10_any _).mono ?_
              rintro _ w5 ⟨rfl, hb⟩
              have HBF := Lib.hid ((HS.out.drewN _).1.trans (hb.mono (HS.out.drewN _).1.size))
              clear hb HS HB d0 d1 d2 e0
              go_wp2_with fail
              go_ret
              exact ⟨rfl, HBF.out⟩
          · obtain rfl : k = N := by omega
            have hkI : ¬ (k : Int) < (k : Int) := by omega
            clear HP HP2 HB
            go_upto_region 10 with fail
            go_quiet (fail)
            go_wp2_with fail
            refine (alive10_any _).mono ?_
            rintro _ w5 ⟨rfl, hb⟩
            have HBF := Lib.hid ((HS.out.drewN _).1.trans (hb.mono (HS.out.drewN _).1.size))
            clear hb HS
            go_wp2_with fail
            go_ret
            exact ⟨rfl, HBF.out⟩
      · have hne : (E' != 0) = true := by simp [hE0]
        have hee : (E' == E') = true := by simp
        have S5 := S4
        clear HXL HXM HX2 HX14 hE0
        go_wp2_with fail
        refine (alive10_any _).mono ?_
        rintro _ w5 ⟨rfl, hb⟩
        have HB := Lib.hid (S5.out.1.trans (hb.mono S5.out.1.size))
        clear hb S4 S5
        go_wp2_with fail
        go_ret
        exact ⟨rfl, HB.out⟩
end Go.Proofs.Ytbdbnjbafampaaa
