/- Package raws. -/
import Derived.Test.YtbdbnjbafampaaaProg
import Derived.Test.YtbdbnjbafampaaaRn
import Derived.WalkKit
import Derived.BigFrame
import Derived.WalkMore
import Derived.ScopeJumps
import Derived.StillTailTactics
import Derived.Stop.BytesEq
import Derived.WalkLawsBesides
import Derived.WalkSpells
import Derived.Outline
import Derived.Lib.Walk
import Derived.Lib.Hide
import Derived.Lib.Slices
import Derived.Lib.Strings
import Derived.RegionTactic
import Derived.LoopTactic
import Derived.Below
import Derived.IntWalk
import Derived.Deep.QuietTactic
import Derived.BigQuiet
import Derived.Deep.MidRow
import Derived.Maps.AppendAt
import Derived.Laws.Rows
import Derived.Laws.Tables
import Derived.Deep.WholeRow
import Derived.Deep.Cut
import Derived.Deep.CutRange
import Derived.Lib.SliceRun
import Derived.Laws.MakeOwn
import Derived.Deep.RegionLaw
import Derived.Deep.RegionLawGrows
import Derived.Deep.RegionHeld3
import Derived.RegionCalls
import Derived.Deep.RegionWith
import Derived.Deep.Light
import Derived.Laws.CopyOwn
import Derived.Laws.ResultCell
namespace Go.Proofs.Ytbdbnjbafampaaa
set_option linter.unusedSimpArgs false
set_option linter.unusedVariables false
set_option maxRecDepth 100000
open Go.RowKit
/- RawsWhole. -/
theorem rawsF_cases {d : Df} {ks : Nat → Int} {n : Nat} {s : ByteArray} {L : List (Int × Nat × Nat)} {E : Int} (h : rawsF d ks n s = (L, E)) : (E = 0 ∧ L = pcA d ks (bl s) ∧ MayD d ∧ (∀ r ∈ d.rl, r < (n : Int)) ∧ s.size ≤ 65536) ∨ (E ≠ 0 ∧ L = []) := by
  rw [rawsF_E] at h
  by_cases h0 : rawsE d n s = 0
  · rw [if_pos h0] at h
    obtain ⟨g1, g2, g3⟩ := rawsE_ok h0
    have h1 := congrArg Prod.fst h
    have h2 := congrArg Prod.snd h
    exact .inl ⟨h2.symm, h1.symm, chk_may g1, anyGe_no g2, g3⟩
  · rw [if_neg h0] at h
    have h1 := congrArg Prod.fst h
    have h2 := congrArg Prod.snd h
    exact .inr ⟨fun e => h0 (h2.trans e), h1.symm⟩
/-- What lies in a list's row. -/
theorem RwO.form {B : Nat} {w : World} {l : List (Int × Nat × Nat)} {sl : Value} (h : RwO B w l sl) : ∃ p c, sl = .slice p l.length c ∧ XV (fun b => b < w.heap.size) w l (.slice p l.length c) := by
  have hx := h.xv
  obtain ⟨p, c, rfl⟩ := row_form h
  exact ⟨p, c, rfl, hx.mono (fun b h => h.2.1) (fun b _ _ => rfl)⟩
/-- The piece at a place. -/
theorem XV.at {D : Nat → Prop} {w : World} {l : List (Int × Nat × Nat)} {p : Option Addr} {n c : Nat} (h : XV D w l (.slice p n c)) (hn : l.length = n) {i : Nat} (hi : i < n) : ∃ b o x, p = some ⟨b, o, none⟩ ∧ D b ∧ l[i]? = some x ∧ w.cell? ⟨b, o + i * 3, none⟩ = some (.int .i64 x.1) ∧ w.cell? ⟨b, o + i * 3 + 1, none⟩ = some (.int .i64 (x.2.1 : Nat)) ∧ w.cell? ⟨b, o + i * 3 + 2, none⟩ = some (.int .i64 (x.2.2 : Nat)) := by
  subst hn
  obtain ⟨p1, c1, he, hh⟩ := h
  injection he with e1 e2 e3
  subst e1 e3
  obtain ⟨b, o, rfl, hb, hc⟩ := hh (by intro e; rw [e] at hi; simp at hi)
  obtain ⟨g1, g2, g3⟩ := hc i hi
  exact ⟨b, o, l[i], rfl, hb, List.getElem?_eq_getElem hi, g1, g2, g3⟩
/-- At, of an automaton that may be. -/
def AtQ (d : Df) (s : ByteArray) (k : Nat) (ds : Array Value) (z : World) : Prop := Calls Try.prog 30 #[.agg ds, .string s, .int .i64 (k : Nat)] z fun e w' => e = .returned (.tuple #[munV (ofF d ((bl s).drop k)), .int .i64 0]) ∧ Below z.heap.size z w'
theorem at_may {D : Nat → Prop} {w : World} {d : Df} {ds : Array Value} {p q : Option Addr} {c f : Nat} (s : ByteArray) {k : Nat} (hk : k < s.size) (hd : DC d ds p q c f) (hm : DM D w d p q c f) (hmay : MayD d) (hs : s.size ≤ 9223372036854775806) : AtQ d s k ds w := by
  have h := at_any s (k : Nat) hd hm hs
  unfold AtP at h
  rw [atF_of hmay s hk] at h
  exact h
set_option maxHeartbeats 16000000 in
theorem whole_any {D : Nat → Prop} {w : World} {d : Df} {ds : Array Value} {p q : Option Addr} {c f : Nat} {kf : Nat → Int} {n fr : Nat} {qr : Option Addr} (s : ByteArray) (hd : DC d ds p q c f) (hm : DM D w d p q c f) (hk : KV w kf n qr) (hn : n ≤ 9223372036854775806) (hs : s.size ≤ 9223372036854775805) :
    Calls Try.prog 12 #[.slice qr n fr, .agg ds, .string s] w fun e w' => e = .returned (.bool true) ∧ Below w.heap.size w w' := by
  have HSZ := Lib.hid hd.sz
  have HD := Lib.hid hd
  have HM := Lib.hid hm
  have HK := Lib.hid hk
  have hz48 := zero48
  have hz60 := zero60
  have S0 := Lib.hid ((Sb.start w).alloc (.cells ds 26))
  have HB0 : Hid (BX (w.alloc (.cells ds 26)) w.heap.size ds) := Lib.hid S0.out.heap
  have HSM := Lib.hid (small_any (n := n) (fr := fr) (qr := qr) s hd (hm.up S0.out.1))
  obtain ⟨sm, hsm⟩ : ∃ sm, smallF d n s = sm := ⟨_, rfl⟩
  rw [hsm] at HSM
  clear hd hm hk
  go_enter Try.func12, Try.ntmps12
  go_wp2_with (refine wpList_load_Dg _ rfl w.heap.size ds rfl HB0.out HSZ.out rfl ?_)
  refine HSM.out.mono ?_
  rintro _ w1 ⟨rfl, hb⟩
  have S1 := Lib.hid (S0.out.up hb)
  clear hb S0 HB0 HSM
  cases sm with
  | false =>
    clear hsm
    go_wp2_with fail
    go_ret
    exact ⟨rfl, S1.out.1⟩
  | true =>
    obtain ⟨h300, hbg, hn1⟩ := smallF_true hsm
    clear hsm hbg
    have HB1 : Hid (BX w1 w.heap.size ds) := Lib.hid S1.out.heap
    have HOF := Lib.hid (rawsof_any (fr := fr) s HD.out (HM.out.up S1.out.1) (HK.out.up S1.out.1) (by omega) (by omega))
    obtain ⟨⟨L, E⟩, hX⟩ : ∃ X, rawsF d kf n s = X := ⟨_, rfl⟩
    rw [hX] at HOF
    have HX := Lib.hid (rawsF_cases hX)
    clear hX
    unfold RawsP at HOF
    simp only [] at HOF
    go_wp2_with (refine wpList_load_Dg _ rfl w.heap.size ds rfl HB1.out HSZ.out rfl ?_)
    refine HOF.out.mono ?_
    rintro _ w2 ⟨sl, rfl, hro, hb⟩
    have S2 := Lib.hid (S1.out.up hb)
    obtain ⟨p5, c5, rfl, hxv⟩ := hro.form
    obtain ⟨N, hN⟩ : ∃ N, L.length = N := ⟨_, rfl⟩
    rw [hN] at hxv ⊢
    have HN := Lib.hid hN
    have HXV := Lib.hid hxv
    clear hb S1 HB1 HOF hro hxv hN
    by_cases h0 : E = 0
    · obtain ⟨hL, hmay, hnr, h65⟩ := HX.out.resolve_right (fun h => h.1 h0) |>.2
      have hne : (E != 0) = false := by simp [h0]
      have HMAY := Lib.hid hmay
      have HNR := Lib.hid hnr
      have HL := Lib.hid hL
      have hlen : N ≤ s.size := by
        have := pcA_len hmay kf _ (bl s) (Nat.le_refl _)
        rw [bl_len, ← hL, HN.out] at this
        exact this
      clear hmay hnr hL HX
      go_wp2_with fail
      go_loopw [9, 10] (fun at_ i wr => ∃ (k n1 : Nat), at_ = .int .i64 (n1 : Nat) ∧ i = .int .i64 (k : Nat) ∧ k ≤ N ∧ Hid (PcI d kf (bl s) k n1) ∧ n1 ≤ s.size ∧ Hid (Sb w wr [(w.heap.size, .cells ds 26)]) ∧ Hid (Below w2.heap.size w2 wr)) (fun _ i _ => N - (intOf i).toNat)
      case atStart => exact ⟨0, 0, rfl, rfl, by omega, Lib.hid (PcI.zero _ _ _), by omega, S2, Lib.hid (Below.refl _ _)⟩
      case round =>
        clear S2
        obtain ⟨k, n1, rfl, rfl, hk, HP, hn1s, HS, HB⟩ := hrel
        obtain ⟨wo, rfl⟩ : ∃ wo : World, wo = wr := ⟨_, rfl⟩
        by_cases hlt : k < N
        · obtain ⟨b, o, x, rfl, hb, hx, c0, c1, c2⟩ := HXV.out.at HN.out hlt
          have hkl : k < (pcA d kf (bl s)).length := by rw [← HL.out, HN.out]; exact hlt
          obtain ⟨gx, gp, gne⟩ := HP.out.get HMAY.out hkl
          have hx2 : x = pcF kf (ofF d ((bl s).drop n1)) := by
            rw [← gx]
            have hx3 := hx
            rw [HL.out, List.getElem?_eq_getElem hkl] at hx3
            exact (Option.some.inj hx3).symm
          have hn2 : n1 < s.size := by have := HP.out.more HMAY.out hkl; rwa [bl_len] at this
          have hfl := pcF_len HMAY.out kf gne
          have hfa := ofF_facts HMAY.out gne
          have hrule := fun h => ofF_rule HMAY.out (l := (bl s).drop n1) HNR.out h
          have HAT : Hid (∀ z, Below w.heap.size w z → AtQ d s n1 ds z) := Lib.hid fun z hz => at_may s hn2 HD.out (HM.out.up hz) HMAY.out (by omega)
          unfold AtQ at HAT
          rw [List.length_drop, bl_len] at hfl
          obtain ⟨⟨r, ln, lk⟩, hof⟩ : ∃ z, ofF d ((bl s).drop n1) = z := ⟨_, rfl⟩
          rw [hof] at HAT hfl hfa hrule hx2 gp
          simp only [] at hrule hfa
          have hr1 : r < (n : Int) := by
            by_cases h0 : 0 ≤ r
            · exact hrule h0
            · omega
          obtain ⟨hr2, -⟩ := hfa
          obtain ⟨hf1, hf2, -, hf4⟩ := hfl
          have GP := Lib.hid gp
          clear hof hrule gx gne hx hkl gp
          unfold munV at HAT
          simp only [] at HAT
          have hkI : (k : Int) < (N : Int) := by omega
          have hk0 : ¬ (k : Int) < 0 := by omega
          obtain ⟨⟨kd, pl, pk⟩, hxx⟩ : ∃ z, x = z := ⟨_, rfl⟩
          rw [hxx] at c0 c1 c2
          have hpc := hx2.symm.trans hxx
          rw [hpc] at hf1 hf2 hf4 GP
          simp only [] at c0 c1 c2 hf1 hf2 hf4 GP
          have HPC := Lib.hid hpc
          obtain rfl : pk = lk := hf4
          clear hx2 hxx hpc
          have d0 : wo.cell? ⟨b, o + k * 3, none⟩ = some (.int .i64 kd) := (cell_same (HB.out.block b hb) _).trans c0
          have d1 : wo.cell? ⟨b, o + k * 3 + 1, none⟩ = some (.int .i64 (pl : Nat)) := (cell_same (HB.out.block b hb) _).trans c1
          have d2 : wo.cell? ⟨b, o + k * 3 + 2, none⟩ = some (.int .i64 (pk : Nat)) := (cell_same (HB.out.block b hb) _).trans c2
          clear c0 c1 c2 hb
          have S3 := Lib.hid (HS.out.alloc (.cells #[.int .i64 kd, .int .i64 (pl : Nat), .int .i64 (pk : Nat)] 60))
          have HB3 := Lib.hid (HB.out.alloc (Nat.le_trans HB.out.size (Nat.le_refl _)) (.cells #[.int .i64 kd, .int .i64 (pl : Nat), .int .i64 (pk : Nat)] 60))
          go_upto_region 11 with fail
          clear d0 d1 d2
          obtain ⟨b3, hb3⟩ : ∃ b3, wo.heap.size = b3 := ⟨_, rfl⟩
          rw [hb3] at S3 ⊢
          refine at_world (fun z => Sb w z [(b3, .cells #[.int .i64 kd, .int .i64 (pl : Nat), .int .i64 (pk : Nat)] 60), (w.heap.size, .cells ds 26)] ∧ Below w2.heap.size w2 z) ⟨S3.out, HB3.out⟩ fun z hz => ?_
          have S4 := Lib.hid hz.1
          have HB4 := Lib.hid hz.2
          have HBX : Hid (BX z w.heap.size ds) := Lib.hid hz.1.tl.heap
          have HC := Lib.hid (HAT.out z hz.1.1)
          clear hz S3 HB3 HS HB hb3
          go_wp2_with (refine wpList_load_Dg _ rfl w.heap.size ds rfl HBX.out HSZ.out rfl ?_)
          refine HC.out.mono ?_
          rintro _ w4 ⟨rfl, hb⟩
          have S5 := Lib.hid ((S4.out.up hb).alloc (.cells #[.int .i64 r, .int .i64 (ln : Nat), .int .i64 (pk : Nat)] 48))
          have HB5 := Lib.hid ((HB4.out.trans (hb.mono HB4.out.size)).alloc (Nat.le_trans HB4.out.size hb.size) (.cells #[.int .i64 r, .int .i64 (ln : Nat), .int .i64 (pk : Nat)] 48))
          clear hb HC HAT HBX S4 HB4
          go_upto_region 12 with fail
          obtain ⟨b4, hb4⟩ : ∃ b4, w4.heap.size = b4 := ⟨_, rfl⟩
          rw [hb4] at S5 ⊢
          refine at_world (fun z => Sb w z [(b4, .cells #[.int .i64 r, .int .i64 (ln : Nat), .int .i64 (pk : Nat)] 48), (b3, .cells #[.int .i64 kd, .int .i64 (pl : Nat), .int .i64 (pk : Nat)] 60), (w.heap.size, .cells ds 26)] ∧ Below w2.heap.size w2 z) ⟨S5.out, HB5.out⟩ fun y hy => ?_
          have S6 := Lib.hid hy.1
          have HB6 := Lib.hid hy.2
          clear hy S5 HB5 hb4
          have e0 : y.cell? ⟨b3, 0, none⟩ = some (.int .i64 kd) := S6.out.tl.cell 0
          have e1 : y.cell? ⟨b3, 1, none⟩ = some (.int .i64 (pl : Nat)) := S6.out.tl.cell 1
          have e2 : y.cell? ⟨b3, 2, none⟩ = some (.int .i64 (pk : Nat)) := S6.out.tl.cell 2
          have m0 : y.cell? ⟨b4, 0, none⟩ = some (.int .i64 r) := S6.out.cell 0
          have m1 : y.cell? ⟨b4, 1, none⟩ = some (.int .i64 (ln : Nat)) := S6.out.cell 1
          have m2 : y.cell? ⟨b4, 2, none⟩ = some (.int .i64 (pk : Nat)) := S6.out.cell 2
          have hpl1 : ¬ (pl : Int) < 1 := by omega
          have hsub : IntKind.i64.wrap ((s.size : Int) - (n1 : Int)) = (s.size : Int) - (n1 : Int) := IntWalk.i64_in _ (by omega)
          have hpl2 : ¬ ((s.size : Int) - (n1 : Int)) < (pl : Int) := by omega
          have hpkk : ((pk : Int) != (pk : Int)) = false := by simp
          by_cases hr0 : r < 0
          · have hk2 := HPC.out
            unfold pcF at hk2
            rw [if_pos hr0] at hk2
            obtain ⟨rfl, h2⟩ := Prod.mk.inj hk2
            obtain ⟨rfl, -⟩ := Prod.mk.inj h2
            clear hk2 h2 HPC
            have e1' : y.cell? ⟨b3, 1, none⟩ = some (.int .i64 1) := e1
            go_wp2_with fail
            go_roundw
            case rel => exact ⟨k + 1, n1 + 1, by go_num, by go_num, by omega, GP, by omega, Lib.hid S6.out.tl.tl, HB6⟩
            case measure => simp [intOf]; omega
          · obtain ⟨m, rfl⟩ : ∃ m : Nat, r = (m : Int) := ⟨r.toNat, by omega⟩
            have hk2 := HPC.out
            unfold pcF at hk2
            rw [if_neg hr0] at hk2
            obtain ⟨hkd, h2⟩ := Prod.mk.inj hk2
            obtain ⟨rfl, -⟩ := Prod.mk.inj h2
            have hf2' : ln ≤ s.size - n1 := hf2
            have hf1' : 1 ≤ ln := hf1
            have hmn : m < n := by omega
            obtain ⟨bk, ok, rfl, hck⟩ := HK.out m hmn
            rw [show kf m = kd from hkd] at hck
            have ck0 : y.cell? ⟨bk, ok + m * 7, none⟩ = some (.int .i64 kd) := (cell_same (S6.out.1.block bk (blk_lt hck)) _).trans hck
            clear hck hk2 h2 HPC hkd
            have hmI : (m : Int) < (n : Int) := by omega
            have hmI2 : ¬ (n : Int) ≤ (m : Int) := by omega
            go_upto_region 17 with fail
            go_quiet (fail)
            go_wp2_with fail
            go_roundw
            case rel => exact ⟨k + 1, n1 + ln, by go_num, by go_num, by omega, GP, by omega, Lib.hid (S6.out.tl.tl.drewN _), Lib.hid (below_drewN HB6.out _)⟩
            case measure => simp [intOf]; omega
        · obtain rfl : k = N := by omega
          have hend : n1 = s.size := by
            have h1 := HP.out.end_iff HMAY.out
            rw [← HL.out, HN.out, bl_len] at h1
            have h2 : ¬ n1 < s.size := fun h => hlt (h1.2 h)
            omega
          subst hend
          have hkI : ¬ (k : Int) < (k : Int) := by omega
          clear HP HB
          go_wp2_with fail
          refine (alive10_any _).mono ?_
          rintro _ w3 ⟨rfl, hb⟩
          have HBF := Lib.hid (HS.out.1.trans (hb.mono HS.out.1.size))
          clear hb HS
          go_wp2_with fail
          go_ret
          exact ⟨rfl, HBF.out⟩
    · have hL := (HX.out.resolve_left (fun h => h0 h.1)).2
      subst hL
      have hN0 : N = 0 := HN.out.symm
      subst hN0
      have hne : (E != 0) = true := by simp [h0]
      have S3 := S2
      clear HX HXV HN
      go_wp2_with fail
      refine (alive10_any _).mono ?_
      rintro _ w3 ⟨rfl, hb⟩
      have HB := Lib.hid (S3.out.1.trans (hb.mono S3.out.1.size))
      clear hb S2 S3
      go_wp2_with fail
      go_ret
      exact ⟨rfl, HB.out⟩
end Go.Proofs.Ytbdbnjbafampaaa
