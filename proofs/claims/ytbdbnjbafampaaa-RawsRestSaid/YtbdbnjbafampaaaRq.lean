/- Package raws. -/
import Derived.Test.YtbdbnjbafampaaaProg
import Derived.Test.YtbdbnjbafampaaaRo
import Derived.WalkKit
import Derived.BigFrame
import Derived.WalkMore
import Derived.ScopeJumps
import Derived.StillTailTactics
import Derived.Stop.BytesEq
import Derived.WalkLawsBesides
import Derived.WalkSpells
import Derived.Outline
import Derived.Lib.Walk
import Derived.Lib.Hide
import Derived.Lib.Slices
import Derived.Lib.Strings
import Derived.RegionTactic
import Derived.LoopTactic
import Derived.Below
import Derived.IntWalk
import Derived.Deep.QuietTactic
import Derived.BigQuiet
import Derived.Deep.MidRow
import Derived.Maps.AppendAt
import Derived.Laws.Rows
import Derived.Laws.Tables
import Derived.Deep.WholeRow
import Derived.Deep.Cut
import Derived.Deep.CutRange
import Derived.Lib.SliceRun
import Derived.Laws.MakeOwn
import Derived.Deep.RegionLaw
import Derived.Deep.RegionLawGrows
import Derived.Deep.RegionHeld3
import Derived.RegionCalls
import Derived.Deep.RegionWith
import Derived.Deep.Light
import Derived.Laws.CopyOwn
import Derived.Laws.ResultCell
namespace Go.Proofs.Ytbdbnjbafampaaa
set_option linter.unusedSimpArgs false
set_option linter.unusedVariables false
set_option maxRecDepth 100000
open Go.RowKit
/- RawsRest. -/
theorem rawsF_ok {d : Df} {ks : Nat → Int} {n : Nat} {s : ByteArray} (hm : MayD d) (hr : ∀ r ∈ d.rl, r < (n : Int)) (hs : s.size ≤ 65536) : rawsF d ks n s = (pcA d ks (bl s), 0) := by
  unfold rawsF
  rw [if_neg (by simp [chk_of hm]), if_neg, if_neg (by omega)]
  intro h
  obtain ⟨r, h1, h2⟩ := List.any_eq_true.1 h
  have := hr r h1
  simp at h2
  omega
theorem XV.drop {D : Nat → Prop} {w z : World} {l : List (Int × Nat × Nat)} {b o n c k : Nat} (hD : ∀ b, D b → b < w.heap.size) (hz : Below w.heap.size w z) (hn : l.length = n) (h : XV D w l (.slice (some ⟨b, o, none⟩) n c)) (hk : k < n) : XV D z (l.drop k) (.slice (some ⟨b, o + k * 3, none⟩) (l.drop k).length (c - k)) := by
  subst hn
  obtain ⟨p1, c1, he, hh⟩ := h
  injection he with e1 e2 e3
  subst e1 e3
  obtain ⟨b', o', hp, hb, hc⟩ := hh (by intro e; rw [e] at hk; simp at hk)
  cases hp
  refine ⟨_, _, rfl, fun _ => ⟨b, o + k * 3, rfl, hb, fun i hi => ?_⟩⟩
  rw [List.length_drop] at hi
  obtain ⟨g1, g2, g3⟩ := hc (k + i) (by omega)
  rw [List.getElem_drop, show o + k * 3 + i * 3 = o + (k + i) * 3 by omega]
  have hcs := fun j => cell_same (hz.block b (hD b hb)) j
  exact ⟨(hcs _).trans g1, (hcs _).trans g2, (hcs _).trans g3⟩
theorem RwO.cap {B : Nat} {w : World} {l : List (Int × Nat × Nat)} {p : Option Addr} {n c : Nat} (h : RwO B w l (.slice p n c)) : l.length ≤ c := by
  rcases h.2 with ⟨hv, h0⟩ | ⟨g, cap, cur, hv, _, _, hc, _⟩
  · omega
  · injection hv with e1 e2 e3
    omega
set_option maxHeartbeats 16000000 in
theorem rest_any {D : Nat → Prop} {w : World} {d : Df} {ds : Array Value} {p q : Option Addr} {c f : Nat} {kf : Nat → Int} {n fr : Nat} {qr : Option Addr} (s : ByteArray) (hd : DC d ds p q c f) (hm : DM D w d p q c f) (hk : KV w kf n qr) (hn : n ≤ 9223372036854775806) (hs : s.size ≤ 9223372036854775805) :
    Calls Try.prog 13 #[.slice qr n fr, .agg ds, .string s] w fun e w' => e = .returned (.bool true) ∧ Below w.heap.size w w' := by
  have HSZ := Lib.hid hd.sz
  have HD := Lib.hid hd
  have HM := Lib.hid hm
  have HK := Lib.hid hk
  have S0 := Lib.hid ((Sb.start w).alloc (.cells ds 26))
  have HB0 : Hid (BX (w.alloc (.cells ds 26)) w.heap.size ds) := Lib.hid S0.out.heap
  have HSM := Lib.hid (small_any (n := n) (fr := fr) (qr := qr) s hd (hm.up S0.out.1))
  obtain ⟨sm, hsm⟩ : ∃ sm, smallF d n s = sm := ⟨_, rfl⟩
  rw [hsm] at HSM
  clear hd hm hk
  go_enter Try.func13, Try.ntmps13
  go_wp2_with (refine wpList_load_Dg _ rfl w.heap.size ds rfl HB0.out HSZ.out rfl ?_)
  refine HSM.out.mono ?_
  rintro _ w1 ⟨rfl, hb⟩
  have S1 := Lib.hid (S0.out.up hb)
  clear hb S0 HB0 HSM
  cases sm with
  | false =>
    clear hsm
    go_wp2_with fail
    go_ret
    exact ⟨rfl, S1.out.1⟩
  | true =>
    obtain ⟨h300, hbg, hn1⟩ := smallF_true hsm
    clear hsm hbg
    have HB1 : Hid (BX w1 w.heap.size ds) := Lib.hid S1.out.heap
    have HOF := Lib.hid (rawsof_any (fr := fr) s HD.out (HM.out.up S1.out.1) (HK.out.up S1.out.1) (by omega) (by omega))
    obtain ⟨⟨L, E⟩, hX⟩ : ∃ X, rawsF d kf n s = X := ⟨_, rfl⟩
    rw [hX] at HOF
    have HX := Lib.hid (rawsF_cases hX)
    clear hX
    unfold RawsP at HOF
    simp only [] at HOF
    go_wp2_with (refine wpList_load_Dg _ rfl w.heap.size ds rfl HB1.out HSZ.out rfl ?_)
    refine HOF.out.mono ?_
    rintro _ w2 ⟨sl, rfl, hro, hb⟩
    have S2 := Lib.hid (S1.out.up hb)
    obtain ⟨p5, c5, rfl, hxv⟩ := hro.form
    obtain ⟨N, hN⟩ : ∃ N, L.length = N := ⟨_, rfl⟩
    have hcap := hro.cap
    rw [hN] at hxv hcap ⊢
    have HN := Lib.hid hN
    have HXV := Lib.hid hxv
    clear hb S1 HB1 HOF hro hxv hN
    by_cases h0 : E = 0
    · obtain ⟨hL, hmay, hnr, h65⟩ := HX.out.resolve_right (fun h => h.1 h0) |>.2
      have hne : (E != 0) = false := by simp [h0]
      have HMAY := Lib.hid hmay
      have HNR := Lib.hid hnr
      have HL := Lib.hid hL
      have hlen : N ≤ s.size := by
        have := pcA_len hmay kf _ (bl s) (Nat.le_refl _)
        rw [bl_len, ← hL, HN.out] at this
        exact this
      clear hmay hnr hL HX
      go_wp2_with fail
      go_loopw [9, 10] (fun at_ i wr => ∃ (k n1 : Nat), at_ = .int .i64 (n1 : Nat) ∧ i = .int .i64 (k : Nat) ∧ k ≤ N ∧ Hid (PcI d kf (bl s) k n1) ∧ n1 ≤ s.size ∧ Hid (Sb w wr [(w.heap.size, .cells ds 26)]) ∧ Hid (Below w2.heap.size w2 wr)) (fun _ i _ => N - (intOf i).toNat)
      case atStart => exact ⟨0, 0, rfl, rfl, by omega, Lib.hid (PcI.zero _ _ _), by omega, S2, Lib.hid (Below.refl _ _)⟩
      case round =>
        clear S2
        obtain ⟨k, n1, rfl, rfl, hk, HP, hn1s, HS, HB⟩ := hrel
        obtain ⟨wo, rfl⟩ : ∃ wo : World, wo = wr := ⟨_, rfl⟩
        by_cases hlt : k < N ∧ k < 40
        · obtain ⟨hlt, h40⟩ := hlt
          have hkI : (k : Int) < (N : Int) := by omega
          have hkI4 : (k : Int) < 40 := by omega
          have hk0 : ¬ (k : Int) < 0 := by omega
          have hkl : k < (pcA d kf (bl s)).length := by rw [← HL.out, HN.out]; exact hlt
          have hn2 : n1 < s.size := by have := HP.out.more HMAY.out hkl; rwa [bl_len] at this
          have hn1I : (n1 : Int) ≤ (s.size : Int) := by omega
          have hn10 : ¬ (n1 : Int) < 0 := by omega
          have gne : (bl s).drop n1 ≠ [] := (HP.out.get HMAY.out hkl).2.2
          obtain ⟨gx, gp, -⟩ := HP.out.get HMAY.out hkl
          have hfl := pcF_len HMAY.out kf gne
          obtain ⟨b, o, x, rfl, hb, hx, c0, c1, c2⟩ := HXV.out.at HN.out hlt
          have hx2 : x = pcF kf (ofF d ((bl s).drop n1)) := by
            rw [← gx]
            have hx3 := hx
            rw [HL.out, List.getElem?_eq_getElem hkl] at hx3
            exact (Option.some.inj hx3).symm
          rw [← hx2] at hfl gp
          rw [List.length_drop, bl_len] at hfl
          obtain ⟨hf1, hf2, -, -⟩ := hfl
          have GP := Lib.hid gp
          have hdrop : L.drop k = pcA d kf ((bl s).drop n1) := by rw [HL.out]; exact HP.out.drop
          have HSAME : Hid (sameR (pcA d kf ((bl s).drop n1)) (L.drop k) = true) := Lib.hid (decide_eq_true hdrop.symm)
          have HXD : Hid (∀ z, Below w2.heap.size w2 z → XV (fun b => b < w2.heap.size) z (L.drop k) (.slice (some ⟨b, o + k * 3, none⟩) (L.drop k).length (c5 - k))) := Lib.hid fun z hz => XV.drop (fun b h => h) hz HN.out HXV.out hlt
          have hdl : (L.drop k).length = N - k := by rw [List.length_drop, HN.out]
          have HDL := Lib.hid hdl
          have c1' : ∀ z, Below w2.heap.size w2 z → z.cell? ⟨b, o + k * 3 + 1, none⟩ = some (.int .i64 (x.2.1 : Nat)) := fun z hz => (cell_same (hz.block b hb) _).trans c1
          have HC1 := Lib.hid c1'
          have HS2 : Hid ((s.extract n1 s.size).size = s.size - n1) := Lib.hid (by simp)
          have HRF : Hid (rawsF d kf n (s.extract n1 s.size) = (pcA d kf ((bl s).drop n1), 0)) := Lib.hid (by rw [rawsF_ok HMAY.out HNR.out (by rw [HS2.out]; omega), bl_drop])
          clear gx gp gne hx hx2 c0 c1 c2 c1' hdrop hdl hkl
          go_upto_region 10 with fail
          refine wp_region_held_drew (S := fun v => Sb w v [(w.heap.size, .cells ds 26)] ∧ Below w2.heap.size w2 v) (by kernel_rfl) ⟨HS.out.drew, HB.out.drew⟩ (fun hHeld => ?_)
          have HH := Lib.hid hHeld
          refine wpAnyH_take (i := 0) (v := (.slice qr n fr)) rfl (by kernel_rfl) (by kernel_rfl) (by kernel_rfl) (fun _ _ _ h => h) (Or.inl ⟨by rfl, by (intro w hSw; (try dsimp only at hSw); go_simp)⟩) hHeld ?_
          (try simp only [Act.put, List.getElem_toArray, List.getElem_cons_zero, List.getElem_cons_succ, List.setIfInBounds_toArray, List.set_cons_zero, List.set_cons_succ])
          refine wpAnyH_take (i := 1) (v := .agg ds) rfl (by kernel_rfl) (by kernel_rfl) (by kernel_rfl) (fun _ _ _ h => h) (yieldsIf_load_D (by rfl) (.tmp 4) rfl w.heap.size rfl (fun v hv => hv.1.heap) HSZ.out) hHeld ?_
          (try simp only [Act.put, List.getElem_toArray, List.getElem_cons_zero, List.getElem_cons_succ, List.setIfInBounds_toArray, List.set_cons_zero, List.set_cons_succ])
          refine wpAnyH_take (i := 2) (v := (.string s)) rfl (by kernel_rfl) (by kernel_rfl) (by kernel_rfl) (fun _ _ _ h => h) (Or.inl ⟨by rfl, by (intro w hSw; (try dsimp only at hSw); go_simp)⟩) hHeld ?_
          (try simp only [Act.put, List.getElem_toArray, List.getElem_cons_zero, List.getElem_cons_succ, List.setIfInBounds_toArray, List.set_cons_zero, List.set_cons_succ])
          refine wpAnyH_take (i := 3) (v := (.int .i64 (n1 : Nat))) rfl (by kernel_rfl) (by kernel_rfl) (by kernel_rfl) (fun _ _ _ h => h) (Or.inl ⟨by rfl, by (intro w hSw; (try dsimp only at hSw); go_simp)⟩) hHeld ?_
          (try simp only [Act.put, List.getElem_toArray, List.getElem_cons_zero, List.getElem_cons_succ, List.setIfInBounds_toArray, List.set_cons_zero, List.set_cons_succ])
          refine wpAnyH_take (i := 4) (v := (.string (s.extract n1 s.size))) rfl (by kernel_rfl) (by kernel_rfl) (by kernel_rfl) (fun _ _ _ h => h) (Or.inl ⟨by rfl, by (intro w hSw; (try dsimp only at hSw); go_simp)⟩) hHeld ?_
          (try simp only [Act.put, List.getElem_toArray, List.getElem_cons_zero, List.getElem_cons_succ, List.setIfInBounds_toArray, List.set_cons_zero, List.set_cons_succ])
          refine wpAnyH_ready (rs := [5]) (by kernel_rfl) (by simp) ?_
          refine AllReadyH.cons rfl (fun K hK => ?_) (AllReadyH.nil)
          rw [if_pos (by rfl)]
          go_wp2_with fail
          have HC := Lib.hid (rawsof_any (n := n) (fr := fr) (s.extract n1 s.size) HD.out (HM.out.up HH.out.1.1) (HK.out.up HH.out.1.1) hn (by rw [HS2.out]; omega))
          rw [HRF.out] at HC
          unfold RawsP at HC
          simp only [] at HC
          refine HC.out.mono ?_
          rintro _ w4 ⟨sl2, rfl, hro2, hb⟩
          obtain ⟨p6, c6, rfl, hxv2⟩ := hro2.form
          have S4 : Hid (Sb w w4 [(w.heap.size, .cells ds 26)]) := Lib.hid (HH.out.1.up hb)
          have HB4 : Hid (Below w2.heap.size w2 w4) := Lib.hid (HH.out.2.trans (hb.mono HH.out.2.size))
          have HX2 := Lib.hid hxv2
          clear hro2 HC HS HB hxv2
          refine hK.out _ _ ⟨S4.out, HB4.out⟩ (fun hHeld2 => ?_)
          clear hHeld hK hb HH
          have hHeld := hHeld2
          clear hHeld2
          obtain ⟨M, hM⟩ : ∃ M, pcA d kf ((bl s).drop n1) = M := ⟨_, rfl⟩
          rw [hM] at HSAME HX2 ⊢
          (try simp only [Act.put, List.getElem_toArray, List.getElem_cons_zero, List.getElem_cons_succ, List.setIfInBounds_toArray, List.set_cons_zero, List.set_cons_succ])
          refine wpAnyH_take (i := 6) (v := (.tuple #[.slice p6 M.length c6, .int .i64 0])) rfl (by kernel_rfl) (by kernel_rfl) (by kernel_rfl) (fun _ _ _ h => h) (Or.inl ⟨by rfl, by (intro w hSw; (try dsimp only at hSw); go_simp)⟩) hHeld ?_
          (try simp only [Act.put, List.getElem_toArray, List.getElem_cons_zero, List.getElem_cons_succ, List.setIfInBounds_toArray, List.set_cons_zero, List.set_cons_succ])
          refine wpAnyH_take (i := 7) (v := (.slice p6 M.length c6)) rfl (by kernel_rfl) (by kernel_rfl) (by kernel_rfl) (fun _ _ _ h => h) (Or.inl ⟨by rfl, by (intro w hSw; (try dsimp only at hSw); go_simp)⟩) hHeld ?_
          (try simp only [Act.put, List.getElem_toArray, List.getElem_cons_zero, List.getElem_cons_succ, List.setIfInBounds_toArray, List.set_cons_zero, List.set_cons_succ])
          refine wpAnyH_take (i := 8) (v := (.int .i64 0)) rfl (by kernel_rfl) (by kernel_rfl) (by kernel_rfl) (fun _ _ _ h => h) (Or.inl ⟨by rfl, by (intro w hSw; (try dsimp only at hSw); go_simp)⟩) hHeld ?_
          (try simp only [Act.put, List.getElem_toArray, List.getElem_cons_zero, List.getElem_cons_succ, List.setIfInBounds_toArray, List.set_cons_zero, List.set_cons_succ])
          refine wpAnyH_take (i := 9) (v := (.slice p6 M.length c6)) rfl (by kernel_rfl) (by kernel_rfl) (by kernel_rfl) (fun _ _ _ h => h) (Or.inl ⟨by rfl, by (intro w hSw; (try dsimp only at hSw); go_simp)⟩) hHeld ?_
          (try simp only [Act.put, List.getElem_toArray, List.getElem_cons_zero, List.getElem_cons_succ, List.setIfInBounds_toArray, List.set_cons_zero, List.set_cons_succ])
          refine wpAnyH_take (i := 10) (v := (.int .i64 0)) rfl (by kernel_rfl) (by kernel_rfl) (by kernel_rfl) (fun _ _ _ h => h) (Or.inl ⟨by rfl, by (intro w hSw; (try dsimp only at hSw); go_simp)⟩) hHeld ?_
          (try simp only [Act.put, List.getElem_toArray, List.getElem_cons_zero, List.getElem_cons_succ, List.setIfInBounds_toArray, List.set_cons_zero, List.set_cons_succ])
          refine wpAnyH_done (by kernel_rfl) ?_ _
          have hkNI : (k : Int) ≤ (N : Int) := by omega
          have hcapI : (N : Int) ≤ (c5 : Int) := by omega
          have hsub : IntKind.i64.wrap ((s.size : Int) - (n1 : Int)) = (s.size : Int) - (n1 : Int) := IntWalk.i64_in _ (by omega)
          have hpl1 : ¬ ((x.2.1 : Nat) : Int) < 1 := by omega
          have hpl2 : ¬ ((s.size : Int) - (n1 : Int)) < ((x.2.1 : Nat) : Int) := by omega
          have ce := HC1.out w4 HB4.out
          have HSM := Lib.hid (sameraws_any (fun b h => h) (fun b (h : b < w2.heap.size) => Nat.lt_of_lt_of_le h HB4.out.size) HX2.out (HXD.out w4 HB4.out) (by have := pcA_len HMAY.out kf _ ((bl s).drop n1) (Nat.le_refl _); rw [hM, List.length_drop, bl_len] at this; omega))
          rw [HSAME.out, HDL.out] at HSM
          clear HX2 HXD HSAME hM HRF HS2
          generalize M.length = ml at *
          generalize x.2.1 = pl at *
          have hNk : (N : Int) - (k : Int) = ((N - k : Nat) : Int) := by omega
          have hck : (c5 : Int) - (k : Int) = ((c5 - k : Nat) : Int) := by omega
          go_wp2_with fail
          refine HSM.out.mono ?_
          rintro _ w5 ⟨rfl, hb⟩
          have S5 := Lib.hid (S4.out.up hb)
          have HB5 : Hid (Below w2.heap.size w2 w5) := Lib.hid (HB4.out.trans (hb.mono HB4.out.size))
          have ce5 := HC1.out w5 HB5.out
          clear hb HSM S4 HB4 ce HC1
          go_wp2_with fail
          go_roundw
          case rel => exact ⟨k + 1, n1 + pl, by go_num, by go_num, by omega, GP, by omega, S5, HB5⟩
          case measure => simp [intOf]; omega
        · have S3 := HS
          clear HP HB HXV HN HL
          by_cases hlt2 : k < N
          · have h40 : ¬ (k : Int) < 40 := by omega
            have hkI : (k : Int) < (N : Int) := by omega
            go_wp2_with fail
            refine (alive10_any _).mono ?_
            rintro _ w3 ⟨rfl, hb⟩
            have HBF := Lib.hid (S3.out.1.trans (hb.mono S3.out.1.size))
            clear hb S3 HS
            go_wp2_with fail
            go_ret
            exact ⟨rfl, HBF.out⟩
          · have hkI : ¬ (k : Int) < (N : Int) := by omega
            go_wp2_with fail
            refine (alive10_any _).mono ?_
            rintro _ w3 ⟨rfl, hb⟩
            have HBF := Lib.hid (S3.out.1.trans (hb.mono S3.out.1.size))
            clear hb S3 HS
            go_wp2_with fail
            go_ret
            exact ⟨rfl, HBF.out⟩
    · have hL := (HX.out.resolve_left (fun h => h0 h.1)).2
      subst hL
      have hN0 : N = 0 := HN.out.symm
      subst hN0
      have hne : (E != 0) = true := by simp [h0]
      have S3 := S2
      clear HX HXV HN
      go_wp2_with fail
      refine (alive10_any _).mono ?_
      rintro _ w3 ⟨rfl, hb⟩
      have HB := Lib.hid (S3.out.1.trans (hb.mono S3.out.1.size))
      clear hb S2 S3
      go_wp2_with fail
      go_ret
      exact ⟨rfl, HB.out⟩
end Go.Proofs.Ytbdbnjbafampaaa
