/- Package raws. -/
import Derived.Test.YtbdbnjbafampaaaProg
import Derived.Test.YtbdbnjbafampaaaRp
import Derived.Test.YtbdbnjbafampaaaRo
import Derived.Test.YtbdbnjbafampaaaDg
import Derived.Test.YtbdbnjbafampaaaDn
import Derived.WalkKit
import Derived.BigFrame
import Derived.WalkMore
import Derived.ScopeJumps
import Derived.StillTailTactics
import Derived.Stop.BytesEq
import Derived.WalkLawsBesides
import Derived.WalkSpells
import Derived.Outline
import Derived.Lib.Walk
import Derived.Lib.Hide
import Derived.Lib.Slices
import Derived.Lib.Strings
import Derived.RegionTactic
import Derived.LoopTactic
import Derived.Below
import Derived.IntWalk
import Derived.Deep.QuietTactic
import Derived.BigQuiet
import Derived.Deep.MidRow
import Derived.Maps.AppendAt
import Derived.Laws.Rows
import Derived.Laws.Tables
import Derived.Deep.WholeRow
import Derived.Deep.Cut
import Derived.Deep.CutRange
import Derived.Lib.SliceRun
import Derived.Laws.MakeOwn
import Derived.Deep.RegionLaw
import Derived.Deep.RegionLawGrows
import Derived.Deep.RegionHeld3
import Derived.RegionCalls
import Derived.Deep.RegionWith
import Derived.Deep.Light
import Derived.Laws.CopyOwn
import Derived.Laws.ResultCell
namespace Go.Proofs.Ytbdbnjbafampaaa
set_option linter.unusedSimpArgs false
set_option linter.unusedVariables false
set_option maxRecDepth 100000
open Go.RowKit
/- RawsCuts. -/
set_option maxHeartbeats 16000000 in
theorem cuts_any {D : Nat → Prop} {w : World} {d : Df} {ds : Array Value} {p q : Option Addr} {c f : Nat} {ts : List R6.RT} {fr : Nat} {qr : Option Addr} (s : ByteArray) (hd : DC d ds p q c f) (hm : DM D w d p q c f) (hDw : ∀ b, D b → b < w.heap.size) (hV : R6.RuV D w ts (.slice qr ts.length fr)) (hl : ts.length ≤ 9223372036854775806) (hwid : ∀ t ∈ ts, R6.wid t ≤ 9223372036854775806) (hs : s.size ≤ 9223372036854775805) :
    Calls Try.prog 11 #[.slice qr ts.length fr, .agg ds, .string s] w fun e w' => e = .returned (.bool true) ∧ Below w.heap.size w w' := by
  have HSZ := Lib.hid hd.sz
  have HD := Lib.hid hd
  have HM := Lib.hid hm
  have HV := Lib.hid hV
  have HDW := Lib.hid hDw
  have HWID := Lib.hid hwid
  have HK := Lib.hid (kv_rules hDw hV)
  have hz26 := (zero_of_info info26r).1
  have S0 := Lib.hid ((Sb.start w).alloc (.cells ds 26))
  obtain ⟨n, hn⟩ : ∃ n, ts.length = n := ⟨_, rfl⟩
  have HN := Lib.hid hn
  rw [hn] at HV HK hl ⊢
  clear hd hm hDw hV hwid hn
  have HBG := Lib.hid (big_any 20000 (by omega) HD.out (HM.out.up S0.out.1))
  have HRB : Hid (∀ z, Below w.heap.size w z → Calls Try.prog 32 #[.slice qr n fr, .int .i64 5000] z fun e w' => e = .returned (.bool (decide (5000 < n) || decide (5000 < R6.szL ts + 1))) ∧ Below z.heap.size z w') := Lib.hid fun z hz => by
    have h := R6.rulesbig_any (w := z) (ts := ts) (q := qr) (f := fr) 5000 (by omega) (fun b h => Nat.lt_of_lt_of_le (HDW.out b h) hz.size) (by rw [HN.out]; exact HV.out.upb HDW.out hz) (by rw [HN.out]; exact hl) HWID.out
    rw [HN.out] at h
    exact h
  have HB0 : Hid (BX (w.alloc (.cells ds 26)) w.heap.size ds) := Lib.hid S0.out.heap
  go_enter Try.func11, Try.ntmps11
  obtain ⟨bg, hbg⟩ : ∃ bg, bigD 20000 d = bg := ⟨_, rfl⟩
  rw [hbg] at HBG
  obtain ⟨rb, hrb⟩ : ∃ rb, (decide (5000 < n) || decide (5000 < R6.szL ts + 1)) = rb := ⟨_, rfl⟩
  rw [hrb] at HRB
  have HBGE := Lib.hid hbg
  have HRBE := Lib.hid hrb
  clear hbg hrb
  go_upto_region 1 with fail
  go_cut [31] from 16 to 31 (fun s31 wx => (s31 = .bool true ∨ (s31 = .bool false ∧ (s.size ≤ 300 ∨ 65536 < s.size) ∧ bg = false ∧ rb = false)) ∧ Hid (Sb w wx [(w.heap.size, .cells ds 26)]))
  case first =>
    by_cases h1 : 300 < s.size
    · have h1' : (300 : Int) < (s.size : Int) := by omega
      by_cases h2 : s.size ≤ 65536
      · have h2' : (s.size : Int) ≤ 65536 := by omega
        have h3' : ¬ (65536 : Int) < (s.size : Int) := by omega
        go_wp2_with fail
        go_meet
        case rel => exact ⟨.inl rfl, S0⟩
      · have h2' : ¬ (s.size : Int) ≤ 65536 := by omega
        have h3' : (65536 : Int) < (s.size : Int) := by omega
        go_wp2_with (refine wpList_load_Dg _ rfl w.heap.size ds rfl HB0.out HSZ.out rfl ?_)
        refine HBG.out.mono ?_
        rintro _ w1 ⟨rfl, hb⟩
        have S1 := Lib.hid (S0.out.up hb)
        clear hb
        cases bg with
        | true =>
          go_wp2_with fail
          go_meet
          case rel => exact ⟨.inl rfl, S1⟩
        | false =>
          go_wp2_with fail
          refine (HRB.out _ S1.out.1).mono ?_
          rintro _ w2 ⟨rfl, hb⟩
          have S2 := Lib.hid (S1.out.up hb)
          clear hb
          go_wp2_with fail
          go_meet
          case rel =>
            cases rb with
            | true => exact ⟨.inl rfl, S2⟩
            | false => exact ⟨.inr ⟨by first | rfl | trivial, .inr (by omega), by first | rfl | trivial, by first | rfl | trivial⟩, S2⟩
    · have h1' : ¬ (300 : Int) < (s.size : Int) := by omega
      go_wp2_with (refine wpList_load_Dg _ rfl w.heap.size ds rfl HB0.out HSZ.out rfl ?_)
      refine HBG.out.mono ?_
      rintro _ w1 ⟨rfl, hb⟩
      have S1 := Lib.hid (S0.out.up hb)
      clear hb
      cases bg with
      | true =>
        go_wp2_with fail
        go_meet
        case rel => exact ⟨.inl rfl, S1⟩
      | false =>
        go_wp2_with fail
        refine (HRB.out _ S1.out.1).mono ?_
        rintro _ w2 ⟨rfl, hb⟩
        have S2 := Lib.hid (S1.out.up hb)
        clear hb
        go_wp2_with fail
        go_meet
        case rel =>
          cases rb with
          | true => exact ⟨.inl rfl, S2⟩
          | false => exact ⟨.inr ⟨by first | rfl | trivial, .inl (by omega), by first | rfl | trivial, by first | rfl | trivial⟩, S2⟩
  case rest =>
    obtain ⟨hcut, hS⟩ := hcut
    clear S0 HB0 HBG HRB
    rcases hcut with rfl | ⟨rfl, hc2, rfl, rfl⟩
    · go_wp2_with fail
      go_ret
      exact ⟨rfl, hS.out.1⟩
    · have hno := bigD_no HBGE.out
      have HL1 : Hid (d.nx.length ≤ 1000000) := Lib.hid (by omega)
      have HL2 : Hid (d.rl.length ≤ 1000000) := Lib.hid (by omega)
      have HL3 : Hid (∀ r ∈ d.nx, r.length ≤ 1000000) := Lib.hid fun r hr => by have := sumL_mem hr; omega
      have hn5 : n ≤ 5000 := by have := HRBE.out; simp at this; omega
      have HS5 : Hid (R6.szL ts ≤ 5000) := Lib.hid (by have := HRBE.out; simp at this; omega)
      clear hno HBGE HRBE
      go_upto_region 3 with fail
      have HTR : Hid (∀ v, Below w.heap.size w v → Calls Try.prog 33 #[.slice qr n fr] v fun e v2 => (∃ g cap, e = .returned (.slice (some ⟨g, 0, none⟩) n cap) ∧ R6.TRul (fun b => v.heap.size ≤ b ∧ b < v2.heap.size) v2 ts (R6.kdO qr w) g cap) ∧ Below v.heap.size v v2) := Lib.hid fun v hv => by
        have h := twin_kinds (HDW.out) (by rw [HN.out]; exact HV.out) (by rw [HN.out]; omega) (fun t ht => Nat.le_trans (wid_mem ht) (Nat.le_trans HS5.out (by omega))) hv
        rw [HN.out] at h
        exact h
      have HTD : Hid (∀ v, Below w.heap.size w v → Calls Try.prog 16 #[.agg ds] v (TwD v d)) := Lib.hid fun v hv => twin_dfa HD.out (HM.out.up hv) HL1.out HL2.out HL3.out
      go_cut [7, 8] from 16 to 96 (fun s7 s8 wx => ∃ es g cap b8 B g2 cap2 q2 f2, s7 = .slice (some ⟨g, 0, none⟩) n cap ∧ s8 = .pointer (some ⟨b8, 0, none⟩) ∧ Hid (CutT w wx d ds es ts (R6.kdO qr w) g cap b8 B g2 cap2 q2 f2))
      case first =>
        refine wp_region_held_drew (S := fun v => Sb w v [(w.heap.size, .cells ds 26)]) (by kernel_rfl) hS.out.drew (fun hHeld => ?_)
        have SV := Lib.hid hS.out.drew
        refine wpAnyH_take (i := 0) (v := (.slice qr n fr)) rfl (by kernel_rfl) (by kernel_rfl) (by kernel_rfl) (fun _ _ _ h => h) (Or.inl ⟨by rfl, by (intro w hSw; (try dsimp only at hSw); go_simp)⟩) hHeld ?_
        (try simp only [Act.put, List.getElem_toArray, List.getElem_cons_zero, List.getElem_cons_succ, List.setIfInBounds_toArray, List.set_cons_zero, List.set_cons_succ])
        refine wpAnyH_take (i := 2) (v := .agg ds) rfl (by kernel_rfl) (by kernel_rfl) (by kernel_rfl) (fun _ _ _ h => h) (yieldsIf_load_D (by rfl) (.tmp 4) rfl w.heap.size rfl (fun v hv => hv.heap) HSZ.out) hHeld ?_
        (try simp only [Act.put, List.getElem_toArray, List.getElem_cons_zero, List.getElem_cons_succ, List.setIfInBounds_toArray, List.set_cons_zero, List.set_cons_succ])
        refine wpAnyH_ready (rs := [1, 4]) (by kernel_rfl) (by simp) ?_
        refine AllReadyH.cons rfl (fun K hK => ?_) (AllReadyH.cons rfl (fun K hK => ?_) AllReadyH.nil)
        · rw [if_pos (by rfl)]
          go_wp2_with fail
          refine (HTR.out _ SV.out.1).mono ?_
          rintro _ v1 ⟨⟨g, cap, rfl, hT⟩, hb⟩
          have HT := Lib.hid hT
          have HTU : Hid (Kp (wc.drew).heap.size v1 v1) := Lib.hid (Kp.refl _ _)
          have SV := Lib.hid (SV.out.up hb)
          clear hT hb
          refine hK.out _ _ SV.out (fun hHeld2 => ?_)
          clear hHeld hK
          have hHeld := hHeld2
          clear hHeld2
          (try simp only [Act.put, List.getElem_toArray, List.getElem_cons_zero, List.getElem_cons_succ, List.setIfInBounds_toArray, List.set_cons_zero, List.set_cons_succ])
          refine wpAnyH_ready (rs := [3, 4]) (by kernel_rfl) (by simp) ?_
          refine AllReadyH.cons rfl (fun K hK => ?_) (AllReadyH.cons rfl (fun K hK => ?_) AllReadyH.nil)
          · rw [if_pos (by rfl)]
            go_wp2_with fail
            refine (HTD.out _ SV.out.1).mono ?_
            rintro _ v2 ⟨es, g2, cap2, zs, ms, q2, f2, rfl, hde, h1, h2, h3, h4, h5, hb⟩
            have HTU := Lib.hid (HTU.out.up (hb))
            have HD2 : Hid (TD (v1).heap.size v2 d g2 cap2 q2 f2) := Lib.hid ⟨⟨zs, ms, h1, h2, h3, h4⟩, h5⟩
            have HDE := Lib.hid hde
            have HDU : Hid (Kp (v1).heap.size v2 v2) := Lib.hid (Kp.refl _ _)
            have SV := Lib.hid (SV.out.up hb)
            clear h1 h2 h3 h4 h5 hde hb
            refine hK.out _ _ SV.out (fun hHeld2 => ?_)
            clear hHeld hK
            have hHeld := hHeld2
            clear hHeld2
            (try simp only [Act.put, List.getElem_toArray, List.getElem_cons_zero, List.getElem_cons_succ, List.setIfInBounds_toArray, List.set_cons_zero, List.set_cons_succ])
            refine wpAnyH_ready (rs := [4]) (by kernel_rfl) (by simp) ?_
            refine AllReadyH.cons rfl (fun K hK => ?_) AllReadyH.nil
            rw [if_pos (by rfl)]
            go_wp2_with fail
            have SVO := SV
            have hbA : Below (v2).heap.size v2 (v2.alloc (.cells zero26 26)) := (Below.refl (v2).heap.size v2).alloc (Nat.le_refl _) (.cells zero26 26)
            have hTS1 := HTU.out.1
            have hDS1 := HDU.out.1
            have HTU := Lib.hid (HTU.out.up (hbA))
            have HDU := Lib.hid (HDU.out.up (hbA))
            have HA : Hid ((v2.alloc (.cells zero26 26)).heap[v2.heap.size]? = some (.cells zero26 26 (0, 0))) := Lib.hid (heap_alloc_last (v2) _)
            have SV : Hid (Sb w (v2.alloc (.cells zero26 26)) [(w.heap.size, .cells ds 26)]) := Lib.hid (SV.out.up hbA)
            have HLB : Hid (w.heap.size < v2.heap.size) := Lib.hid (by have := SVO.out.lt; exact this)
            obtain ⟨b8, hb8⟩ : ∃ b8, v2.heap.size = b8 := ⟨_, rfl⟩
            have HTS : Hid (v1.heap.size ≤ b8 ∨ b8 < (wc.drew).heap.size) := Lib.hid (.inl (by rw [← hb8]; exact hTS1))
            clear hTS1
            have HDS : Hid (v2.heap.size ≤ b8 ∨ b8 < (v1).heap.size) := Lib.hid (.inl (by rw [← hb8]; exact hDS1))
            clear hDS1
            rw [hb8] at HA HLB ⊢
            obtain ⟨v3, hv8⟩ : ∃ z, (v2.alloc (.cells zero26 26)) = z := ⟨_, rfl⟩
            rw [hv8] at HA SV HTU HDU ⊢
            clear hbA hb8 hv8 SVO
            refine hK.out _ _ SV.out (fun hHeld2 => ?_)
            clear hHeld hK
            have hHeld := hHeld2
            clear hHeld2
            (try simp only [Act.put, List.getElem_toArray, List.getElem_cons_zero, List.getElem_cons_succ, List.setIfInBounds_toArray, List.set_cons_zero, List.set_cons_succ])
            refine wpAnyH_take (i := 5) (v := (.slice (some ⟨g, 0, none⟩) n cap)) rfl (by kernel_rfl) (by kernel_rfl) (by kernel_rfl) (fun _ _ _ h => h) (Or.inl ⟨by rfl, by (intro w hSw; (try dsimp only at hSw); go_simp)⟩) hHeld ?_
            (try simp only [Act.put, List.getElem_toArray, List.getElem_cons_zero, List.getElem_cons_succ, List.setIfInBounds_toArray, List.set_cons_zero, List.set_cons_succ])
            refine wpAnyH_ready (rs := [6]) (by kernel_rfl) (by simp) ?_
            refine AllReadyH.cons rfl (fun K hK => ?_) AllReadyH.nil
            rw [if_pos (by rfl)]
            refine wp_store_row 26 (.tmp 8) (.tmp 35) rfl b8 es rfl rfl 26 _ HA.out (by rw [info26, HDE.out.sz]) (by rw [zero26_size, HDE.out.sz]) (Array.all_eq_true_iff_forall_mem.2 HDE.out.one) ?_
            have hcut := cut_store HLB.out SV.out HT.out HTU.out HTS.out HD2.out HDU.out HDS.out HDE.out HA.out
            refine hK.out _ _ (Sb.tl hcut.S) (fun hHeld3 => ?_)
            refine wpAnyH_done (by kernel_rfl) ?_ _
            go_wp2_with fail
            go_meet
            case rel => exact ⟨es, g, cap, b8, _, g2, cap2, q2, f2, rfl, rfl, Lib.hid hcut⟩
          · rw [if_pos (by rfl)]
            go_wp2_with fail
            have SVO := SV
            have hbA : Below (v1).heap.size v1 (v1.alloc (.cells zero26 26)) := (Below.refl (v1).heap.size v1).alloc (Nat.le_refl _) (.cells zero26 26)
            have hTS1 := HTU.out.1
            have HTU := Lib.hid (HTU.out.up (hbA))
            have HA : Hid ((v1.alloc (.cells zero26 26)).heap[v1.heap.size]? = some (.cells zero26 26 (0, 0))) := Lib.hid (heap_alloc_last (v1) _)
            have SV : Hid (Sb w (v1.alloc (.cells zero26 26)) [(w.heap.size, .cells ds 26)]) := Lib.hid (SV.out.up hbA)
            have HLB : Hid (w.heap.size < v1.heap.size) := Lib.hid (by have := SVO.out.lt; exact this)
            obtain ⟨b8, hb8⟩ : ∃ b8, v1.heap.size = b8 := ⟨_, rfl⟩
            have HTS : Hid (v1.heap.size ≤ b8 ∨ b8 < (wc.drew).heap.size) := Lib.hid (.inl (by rw [← hb8]; exact hTS1))
            clear hTS1
            rw [hb8] at HA HLB ⊢
            obtain ⟨v4, hv8⟩ : ∃ z, (v1.alloc (.cells zero26 26)) = z := ⟨_, rfl⟩
            rw [hv8] at HA SV HTU ⊢
            clear hbA hb8 hv8 SVO
            refine hK.out _ _ SV.out (fun hHeld2 => ?_)
            clear hHeld hK
            have hHeld := hHeld2
            clear hHeld2
            (try simp only [Act.put, List.getElem_toArray, List.getElem_cons_zero, List.getElem_cons_succ, List.setIfInBounds_toArray, List.set_cons_zero, List.set_cons_succ])
            refine wpAnyH_ready (rs := [3]) (by kernel_rfl) (by simp) ?_
            refine AllReadyH.cons rfl (fun K hK => ?_) AllReadyH.nil
            rw [if_pos (by rfl)]
            go_wp2_with fail
            refine (HTD.out _ SV.out.1).mono ?_
            rintro _ v5 ⟨es, g2, cap2, zs, ms, q2, f2, rfl, hde, h1, h2, h3, h4, h5, hb⟩
            have HA0 := HA
            have HTU := Lib.hid (HTU.out.up (hb))
            have HA := Lib.hid (((hb).block _ (Array.getElem?_eq_some_iff.1 HA.out).1).trans HA.out)
            have HD2 : Hid (TD (v4).heap.size v5 d g2 cap2 q2 f2) := Lib.hid ⟨⟨zs, ms, h1, h2, h3, h4⟩, h5⟩
            have HDE := Lib.hid hde
            have HDU : Hid (Kp (v4).heap.size v5 v5) := Lib.hid (Kp.refl _ _)
            have HDS : Hid (v5.heap.size ≤ b8 ∨ b8 < (v4).heap.size) := Lib.hid (.inr (Array.getElem?_eq_some_iff.1 HA0.out).1)
            have SV := Lib.hid (SV.out.up hb)
            clear h1 h2 h3 h4 h5 hde hb
            refine hK.out _ _ SV.out (fun hHeld2 => ?_)
            clear hHeld hK
            have hHeld := hHeld2
            clear hHeld2
            (try simp only [Act.put, List.getElem_toArray, List.getElem_cons_zero, List.getElem_cons_succ, List.setIfInBounds_toArray, List.set_cons_zero, List.set_cons_succ])
            refine wpAnyH_take (i := 5) (v := (.slice (some ⟨g, 0, none⟩) n cap)) rfl (by kernel_rfl) (by kernel_rfl) (by kernel_rfl) (fun _ _ _ h => h) (Or.inl ⟨by rfl, by (intro w hSw; (try dsimp only at hSw); go_simp)⟩) hHeld ?_
            (try simp only [Act.put, List.getElem_toArray, List.getElem_cons_zero, List.getElem_cons_succ, List.setIfInBounds_toArray, List.set_cons_zero, List.set_cons_succ])
            refine wpAnyH_ready (rs := [6]) (by kernel_rfl) (by simp) ?_
            refine AllReadyH.cons rfl (fun K hK => ?_) AllReadyH.nil
            rw [if_pos (by rfl)]
            refine wp_store_row 26 (.tmp 8) (.tmp 35) rfl b8 es rfl rfl 26 _ HA.out (by rw [info26, HDE.out.sz]) (by rw [zero26_size, HDE.out.sz]) (Array.all_eq_true_iff_forall_mem.2 HDE.out.one) ?_
            have hcut := cut_store HLB.out SV.out HT.out HTU.out HTS.out HD2.out HDU.out HDS.out HDE.out HA.out
            refine hK.out _ _ (Sb.tl hcut.S) (fun hHeld3 => ?_)
            refine wpAnyH_done (by kernel_rfl) ?_ _
            go_wp2_with fail
            go_meet
            case rel => exact ⟨es, g, cap, b8, _, g2, cap2, q2, f2, rfl, rfl, Lib.hid hcut⟩
        · rw [if_pos (by rfl)]
          go_wp2_with fail
          have SVO := SV
          have hbA : Below (wc.drew).heap.size wc.drew (wc.alloc (.cells zero26 26)).drew := (Below.refl (wc.drew).heap.size wc.drew).alloc (Nat.le_refl _) (.cells zero26 26)
          have HA : Hid ((wc.alloc (.cells zero26 26)).drew.heap[wc.heap.size]? = some (.cells zero26 26 (0, 0))) := Lib.hid (heap_alloc_last (wc.drew) _)
          have SV : Hid (Sb w (wc.alloc (.cells zero26 26)).drew [(w.heap.size, .cells ds 26)]) := Lib.hid (SV.out.up hbA)
          have HLB : Hid (w.heap.size < wc.heap.size) := Lib.hid (by have := SVO.out.lt; exact this)
          obtain ⟨b8, hb8⟩ : ∃ b8, wc.heap.size = b8 := ⟨_, rfl⟩
          rw [hb8] at HA HLB ⊢
          obtain ⟨v6, hv8⟩ : ∃ z, (wc.alloc (.cells zero26 26)).drew = z := ⟨_, rfl⟩
          rw [hv8] at HA SV ⊢
          clear hbA hb8 hv8 SVO
          refine hK.out _ _ SV.out (fun hHeld2 => ?_)
          clear hHeld hK
          have hHeld := hHeld2
          clear hHeld2
          (try simp only [Act.put, List.getElem_toArray, List.getElem_cons_zero, List.getElem_cons_succ, List.setIfInBounds_toArray, List.set_cons_zero, List.set_cons_succ])
          refine wpAnyH_ready (rs := [1]) (by kernel_rfl) (by simp) ?_
          refine AllReadyH.cons rfl (fun K hK => ?_) AllReadyH.nil
          rw [if_pos (by rfl)]
          go_wp2_with fail
          refine (HTR.out _ SV.out.1).mono ?_
          rintro _ v7 ⟨⟨g, cap, rfl, hT⟩, hb⟩
          have HA0 := HA
          have HA := Lib.hid (((hb).block _ (Array.getElem?_eq_some_iff.1 HA.out).1).trans HA.out)
          have HT := Lib.hid hT
          have HTU : Hid (Kp (v6).heap.size v7 v7) := Lib.hid (Kp.refl _ _)
          have HTS : Hid (v7.heap.size ≤ b8 ∨ b8 < (v6).heap.size) := Lib.hid (.inr (Array.getElem?_eq_some_iff.1 HA0.out).1)
          have SV := Lib.hid (SV.out.up hb)
          clear hT hb
          refine hK.out _ _ SV.out (fun hHeld2 => ?_)
          clear hHeld hK
          have hHeld := hHeld2
          clear hHeld2
          (try simp only [Act.put, List.getElem_toArray, List.getElem_cons_zero, List.getElem_cons_succ, List.setIfInBounds_toArray, List.set_cons_zero, List.set_cons_succ])
          refine wpAnyH_ready (rs := [3]) (by kernel_rfl) (by simp) ?_
          refine AllReadyH.cons rfl (fun K hK => ?_) AllReadyH.nil
          rw [if_pos (by rfl)]
          go_wp2_with fail
          refine (HTD.out _ SV.out.1).mono ?_
          rintro _ v8 ⟨es, g2, cap2, zs, ms, q2, f2, rfl, hde, h1, h2, h3, h4, h5, hb⟩
          have HA0 := HA
          have HTU := Lib.hid (HTU.out.up (hb))
          have HA := Lib.hid (((hb).block _ (Array.getElem?_eq_some_iff.1 HA.out).1).trans HA.out)
          have HD2 : Hid (TD (v7).heap.size v8 d g2 cap2 q2 f2) := Lib.hid ⟨⟨zs, ms, h1, h2, h3, h4⟩, h5⟩
          have HDE := Lib.hid hde
          have HDU : Hid (Kp (v7).heap.size v8 v8) := Lib.hid (Kp.refl _ _)
          have HDS : Hid (v8.heap.size ≤ b8 ∨ b8 < (v7).heap.size) := Lib.hid (.inr (Array.getElem?_eq_some_iff.1 HA0.out).1)
          have SV := Lib.hid (SV.out.up hb)
          clear h1 h2 h3 h4 h5 hde hb
          refine hK.out _ _ SV.out (fun hHeld2 => ?_)
          clear hHeld hK
          have hHeld := hHeld2
          clear hHeld2
          (try simp only [Act.put, List.getElem_toArray, List.getElem_cons_zero, List.getElem_cons_succ, List.setIfInBounds_toArray, List.set_cons_zero, List.set_cons_succ])
          refine wpAnyH_take (i := 5) (v := (.slice (some ⟨g, 0, none⟩) n cap)) rfl (by kernel_rfl) (by kernel_rfl) (by kernel_rfl) (fun _ _ _ h => h) (Or.inl ⟨by rfl, by (intro w hSw; (try dsimp only at hSw); go_simp)⟩) hHeld ?_
          (try simp only [Act.put, List.getElem_toArray, List.getElem_cons_zero, List.getElem_cons_succ, List.setIfInBounds_toArray, List.set_cons_zero, List.set_cons_succ])
          refine wpAnyH_ready (rs := [6]) (by kernel_rfl) (by simp) ?_
          refine AllReadyH.cons rfl (fun K hK => ?_) AllReadyH.nil
          rw [if_pos (by rfl)]
          refine wp_store_row 26 (.tmp 8) (.tmp 35) rfl b8 es rfl rfl 26 _ HA.out (by rw [info26, HDE.out.sz]) (by rw [zero26_size, HDE.out.sz]) (Array.all_eq_true_iff_forall_mem.2 HDE.out.one) ?_
          have hcut := cut_store HLB.out SV.out HT.out HTU.out HTS.out HD2.out HDU.out HDS.out HDE.out HA.out
          refine hK.out _ _ (Sb.tl hcut.S) (fun hHeld3 => ?_)
          refine wpAnyH_done (by kernel_rfl) ?_ _
          go_wp2_with fail
          go_meet
          case rel => exact ⟨es, g, cap, b8, _, g2, cap2, q2, f2, rfl, rfl, Lib.hid hcut⟩
      case rest =>
        obtain ⟨es, g, cap, b8, B, g2, cap2, q2, f2, rfl, rfl, HC⟩ := hcut
        clear hS hc2
        have HESZ := Lib.hid HC.out.DE.sz
        have HBE : Hid (BX wc b8 es) := Lib.hid HC.out.S.heap
        obtain ⟨⟨L, E⟩, hX⟩ : ∃ X, rawsF d (R6.kdO qr w) n s = X := ⟨_, rfl⟩
        have HRT : Hid (∀ z, Below wc.heap.size wc z → Calls Try.prog 34 #[.slice (some ⟨g, 0, none⟩) n cap, .agg es, .string s] z (RawsP z (L, E))) := Lib.hid fun z hz => by
          have hk := kv_twin (HC.out.up hz).T
          rw [HN.out] at hk
          have h := rawsof_any (fr := cap) s HC.out.DE ((HC.out.up hz).TD.dm HL1.out HL2.out HL3.out) hk hl hs
          rw [hX] at h
          exact h
        have HRF : Hid (∀ z, Below w.heap.size w z → Calls Try.prog 35 #[.slice qr n fr, .agg ds, .string s] z (RawsP z (L, E))) := Lib.hid fun z hz => by
          have h := refraws_any (fr := fr) s HD.out (HM.out.up hz) (HK.out.up hz) hl hs
          rw [hX] at h
          exact h
        have HLL := Lib.hid (rawsF_len hX)
        clear hX
        unfold RawsP at HRT HRF
        simp only [] at HRT HRF
        go_wp2_with (refine wpList_load_Dg _ rfl b8 es rfl HBE.out HESZ.out rfl ?_)
        refine (HRT.out _ (Below.refl _ _)).mono ?_
        rintro _ w2 ⟨sl, rfl, hro, hb⟩
        have HB2 := Lib.hid hb
        have S2 := Lib.hid (HC.out.S.up hb)
        obtain ⟨p1, c1, hsl, hx1⟩ := hro.form
        subst hsl
        obtain ⟨N, hN⟩ : ∃ N, L.length = N := ⟨_, rfl⟩
        have HNL := Lib.hid hN
        have hrow : 0 < N → ∃ g3 cur, p1 = some ⟨g3, 0, none⟩ ∧ wc.heap.size ≤ g3 ∧ g3 < w2.heap.size ∧ w2.heap[g3]? = some (.cells cur 60) ∧ N * 3 ≤ cur.size := fun h0 => hro.row (by omega) hN
        rw [hN] at hx1 ⊢
        have HX1 := Lib.hid hx1
        have HROW := Lib.hid hrow
        have HBD : Hid (BX w2 w.heap.size ds) := Lib.hid S2.out.tl.heap
        clear hro hb hrow hx1 HBE hN
        go_wp2_with (refine wpList_load_Dg _ rfl w.heap.size ds rfl HBD.out HSZ.out rfl ?_)
        refine (HRF.out _ S2.out.1).mono ?_
        rintro _ w3 ⟨sl2, rfl, hro, hb⟩
        have HB3 : Hid (Below wc.heap.size wc w3) := Lib.hid (HB2.out.trans (hb.mono HB2.out.size))
        have S3 := Lib.hid (S2.out.up hb)
        have hx2 := hro.xv
        obtain ⟨p3, c3, hsl⟩ := row_form hro
        subst hsl
        (try simp only [] at hx2)
        have hx3 := hx2.mono (E := fun b => w2.heap.size ≤ b ∧ b < w3.heap.size) (w' := w3) (fun b h => ⟨h.1, h.2.1⟩) (fun _ _ _ => rfl)
        have HROW3 : Hid (0 < N → ∃ g3 cur, p1 = some ⟨g3, 0, none⟩ ∧ wc.heap.size ≤ g3 ∧ g3 < w2.heap.size ∧ w3.heap[g3]? = some (.cells cur 60) ∧ N * 3 ≤ cur.size) := Lib.hid fun h0 => by
          obtain ⟨g3, cur, h1, h2, h3, h4, h5⟩ := HROW.out h0
          exact ⟨g3, cur, h1, h2, h3, (hb.block g3 h3).trans h4, h5⟩
        simp only [HNL.out] at hx3 ⊢
        have HX3 := Lib.hid hx3
        have HX13 : Hid (XV (fun b => b < w2.heap.size) w3 L (.slice p1 N c1)) := Lib.hid (HX1.out.up (fun b h => h) hb)
        have HLE : Hid (w2.heap.size ≤ w3.heap.size) := Lib.hid hb.size
        have hNlim : N ≤ 9223372036854775806 := by have := HLL.out; rw [HNL.out] at this; omega
        clear hx2 hx3 hro hb HROW HX1 HBD HB2 S2
        have hee : (E != E) = false := by simp
        have HSM : Hid (Calls Try.prog 36 #[.slice p1 N c1, .slice p3 N c3] w3 fun e z => e = .returned (.bool true) ∧ Below w3.heap.size w3 z) := Lib.hid (by
          have h := sameraws_any (l := L) (l' := L) (p := p1) (p' := p3) (c := c1) (c' := c3) (fun b (h : b < w2.heap.size) => Nat.lt_of_lt_of_le h HLE.out) (fun b (h : w2.heap.size ≤ b ∧ b < w3.heap.size) => h.2) (by rw [HNL.out]; exact HX13.out) (by rw [HNL.out]; exact HX3.out) (by rw [HNL.out]; exact hNlim)
          rw [show sameR L L = true from decide_eq_true rfl, HNL.out] at h
          exact h)
        go_wp2_with fail
        refine HSM.out.mono ?_
        rintro _ w4 ⟨rfl, hb⟩
        have HB4 : Hid (Below wc.heap.size wc w4) := Lib.hid (HB3.out.trans (hb.mono HB3.out.size))
        have HX4 : Hid (XV (fun b => w2.heap.size ≤ b ∧ b < w3.heap.size) w4 L (.slice p3 N c3)) := Lib.hid (HX3.out.up (fun b h => h.2) hb)
        have HROW4 : Hid (0 < N → ∃ g3 cur, p1 = some ⟨g3, 0, none⟩ ∧ wc.heap.size ≤ g3 ∧ g3 < w2.heap.size ∧ w4.heap[g3]? = some (.cells cur 60) ∧ N * 3 ≤ cur.size) := Lib.hid fun h0 => by
          obtain ⟨g3, cur, h1, h2, h3, h4, h5⟩ := HROW3.out h0
          exact ⟨g3, cur, h1, h2, h3, (hb.block g3 (Nat.lt_of_lt_of_le h3 HLE.out)).trans h4, h5⟩
        have HLE4 : Hid (w3.heap.size ≤ w4.heap.size) := Lib.hid hb.size
        clear hb HSM HX13 HX3 HROW3 S3 HB3
        go_wp2_with fail
        go_loopw [13] (fun i wr => ∃ k : Nat, i = .int .i64 (k : Nat) ∧ k ≤ N ∧ Hid (Below wc.heap.size wc wr) ∧ Hid (XV (fun b => w2.heap.size ≤ b ∧ b < w3.heap.size) wr L (.slice p3 N c3)) ∧ Hid (w3.heap.size ≤ wr.heap.size) ∧ Hid (0 < N → ∃ g3 cur, p1 = some ⟨g3, 0, none⟩ ∧ wc.heap.size ≤ g3 ∧ g3 < w2.heap.size ∧ wr.heap[g3]? = some (.cells cur 60) ∧ N * 3 ≤ cur.size)) (fun i _ => N - (intOf i).toNat)
        case atStart => exact ⟨0, rfl, by omega, HB4, HX4, HLE4, HROW4⟩
        case round =>
          clear HB4 HX4 HLE4 HROW4
          obtain ⟨k, rfl, hk, HB, HX, HZ, HRW⟩ := hrel
          obtain ⟨wo, rfl⟩ : ∃ wo : World, wo = wr := ⟨_, rfl⟩
          by_cases hlt : k < N
          · obtain ⟨g3, cur, rfl, hg1, hg2, hcur, hcs⟩ := HRW.out (by omega)
            obtain ⟨x0, hx0⟩ : ∃ x, cur[k * 3]? = some x := ⟨_, Array.getElem?_eq_getElem (by omega)⟩
            obtain ⟨x1, hx1⟩ : ∃ x, cur[k * 3 + 1]? = some x := ⟨_, Array.getElem?_eq_getElem (by omega)⟩
            obtain ⟨x2, hx2⟩ : ∃ x, cur[k * 3 + 2]? = some x := ⟨_, Array.getElem?_eq_getElem (by omega)⟩
            have c0 : wo.cell? ⟨g3, k * 3, none⟩ = some x0 := (cell_of_row wo g3 _ cur 60 (0, 0) hcur).trans hx0
            have c1' : wo.cell? ⟨g3, k * 3 + 1, none⟩ = some x1 := (cell_of_row wo g3 _ cur 60 (0, 0) hcur).trans hx1
            have c2 : wo.cell? ⟨g3, k * 3 + 2, none⟩ = some x2 := (cell_of_row wo g3 _ cur 60 (0, 0) hcur).trans hx2
            have f0 : wo.frozen? ⟨g3, k * 3, none⟩ = false := frozen_of_row wo g3 _ cur 60 hcur
            have f1 : wo.frozen? ⟨g3, k * 3 + 1, none⟩ = false := frozen_of_row wo g3 _ cur 60 hcur
            have f2' : wo.frozen? ⟨g3, k * 3 + 2, none⟩ = false := frozen_of_row wo g3 _ cur 60 hcur
            have HNX : Hid (Below wc.heap.size wc (((wo.setCell ⟨g3, k * 3, none⟩ (.int .i64 0)).setCell ⟨g3, k * 3 + 1, none⟩ (.int .i64 0)).setCell ⟨g3, k * 3 + 2, none⟩ (.int .i64 0)) ∧ XV (fun b => w2.heap.size ≤ b ∧ b < w3.heap.size) (((wo.setCell ⟨g3, k * 3, none⟩ (.int .i64 0)).setCell ⟨g3, k * 3 + 1, none⟩ (.int .i64 0)).setCell ⟨g3, k * 3 + 2, none⟩ (.int .i64 0)) L (.slice p3 N c3) ∧ w3.heap.size ≤ (((wo.setCell ⟨g3, k * 3, none⟩ (.int .i64 0)).setCell ⟨g3, k * 3 + 1, none⟩ (.int .i64 0)).setCell ⟨g3, k * 3 + 2, none⟩ (.int .i64 0)).heap.size ∧ (0 < N → ∃ g4 cur, (some ⟨g3, 0, none⟩ : Option Addr) = some ⟨g4, 0, none⟩ ∧ wc.heap.size ≤ g4 ∧ g4 < w2.heap.size ∧ (((wo.setCell ⟨g3, k * 3, none⟩ (.int .i64 0)).setCell ⟨g3, k * 3 + 1, none⟩ (.int .i64 0)).setCell ⟨g3, k * 3 + 2, none⟩ (.int .i64 0)).heap[g4]? = some (.cells cur 60) ∧ N * 3 ≤ cur.size)) := Lib.hid (by
              have hs1 := heap_setCell_same wo g3 (k * 3) cur 60 (.int .i64 0) hcur
              have hs2 := heap_setCell_same _ g3 (k * 3 + 1) _ 60 (.int .i64 0) hs1
              have hs3 := heap_setCell_same _ g3 (k * 3 + 2) _ 60 (.int .i64 0) hs2
              refine ⟨((HB.out.setCell (p := ⟨g3, k * 3, none⟩) hg1 _).setCell (p := ⟨g3, k * 3 + 1, none⟩) hg1 _).setCell (p := ⟨g3, k * 3 + 2, none⟩) hg1 _, HX.out.mono (fun b h => h) (fun b h _ => ?_), by simpa using HZ.out, fun _ => ⟨g3, _, rfl, hg1, hg2, hs3, by simpa using hcs⟩⟩
              have hne : b ≠ g3 := by have := h.1; omega
              exact (heap_setCell_other _ ⟨g3, k * 3 + 2, none⟩ b _ hne).trans ((heap_setCell_other _ ⟨g3, k * 3 + 1, none⟩ b _ hne).trans (heap_setCell_other _ ⟨g3, k * 3, none⟩ b _ hne)))
            have hkI : (k : Int) < (N : Int) := by omega
            have hk0 : ¬ (k : Int) < 0 := by omega
            clear hx0 hx1 hx2 hcur hcs HRW HX HB HZ
            go_wp2_with fail
            go_roundw
            case rel => exact ⟨k + 1, by go_num, by omega, Lib.hid HNX.out.1, Lib.hid HNX.out.2.1, Lib.hid HNX.out.2.2.1, Lib.hid HNX.out.2.2.2⟩
            case measure => simp [intOf]; omega
          · obtain rfl : k = N := by omega
            have hkI : ¬ (k : Int) < (k : Int) := by omega
            have HBE : Hid (BX wo b8 es) := Lib.hid (HC.out.up HB.out).S.heap
            clear HRW
            go_wp2_with (refine wpList_load_Dg _ rfl b8 es rfl HBE.out HESZ.out rfl ?_)
            refine (HRT.out _ HB.out).mono ?_
            rintro _ w5 ⟨sl5, rfl, hro, hb⟩
            have HB5 : Hid (Below wc.heap.size wc w5) := Lib.hid (HB.out.trans (hb.mono HB.out.size))
            have HX5 : Hid (XV (fun b => w2.heap.size ≤ b ∧ b < w3.heap.size) w5 L (.slice p3 k c3)) := Lib.hid (HX.out.up (fun b h => Nat.lt_of_lt_of_le h.2 HZ.out) hb)
            have HZ5 : Hid (w3.heap.size ≤ w5.heap.size) := Lib.hid (Nat.le_trans HZ.out hb.size)
            obtain ⟨p5, c5, hsl, hx5⟩ := hro.form
            subst hsl
            rw [HNL.out] at hx5 ⊢
            have HSM : Hid (Calls Try.prog 36 #[.slice p5 k c5, .slice p3 k c3] w5 fun e z => e = .returned (.bool true) ∧ Below w5.heap.size w5 z) := Lib.hid (by
              have h := sameraws_any (l := L) (l' := L) (p := p5) (p' := p3) (c := c5) (c' := c3) (fun b (h : b < w5.heap.size) => h) (fun b (h : w2.heap.size ≤ b ∧ b < w3.heap.size) => Nat.lt_of_lt_of_le h.2 HZ5.out) (by rw [HNL.out]; exact hx5) (by rw [HNL.out]; exact HX5.out) (by rw [HNL.out]; exact hNlim)
              rw [show sameR L L = true from decide_eq_true rfl, HNL.out] at h
              exact h)
            clear hb hro hx5 HX HZ HBE
            have heq : (E == E) = true := by simp
            go_wp2_with fail
            refine HSM.out.mono ?_
            rintro _ w6 ⟨rfl, hb⟩
            have HB6 : Hid (Below wc.heap.size wc w6) := Lib.hid (HB5.out.trans (hb.mono HB5.out.size))
            clear hb HSM HX5 HZ5 HB5 HB
            have HLR : Hid (Calls Try.prog 37 #[.slice (some ⟨g, 0, none⟩) n cap, .slice qr n fr] w6 fun e z => e = .returned (.bool true) ∧ Below w6.heap.size w6 z) := Lib.hid (by
              have hw6 : Below w.heap.size w w6 := HC.out.S.1.trans (HB6.out.mono HC.out.S.1.size)
              have h := R6.leftrules_any (D := fun b => b < w6.heap.size) (E := D) (w := w6) (ts := ts) (kds := R6.kdO qr w) (q := qr) (f := fr) (g := g) (cap := cap) (fun b h => h) (fun b h => Nat.lt_of_lt_of_le (HDW.out b h) hw6.size) (HC.out.up HB6.out).T (by rw [HN.out]; omega) (fun t ht => Nat.le_trans (wid_mem ht) (Nat.le_trans HS5.out (by omega))) (fun j hj => R6.rule_cellsK (f := fr) HDW.out (by rw [HN.out]; exact HV.out) hw6 hj)
              rw [HN.out] at h
              exact h)
            go_wp2_with fail
            refine HLR.out.mono ?_
            rintro _ w7 ⟨rfl, hb⟩
            have HB7 : Hid (Below wc.heap.size wc w7) := Lib.hid (HB6.out.trans (hb.mono HB6.out.size))
            clear hb HLR HB6
            have HB7w : Hid (Below w.heap.size w w7) := Lib.hid (HC.out.S.1.trans (HB7.out.mono HC.out.S.1.size))
            have HBE : Hid (BX w7 b8 es) := Lib.hid (HC.out.up HB7.out).S.heap
            have HBD : Hid (BX w7 w.heap.size ds) := Lib.hid (HC.out.up HB7.out).S.tl.heap
            have HLD := Lib.hid (left_dfa HD.out (HM.out.up HB7w.out) HC.out.DE (HC.out.up HB7.out).TD HL1.out HL2.out HL3.out)
            go_wp2_with (first | (refine wpList_load_Dg _ rfl b8 es rfl HBE.out HESZ.out rfl ?_) | (refine wpList_load_Dg _ rfl w.heap.size ds rfl HBD.out HSZ.out rfl ?_))
            refine HLD.out.mono ?_
            rintro _ w8 ⟨rfl, hb⟩
            have HB8w : Hid (Below w.heap.size w w8) := Lib.hid (HB7w.out.trans (hb.mono HB7w.out.size))
            clear hb HLD HBE HBD HB7 HB7w
            go_wp2_with fail
            refine (alive10_any _).mono ?_
            rintro _ w9 ⟨rfl, hb⟩
            have HB9w : Hid (Below w.heap.size w w9) := Lib.hid (HB8w.out.trans (hb.mono HB8w.out.size))
            clear hb HB8w
            go_wp2_with fail
            go_ret
            exact ⟨rfl, HB9w.out⟩
end Go.Proofs.Ytbdbnjbafampaaa
