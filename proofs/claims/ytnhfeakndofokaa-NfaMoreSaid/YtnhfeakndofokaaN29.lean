/- Package nfa. -/
import Derived.Test.YtnhfeakndofokaaProg
import Derived.Test.YtnhfeakndofokaaN17
import Derived.Test.YtnhfeakndofokaaX10
import Derived.WalkKit
import Derived.WalkLawsBesides
import Derived.WalkSpells
import Derived.Outline
import Derived.Lib.Walk
import Derived.Lib.Hide
import Derived.Lib.Slices
import Derived.Lib.Strings
import Derived.RegionTactic
import Derived.LoopTactic
import Derived.Below
import Derived.IntWalk
import Derived.Deep.QuietTactic
import Derived.BigQuiet
import Derived.Deep.MidRow
import Derived.Maps.AppendAt
import Derived.Laws.Rows
import Derived.Laws.Tables
import Derived.Deep.WholeRow
import Derived.Deep.Cut
import Derived.Deep.CutRange
import Derived.Lib.SliceRun
import Derived.Laws.MakeOwn
import Derived.Deep.RegionLaw
import Derived.Deep.RegionLawGrows
namespace Go.Proofs.Ytnhfeakndofokaa
set_option linter.unusedSimpArgs false
set_option linter.unusedVariables false
set_option maxRecDepth 100000
open Go.RowKit
/- The document's Check. -/
set_option maxHeartbeats 16000000 in
theorem refcheck_any {D : Nat → Prop} {w : World} {st : Int} {ss : List Nst} {q : Option Addr} {c : Nat} (hD : ∀ b, D b → b < w.heap.size) (hSV : SV D w ss (.slice q ss.length c)) (hfl : ∀ s ∈ ss, s.fr.length ≤ 9223372036854775806) (hln : ss.length ≤ 9223372036854775806) :
    Calls Try.prog 12 #[nV st q ss.length c] w fun e w' => e = .returned (.int .i64 (chkN st ss)) ∧ Below w.heap.size w w' := by
  have HSV := Lib.hid hSV
  have HFL := Lib.hid hfl
  have HD := Lib.hid hD
  have hz := zero49
  have S0 := Lib.hid ((Sb.start w).alloc (.cells #[.int .i64 st, .slice q ss.length c] 24))
  clear hSV hfl hD
  obtain ⟨R, hR⟩ : ∃ R, chkN st ss = R := ⟨_, rfl⟩
  rw [hR]
  have HR := Lib.hid hR
  clear hR
  unfold nV
  by_cases hbig : 4096 < ss.length
  · have hb : (4096 : Int) < (ss.length : Int) := by omega
    have HRR : Hid ((3 : Int) = R) := Lib.hid (by rw [← HR.out]; unfold chkN tooM; simp [hbig])
    go_enter Try.func12, Try.ntmps12
    go_wp2_with fail
    go_ret
    exact ⟨ret_i6 HRR.out, S0.out.1⟩
  · have hb : ¬ (4096 : Int) < (ss.length : Int) := by omega
    have HT : Hid (tooM ss = decide (16384 < frees ss)) := Lib.hid (by unfold tooM; simp [hbig])
    go_enter Try.func12, Try.ntmps12
    go_wp2_with fail
    go_loopw [3, 4] (fun a i wr => ∃ j : Nat, i = .int .i64 (j : Nat) ∧ j ≤ ss.length ∧ frees (ss.take j) ≤ 16384 ∧ a = .int .i64 (frees (ss.take j) : Nat) ∧ Hid (Sb w wr [(w.heap.size, (.cells #[.int .i64 st, .slice q ss.length c] 24))])) (fun _ i _ => ss.length - (intOf i).toNat)
    case atStart => exact ⟨0, rfl, by omega, by simp [frees], by simp [frees], S0⟩
    case round =>
    clear S0
    obtain ⟨j, rfl, hj, hfr, rfl, HS⟩ := hrel
    obtain ⟨wo, rfl⟩ : ∃ wo : World, wo = wr := ⟨_, rfl⟩
    have cq : wo.cell? ⟨w.heap.size, 1, none⟩ = some (.slice q ss.length c) := HS.out.cell 1
    by_cases hlt : j < ss.length
    · skip
      obtain ⟨q', c', he, hSV⟩ := HSV.out
      cases he
      obtain ⟨bb, o, rfl, hDb, hx⟩ := hSV (by intro e; subst e; simp at hlt)
      obtain ⟨qf, f, hiv, hcell⟩ := hx j hlt
      have hbw := HD.out bb hDb
      have ce : ∀ i y, (stC (ss[j]).u (ss[j]).to (.slice qf (ss[j]).fr.length f) (ss[j]).rl)[i]? = some y → wo.cell? ⟨bb, o + j * 7 + i, none⟩ = some y := fun i y hy => (cell_same (HS.out.1.block bb hbw) _).trans (hcell i y hy)
      have hf1 := frees_take ss j hlt
      have hf2 := frees_take_le ss (j + 1)
      have hfl := HFL.out ss[j] (List.getElem_mem hlt)
      have d5 : wo.cell? ⟨bb, o + j * 7 + 5, none⟩ = some (.slice qf (ss[j]).fr.length f) := ce 5 _ rfl
      generalize (ss[j]).fr = fr at *
      generalize fr.length = frl at *
      generalize frees (ss.take j) = a at *
      have hltI : (j : Int) < (ss.length : Int) := by omega
      have hjI : ¬ (j : Int) < 0 := by omega
      have HA := Lib.hid hf1
      have HA2 := Lib.hid hf2
      clear hx hSV hcell hiv ce hf1 hf2
      by_cases hgt : a + frl ≤ 16384
      · have hg : ¬ ((16384 : Int) - (a : Nat)) < (frl : Int) := by omega
        go_wp2_with fail
        go_roundw
        case rel => exact ⟨j + 1, by go_num, by omega, by have := HA.out; omega, vint6 (by have := HA.out; omega), HS⟩
        case measure => simp [intOf]; omega
      · have hg : ((16384 : Int) - (a : Nat)) < (frl : Int) := by omega
        have HRR : Hid ((3 : Int) = R) := Lib.hid (by
          rw [← HR.out]; unfold chkN
          rw [HT.out, if_pos (by simp; have := HA.out; have := HA2.out; omega)])
        go_wp2_with fail
        go_ret
        exact ⟨ret_i6 HRR.out, HS.out.1⟩
    · obtain rfl : j = ss.length := by omega
      rw [List.take_length] at hfr
      have HCH : Hid ((if mayN st ss = true then (0 : Int) else 2) = R) := Lib.hid (by
        rw [← HR.out]; unfold chkN
        rw [HT.out, if_neg (show ¬ decide (16384 < frees ss) = true by simpa using hfr)])
      have hmd : mayN st ss = ((decide (0 ≤ st) && decide (st < (ss.length : Nat))) && ss.all (stOk ss.length)) := rfl
      have HMD := Lib.hid hmd
      have hltI : ¬ (ss.length : Int) < (ss.length : Int) := by omega
      have c0 : wo.cell? ⟨w.heap.size, 0, none⟩ = some (.int .i64 st) := HS.out.cell 0
      clear hmd HT HR
      by_cases hs0 : st < 0
      · have HRR : Hid ((2 : Int) = R) := Lib.hid (by rw [← HCH.out, HMD.out]; simp; omega)
        go_wp2_with fail
        go_ret
        exact ⟨ret_i6 HRR.out, HS.out.1⟩
      · by_cases hs1 : (ss.length : Int) ≤ st
        · have HRR : Hid ((2 : Int) = R) := Lib.hid (by rw [← HCH.out, HMD.out]; simp; omega)
          go_wp2_with fail
          go_ret
          exact ⟨ret_i6 HRR.out, HS.out.1⟩
        · have HAL0 : Hid ((if ss.all (stOk ss.length) = true then (0 : Int) else 2) = R) := Lib.hid (by
            rw [← HCH.out, HMD.out, show (decide (0 ≤ st) && decide (st < (ss.length : Nat))) = true by simp; omega, Bool.true_and])
          clear HCH HMD
          go_wp2_with fail
          go_loopw [5] (fun i wr => ∃ j : Nat, i = .int .i64 (j : Nat) ∧ j ≤ ss.length ∧ Hid ((ss.take j).all (stOk ss.length) = true) ∧ Hid (Sb w wr [(w.heap.size, (.cells #[.int .i64 st, .slice q ss.length c] 24))])) (fun i _ => ss.length - (intOf i).toNat)
          case atStart => exact ⟨0, rfl, by omega, Lib.hid (by simp), HS⟩
          case round =>
          clear HS cq c0
          obtain ⟨j, rfl, hj, HAL, HS⟩ := hrel
          obtain ⟨wo, rfl⟩ : ∃ wo : World, wo = wr := ⟨_, rfl⟩
          have cq : wo.cell? ⟨w.heap.size, 1, none⟩ = some (.slice q ss.length c) := HS.out.cell 1
          by_cases hlt : j < ss.length
          · skip
            obtain ⟨q', c', he, hSV⟩ := HSV.out
            cases he
            obtain ⟨bb, o, rfl, hDb, hx⟩ := hSV (by intro e; subst e; simp at hlt)
            obtain ⟨qf, f, hiv, hcell⟩ := hx j hlt
            have hbw := HD.out bb hDb
            have ce : ∀ i y, (stC (ss[j]).u (ss[j]).to (.slice qf (ss[j]).fr.length f) (ss[j]).rl)[i]? = some y → wo.cell? ⟨bb, o + j * 7 + i, none⟩ = some y := fun i y hy => (cell_same (HS.out.1.block bb hbw) _).trans (hcell i y hy)
            have hfl := HFL.out ss[j] (List.getElem_mem hlt)
            have hal := all_take (stOk ss.length) ss j hlt
            have hst : stOk ss.length ss[j] = (decide ((ss[j]).to < (ss.length : Nat)) && (decide ((ss[j]).rl < 48) && (ss[j]).fr.all fun x => decide (0 ≤ x) && decide (x < (ss.length : Nat)))) := rfl
            have HNO := Lib.hid fun h => all_no (p := stOk ss.length) (l := ss) hlt h
            rw [HAL.out, Bool.true_and] at hal
            obtain ⟨tg, htg⟩ : ∃ tg, (ss[j]).to = tg := ⟨_, rfl⟩
            obtain ⟨u, huu⟩ : ∃ u, (ss[j]).u = u := ⟨_, rfl⟩
            obtain ⟨rl, hrl⟩ : ∃ rl, (ss[j]).rl = rl := ⟨_, rfl⟩
            rw [htg, hrl] at hst
            rw [htg, huu, hrl] at ce
            generalize hsx : stOk ss.length ss[j] = sok at *
            clear hsx
            generalize (ss[j]).fr = fr at *
            obtain ⟨frl, hfrl⟩ : ∃ frl, fr.length = frl := ⟨_, rfl⟩
            rw [hfrl] at ce hiv hfl
            have HFRL := Lib.hid hfrl
            have HIV : Hid (IV D w fr (.slice qf frl f)) := Lib.hid hiv
            have d0 : wo.cell? ⟨bb, o + j * 7, none⟩ = some (.int .u64 (u 0)) := ce 0 _ rfl
            have d1 : wo.cell? ⟨bb, o + j * 7 + 1, none⟩ = some (.int .u64 (u 1)) := ce 1 _ rfl
            have d2 : wo.cell? ⟨bb, o + j * 7 + 2, none⟩ = some (.int .u64 (u 2)) := ce 2 _ rfl
            have d3 : wo.cell? ⟨bb, o + j * 7 + 3, none⟩ = some (.int .u64 (u 3)) := ce 3 _ rfl
            have d4 : wo.cell? ⟨bb, o + j * 7 + 4, none⟩ = some (.int .i64 tg) := ce 4 _ rfl
            have d5 : wo.cell? ⟨bb, o + j * 7 + 5, none⟩ = some (.slice qf frl f) := ce 5 _ rfl
            have d6 : wo.cell? ⟨bb, o + j * 7 + 6, none⟩ = some (.int .i64 rl) := ce 6 _ rfl
            have hltI : (j : Int) < (ss.length : Int) := by omega
            have hjI : ¬ (j : Int) < 0 := by omega
            have HAL2 := Lib.hid hal
            have HST := Lib.hid hst
            have HS2 := Lib.hid (HS.out.alloc (.cells #[.int .u64 (u 0), .int .u64 (u 1), .int .u64 (u 2), .int .u64 (u 3), .int .i64 tg, .slice qf frl f, .int .i64 rl] 49))
            have cq2 : (wo.alloc (.cells #[.int .u64 (u 0), .int .u64 (u 1), .int .u64 (u 2), .int .u64 (u 3), .int .i64 tg, .slice qf frl f, .int .i64 rl] 49)).cell? ⟨w.heap.size, 1, none⟩ = some (.slice (some ⟨bb, o, none⟩) ss.length c) := HS2.out.tl.cell 1
            clear hx hSV hcell hiv ce htg huu hrl hal hst hfrl HS HAL
            by_cases hto : tg < (ss.length : Int)
            · have hto' : ¬ (ss.length : Int) ≤ tg := by omega
              by_cases hrl : rl < 48
              · have hrl' : ¬ (48 : Int) ≤ rl := by omega
                go_upto_region 19 with fail
                refine at_world (fun z => Sb w z [(wo.heap.size, (.cells #[.int .u64 (u 0), .int .u64 (u 1), .int .u64 (u 2), .int .u64 (u 3), .int .i64 tg, .slice qf frl f, .int .i64 rl] 49)), (w.heap.size, (.cells #[.int .i64 st, .slice (some ⟨bb, o, none⟩) ss.length c] 24))]) HS2.out fun z hz9 => ?_
                have HS3 := Lib.hid hz9
                clear hz9 HS2 d0 d1 d2 d3 d4 d5 d6 cq2 cq
                go_loopw [7] (fun i wr => ∃ k : Nat, i = .int .i64 (k : Nat) ∧ k ≤ frl ∧ Hid ((fr.take k).all (fun x => decide (0 ≤ x) && decide (x < (ss.length : Nat))) = true) ∧ Hid (Sb w wr [(wo.heap.size, (.cells #[.int .u64 (u 0), .int .u64 (u 1), .int .u64 (u 2), .int .u64 (u 3), .int .i64 tg, .slice qf frl f, .int .i64 rl] 49)), (w.heap.size, (.cells #[.int .i64 st, .slice (some ⟨bb, o, none⟩) ss.length c] 24))])) (fun i _ => frl - (intOf i).toNat)
                case atStart => exact ⟨0, rfl, by omega, Lib.hid (by simp), HS3⟩
                case round =>
                clear HS3
                obtain ⟨k, rfl, hk, HK, HS⟩ := hrel
                obtain ⟨wk, rfl⟩ : ∃ wk : World, wk = wr := ⟨_, rfl⟩
                have e5 : wk.cell? ⟨wo.heap.size, 5, none⟩ = some (.slice qf frl f) := HS.out.cell 5
                by_cases hkl : k < frl
                · have hkl' : k < fr.length := by rw [HFRL.out]; exact hkl
                  obtain ⟨p', c', he, hh⟩ := HIV.out
                  injection he with e1 e2 e3
                  subst e1 e3
                  clear e2
                  obtain ⟨bf, of, rfl, hbf, hcf⟩ := hh (by intro e; rw [e] at hkl'; simp at hkl')
                  have hbw2 := HD.out bf hbf
                  have hak := all_take (fun x => decide (0 ≤ x) && decide (x < ((ss.length : Nat) : Int))) fr k hkl'
                  rw [HK.out, Bool.true_and] at hak
                  have cx : wk.cell? ⟨bf, of + k, none⟩ = some (.int .i64 fr[k]) := (cell_same (HS.out.1.block bf hbw2) _).trans (hcf k hkl')
                  have cb1 : wk.cell? ⟨w.heap.size, 1, none⟩ = some (.slice (some ⟨bb, o, none⟩) ss.length c) := HS.out.tl.cell 1
                  have hnok := fun h => all_no (p := fun x => decide (0 ≤ x) && decide (x < ((ss.length : Nat) : Int))) (l := fr) hkl' h
                  generalize fr[k] = x at *
                  have HAK := Lib.hid hak
                  have HNOK := Lib.hid hnok
                  have hkI : ¬ (k : Int) < 0 := by omega
                  have hklI : (k : Int) < (frl : Int) := by omega
                  clear hh hcf hak hnok
                  by_cases hx0 : x < 0
                  · have HRES : Hid ((2 : Int) = R) := Lib.hid (by rw [← HAL0.out, HNO.out (by rw [HST.out, HNOK.out (by simp; omega)]; simp)]; rfl)
                    go_wp2_with fail
                    go_quiet (fail)
                    refine at_worldQ (fun z => Below w.heap.size w z) (below_drewN HS.out.1 _) fun z hz9 => ?_
                    have HZ := Lib.hid hz9
                    clear hz9
                    go_wp2_with fail
                    go_ret
                    exact ⟨ret_i6 HRES.out, HZ.out⟩
                  · by_cases hx1 : (ss.length : Int) ≤ x
                    · have HRES : Hid ((2 : Int) = R) := Lib.hid (by rw [← HAL0.out, HNO.out (by rw [HST.out, HNOK.out (by simp; omega)]; simp)]; rfl)
                      go_wp2_with fail
                      go_quiet (fail)
                      refine at_worldQ (fun z => Below w.heap.size w z) (below_drewN HS.out.1 _) fun z hz9 => ?_
                      have HZ := Lib.hid hz9
                      clear hz9
                      go_wp2_with fail
                      go_ret
                      exact ⟨ret_i6 HRES.out, HZ.out⟩
                    · have HAK2 : Hid ((fr.take (k + 1)).all (fun x => decide (0 ≤ x) && decide (x < (ss.length : Nat))) = true) := Lib.hid (by rw [HAK.out]; simp; omega)
                      have hx0' : ¬ x < 0 := hx0
                      go_wp2_with fail
                      go_quiet (fail)
                      refine at_worldQ (fun z => Sb w z [(wo.heap.size, (.cells #[.int .u64 (u 0), .int .u64 (u 1), .int .u64 (u 2), .int .u64 (u 3), .int .i64 tg, .slice (some ⟨bf, of, none⟩) frl f, .int .i64 rl] 49)), (w.heap.size, (.cells #[.int .i64 st, .slice (some ⟨bb, o, none⟩) ss.length c] 24))]) (HS.out.drewN _) fun z hz9 => ?_
                      have HZ := Lib.hid hz9
                      clear hz9 HS
                      go_wp2_with fail
                      go_roundw
                      case rel => exact ⟨k + 1, by go_num, by omega, HAK2, HZ⟩
                      case measure => simp [intOf]; omega
                · obtain rfl : k = frl := by omega
                  have hall : fr.all (fun x => decide (0 ≤ x) && decide (x < ((ss.length : Nat) : Int))) = true := by
                    have := HK.out
                    rwa [← HFRL.out, List.take_length] at this
                  have hsok : sok = true := by rw [HST.out, hall]; simp [hto, hrl]
                  have HAL3 : Hid ((ss.take (j + 1)).all (stOk ss.length) = true) := Lib.hid (by rw [HAL2.out, hsok])
                  have hklI : ¬ (k : Int) < (k : Int) := by omega
                  have HS4 := Lib.hid HS.out.tl
                  clear hall hsok HK HAL2 HST HNO
                  go_wp2_with fail
                  go_roundw
                  case rel => exact ⟨j + 1, by go_num, by omega, HAL3, HS4⟩
                  case measure => simp [intOf]; omega
              · have hrl' : (48 : Int) ≤ rl := by omega
                have HRES : Hid ((2 : Int) = R) := Lib.hid (by rw [← HAL0.out, HNO.out (by rw [HST.out]; simp [hrl])]; rfl)
                go_wp2_with fail
                go_ret
                exact ⟨ret_i6 HRES.out, HS2.out.1⟩
            · have hto' : (ss.length : Int) ≤ tg := by omega
              have HRES : Hid ((2 : Int) = R) := Lib.hid (by rw [← HAL0.out, HNO.out (by rw [HST.out]; simp [hto])]; rfl)
              go_wp2_with fail
              go_ret
              exact ⟨ret_i6 HRES.out, HS2.out.1⟩
          · obtain rfl : j = ss.length := by omega
            have hall := HAL.out
            rw [List.take_length] at hall
            have HRR : Hid ((0 : Int) = R) := Lib.hid (by rw [← HAL0.out, if_pos hall])
            have hltI : ¬ (ss.length : Int) < (ss.length : Int) := by omega
            clear hall HAL
            go_wp2_with fail
            go_ret
            exact ⟨ret_i6 HRR.out, HS.out.1⟩
end Go.Proofs.Ytnhfeakndofokaa
