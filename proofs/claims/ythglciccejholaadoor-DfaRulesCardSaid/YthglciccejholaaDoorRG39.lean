/- Package regs: the reader's small steps: what comes next. -/
import Derived.Test.YthglciccejholaaDoorProg
import Derived.Test.YthglciccejholaaDoorV13
import Derived.Test.YthglciccejholaaDoorV9
import Derived.WalkKit
import Derived.WalkLawsBesides
import Derived.WalkSpells
import Derived.Outline
import Derived.Lib.Walk
import Derived.Lib.Hide
import Derived.RegionTactic
import Derived.LoopTactic
import Derived.Below
import Derived.IntWalk
import Derived.Deep.QuietTactic
import Derived.BigQuiet
import Derived.Deep.Cut
import Derived.Deep.CutRange
namespace Go.Proofs.YthglciccejholaaDoor.R5
set_option linter.unusedSimpArgs false
set_option linter.unusedVariables false
set_option maxRecDepth 100000
open Go.RowKit

set_option maxHeartbeats 8000000 in
theorem lcho_walk {D : Nat → Prop} {b : Nat} {N : Net} {ps : List RT} {p : Option Addr} {c : Nat} {w : World} (hnet : w.heap[b]? = some (.cells (netC N) 94 (0, 0))) (hD : ∀ z, D z → z < b) (hn : N.n + szL ps ≤ 512) (hl : ps.length ≤ 512) (hp : PVs D w ps p)
    (hI : ∀ i (hi : i < ps.length), LP b D ps[i]) :
    Calls Tryd.prog 85 #[.pointer (some ⟨b, 0, none⟩), .slice p ps.length c] w fun e w' => e = .returned (.agg (prtA (choN ps N ⟨false, noS, noS⟩).2)) ∧ Nk b (choN ps N ⟨false, noS, noS⟩).1 w w' := by
  have hb := (Array.getElem?_eq_some_iff.1 hnet).1
  have S0 : Hid (RQ b w.heap.size N ⟨false, noS, noS⟩ w ((w.alloc (.cells prtZ 96)).alloc (.cells (prtA ⟨false, noS, noS⟩) 96))) := Lib.hid (by
    refine ⟨(Nk.start hnet).up (((Below.refl _ _).alloc (Nat.le_refl _) _).alloc (by simp) _), ?_, ?_⟩
    · rw [heap_alloc2_old]
    · rw [heap_alloc2_new])
  have HP := Lib.hid hp
  have HI := Lib.hid hI
  obtain ⟨R, hR⟩ : ∃ R, choN ps N ⟨false, noS, noS⟩ = R := ⟨_, rfl⟩
  rw [hR]
  have HR := Lib.hid hR
  clear hnet hp hI hR
  go_enter Tryd.func85, Tryd.ntmps85
  go_upto_region 2 with fail
  rw [show (#[.bool false, .int .u64 0, .int .u64 0, .int .u64 0, .int .u64 0, .int .u64 0, .int .u64 0, .int .u64 0, .int .u64 0, .int .u64 0, .int .u64 0, .int .u64 0, .int .u64 0, .int .u64 0, .int .u64 0, .int .u64 0, .int .u64 0] : Array Value) = prtZ from rfl]
  rw [show prtA ⟨false, noS, noS⟩ = prtZ from by simp [prtA, wf, W_noS, prtZ]] at S0
  generalize ((w.alloc (.cells prtZ 96)).alloc (.cells prtZ 96)) = ws at *
  go_wp2
  go_loopw [11] (fun i wr => ∃ (j : Nat) (M : Net) (a : Prt), j ≤ ps.length ∧ i = .int .i64 j ∧ Hid (choN (ps.drop j) M a = R) ∧ M.n + szL (ps.drop j) ≤ 512 ∧ Hid (RQ b w.heap.size M a w wr)) (fun i _ => ps.length - (intOf i).toNat)
  case atStart => exact ⟨0, N, ⟨false, noS, noS⟩, by omega, rfl, HR, by simpa using hn, S0⟩
  case round =>
    obtain ⟨j, M, a, hj, rfl, HC, hM, HS⟩ := hrel
    clear HR S0
    by_cases hlt : j < ps.length
    · have hne : ps ≠ [] := by intro e; subst e; simp at hlt
      obtain ⟨b', o, rfl, hDb, hx⟩ := HP.out hne
      obtain ⟨k', u', p', n', c', hv, hcell⟩ := hx j hlt
      have hbB := hD b' hDb
      have hbel := HS.out.1.2.1
      have cc : ∀ i y, (nodeC k' u' (.slice p' n' c'))[i]? = some y → wr.cell? ⟨b', o + j * 6 + i, none⟩ = some y := fun i y hy => by
        rw [hbel.cell (p := ⟨b', o + j * 6 + i, none⟩) hbB, ← hcell i y hy, show o + j * 6 + i = o + (6 * j + i) by omega]
      have d0 : wr.cell? ⟨b', o + j * 6, none⟩ = some (.int .i64 k') := cc 0 _ rfl
      have d1 : wr.cell? ⟨b', o + j * 6 + 1, none⟩ = some (.int .u64 (u' 0)) := cc 1 _ rfl
      have d2 : wr.cell? ⟨b', o + j * 6 + 2, none⟩ = some (.int .u64 (u' 1)) := cc 2 _ rfl
      have d3 : wr.cell? ⟨b', o + j * 6 + 3, none⟩ = some (.int .u64 (u' 2)) := cc 3 _ rfl
      have d4 : wr.cell? ⟨b', o + j * 6 + 4, none⟩ = some (.int .u64 (u' 3)) := cc 4 _ rfl
      have d5 : wr.cell? ⟨b', o + j * 6 + 5, none⟩ = some (.slice p' n' c') := cc 5 _ rfl
      have hab : Below wr.heap.size wr (wr.alloc (.cells #[.int .i64 k', .int .u64 (u' 0), .int .u64 (u' 1), .int .u64 (u' 2), .int .u64 (u' 3), .slice p' n' c'] 27)) := (Below.refl _ _).alloc (Nat.le_refl _) (.cells #[.int .i64 k', .int .u64 (u' 0), .int .u64 (u' 1), .int .u64 (u' 2), .int .u64 (u' 3), .slice p' n' c'] 27)
      have HS1 := Lib.hid (HS.out.up hab)
      have HV := Lib.hid (RV.mono (w' := wr.alloc (.cells #[.int .i64 k', .int .u64 (u' 0), .int .u64 (u' 1), .int .u64 (u' 2), .int .u64 (u' 3), .slice p' n' c'] 27)) (fun b h => h) (fun z hz hlt => (hab.block z (by have := hD z hz; have := HS.out.1.lt; omega)).trans (hbel.block z (hD z hz))) hv)
      have hlt' : (j : Int) < (ps.length : Int) := by omega
      have hC2 := (choN_drop (N := M) (a := a) hlt).symm.trans HC.out
      rw [szL_drop hlt] at hM
      have hln := lay_n ps[j] M
      have HIj := Lib.hid ((HI.out j hlt).out M _ _ HS1.out.1.1 (by omega) HV.out)
      have hLt : w.heap.size + 1 < wr.heap.size := HS.out.lt
      clear hcell hv cc hx HC hbel
      obtain ⟨X, hX⟩ : ∃ X, layN ps[j] M = X := ⟨_, rfl⟩
      rw [hX] at hC2 hln HIj
      clear hX
      obtain ⟨Kn, q⟩ := X
      have HC2 := Lib.hid hC2
      clear hC2
      go_upto_region 5 with fail
      refine wp_region_list ?_
      refine wpList_plain rfl fun K hK => ?_
      have hK2 := Lib.hid hK
      clear hK
      go_wp2_with fail
      refine hK2.out _ _ ?_
      clear hK2 K
      refine wpList_plain rfl fun K hK => ?_
      have hK2 := Lib.hid hK
      clear hK
      go_wp2_with fail
      refine hK2.out _ _ ?_
      clear hK2 K
      refine wpList_plain rfl fun K hK => ?_
      have hK2 := Lib.hid hK
      clear hK
      go_wp2_with fail
      refine (HIj.out).mono ?_
      rintro _ x1 ⟨rfl, hk⟩
      refine hK2.out _ _ ?_
      clear hK2 K
      have hLx : wr.heap.size < x1.heap.size := by have := hk.2.1.size; simp at this; omega
      have H1 := Lib.hid (HS1.out.step hb hk)
      clear hk HIj HV HS1 HS hab d0 d1 d2 d3 d4 d5
      refine wpList_plain rfl fun K hK => ?_
      have hK2 := Lib.hid hK
      clear hK
      go_wp2_with fail
      refine hK2.out _ _ ?_
      clear hK2 K
      rw [show (#[.bool false, .int .u64 0, .int .u64 0, .int .u64 0, .int .u64 0, .int .u64 0, .int .u64 0, .int .u64 0, .int .u64 0, .int .u64 0, .int .u64 0, .int .u64 0, .int .u64 0, .int .u64 0, .int .u64 0, .int .u64 0, .int .u64 0] : Array Value) = prtZ from rfl]
      refine wpList_plain rfl fun K hK => wp_store_new 96 (.tmp 8) (.tmp 17) rfl prtZ (prtA q) _ (by simp) rfl rfl (by rw [info70, prtA_size]) (by rw [prtA_size]; rfl) (prtA_one q) (hK _ _ ?_)
      simp only [Act.put]
      refine wpList_nil ?_
      refine at_worldQ (fun y => RW b w.heap.size x1.heap.size Kn a q w y) ⟨H1.out.up ((Below.refl _ _).alloc (Nat.le_refl _) _), heap_alloc_last x1 _⟩ fun x2 hx2 => ?_
      have H2 := Lib.hid hx2
      clear hx2 H1
      have hAP : w.heap.size + 1 < x1.heap.size := by omega
      generalize x1.heap.size = P at *
      clear hLx
      go_upto_region 6 with fail
      have p0 : x2.cell? ⟨P, 0, none⟩ = some (.bool q.e) := H2.out.p 0
      have a0 : x2.cell? ⟨w.heap.size + 1, 0, none⟩ = some (.bool a.e) := H2.out.1.a 0
      have fa0 : x2.frozen? ⟨w.heap.size + 1, 0, none⟩ = false := H2.out.1.fa 0
      go_cut [11] from 11 to 37 (fun s11 wx => s11 = .int .i64 (j : Nat) ∧ RW b w.heap.size P Kn (⟨a.e || q.e, a.f, a.l⟩ : Prt) q w wx)
      case first =>
        cases hae : a.e with
        | true =>
          rw [hae] at a0
          go_wp2_with fail
          go_meet
          case rel => exact ⟨rfl, H2.out.setA hb rfl hAP 0 [.bool true] (by rw [putA_e, hae]; rfl)⟩
        | false =>
          rw [hae] at a0
          go_wp2_with fail
          go_meet
          case rel => exact ⟨rfl, H2.out.setA hb rfl hAP 0 [.bool q.e] (by rw [putA_e, hae]; rfl)⟩
      case rest =>
        obtain ⟨rfl, h3⟩ := hcut
        have H3 := Lib.hid h3
        clear h3 H2 a0 p0 fa0
        have HE := Lib.hid (either_any a.f q.f)
        have HF := Lib.hid (either_any a.l q.l)
        go_upto_region 7 with fail
        refine wp_region_list ?_
        refine wpList_plain rfl fun K hK => ?_
        have hK2 := Lib.hid hK
        clear hK
        go_wp2_with fail
        refine hK2.out _ _ ?_
        clear hK2 K
        refine wpList_plain rfl fun K hK => wp_load_sp (.tmp 25) rfl (w.heap.size + 1) 1 rfl a.f (H3.out.1.rf) (hK _ _ ?_)
        simp only [Act.put, List.setIfInBounds_toArray, List.set_cons_succ, List.set_cons_zero]
        refine wpList_plain rfl fun K hK => ?_
        have hK2 := Lib.hid hK
        clear hK
        go_wp2_with fail
        refine hK2.out _ _ ?_
        clear hK2 K
        refine wpList_plain rfl fun K hK => wp_load_sp (.tmp 27) rfl P 1 rfl q.f (H3.out.rpf) (hK _ _ ?_)
        simp only [Act.put, List.setIfInBounds_toArray, List.set_cons_succ, List.set_cons_zero]
        refine wpList_plain rfl fun K hK => ?_
        have hK2 := Lib.hid hK
        clear hK
        go_wp2_with fail
        refine (HE.out _).mono ?_
        rintro _ x4 ⟨rfl, hb4⟩
        refine hK2.out _ _ ?_
        clear hK2 K
        have H4 := Lib.hid (H3.out.up hb4)
        clear hb4 HE H3
        refine wpList_plain rfl fun K hK => ?_
        have hK2 := Lib.hid hK
        clear hK
        go_wp2_with fail
        refine hK2.out _ _ ?_
        clear hK2 K
        refine wpList_plain rfl fun K hK => wp_store_sp (.tmp 30) (.tmp 29) rfl (w.heap.size + 1) 1 (orS a.f q.f) rfl rfl (H4.out.1.ta 1 (by omega)) (hK _ _ ?_)
        simp only [Act.put]
        refine wpList_nil ?_
        refine at_worldQ (fun y => RW b w.heap.size P Kn (⟨a.e || q.e, orS a.f q.f, a.l⟩ : Prt) q w y) (H4.out.setA hb rfl hAP 1 (spL (orS a.f q.f)) (putA_f _ _)) fun x5 hx5 => ?_
        have H5 := Lib.hid hx5
        clear hx5 H4
        go_upto_region 8 with fail
        refine wp_region_list ?_
        refine wpList_plain rfl fun K hK => ?_
        have hK2 := Lib.hid hK
        clear hK
        go_wp2_with fail
        refine hK2.out _ _ ?_
        clear hK2 K
        refine wpList_plain rfl fun K hK => wp_load_sp (.tmp 31) rfl (w.heap.size + 1) 9 rfl a.l (H5.out.1.rl) (hK _ _ ?_)
        simp only [Act.put, List.setIfInBounds_toArray, List.set_cons_succ, List.set_cons_zero]
        refine wpList_plain rfl fun K hK => ?_
        have hK2 := Lib.hid hK
        clear hK
        go_wp2_with fail
        refine hK2.out _ _ ?_
        clear hK2 K
        refine wpList_plain rfl fun K hK => wp_load_sp (.tmp 33) rfl P 9 rfl q.l (H5.out.rpl) (hK _ _ ?_)
        simp only [Act.put, List.setIfInBounds_toArray, List.set_cons_succ, List.set_cons_zero]
        refine wpList_plain rfl fun K hK => ?_
        have hK2 := Lib.hid hK
        clear hK
        go_wp2_with fail
        refine (HF.out _).mono ?_
        rintro _ x6 ⟨rfl, hb4⟩
        refine hK2.out _ _ ?_
        clear hK2 K
        have H6 := Lib.hid (H5.out.up hb4)
        clear hb4 HF H5
        refine wpList_plain rfl fun K hK => ?_
        have hK2 := Lib.hid hK
        clear hK
        go_wp2_with fail
        refine hK2.out _ _ ?_
        clear hK2 K
        refine wpList_plain rfl fun K hK => wp_store_sp (.tmp 36) (.tmp 35) rfl (w.heap.size + 1) 9 (orS a.l q.l) rfl rfl (H6.out.1.ta 9 (by omega)) (hK _ _ ?_)
        simp only [Act.put]
        refine wpList_nil ?_
        refine at_worldQ (fun y => RQ b w.heap.size Kn (a.alt q) w y) (H6.out.setA hb rfl hAP 9 (spL (orS a.l q.l)) (a' := a.alt q) (putA_l _ _)).1 fun x7 hx7 => ?_
        have H9 := Lib.hid hx7
        clear hx7 H6
        go_wp2
        go_roundw
        case rel => exact ⟨j + 1, Kn, _, by omega, by go_num, HC2, by omega, H9⟩
        case measure => simp [intOf]; omega
    · obtain rfl : j = ps.length := by omega
      have hlt' : ¬ ((ps.length : Int) < (ps.length : Int)) := by omega
      have hr : R = (M, a) := by rw [← HC.out, List.drop_length, choN]
      subst hr
      clear HC
      have HK := Lib.hid HS.out.1
      go_upto_region 10 with fail
      refine wp_region_list ?_
      refine wpList_plain rfl fun K hK => wp_load_prt (.tmp 5) rfl (w.heap.size + 1) rfl a (HS.out.2.2) (hK _ _ ?_)
      simp only [Act.put, List.setIfInBounds_toArray, List.set_cons_succ, List.set_cons_zero]
      refine wpList_plain rfl fun K hK => wp_store_prt (.tmp 4) (.tmp 38) rfl w.heap.size prtZ a rfl rfl (HS.out.2.1) (rfl) (hK _ _ ?_)
      simp only [Act.put]
      refine wpList_nil ?_
      refine at_worldQ (fun y => Nk b M w y ∧ y.heap[w.heap.size]? = some (.cells (prtA a) 96 (0, 0))) ⟨HK.out.set hb (Nat.le_refl _) _, (setCells_heap _ 0 _ _ HS.out.2.1).trans (by rw [putA_all prtZ a rfl])⟩ fun y hy => ?_
      have hv := load_prt hy.2
      have HN := Lib.hid hy.1
      clear hy
      go_wp2_with fail
      refine bodyPost_ret (v := .agg (prtA a)) (by simp [results, Tryd.results85, asAddr, hv]) rfl ⟨rfl, ?_⟩
      exact HN.out
end Go.Proofs.YthglciccejholaaDoor.R5
