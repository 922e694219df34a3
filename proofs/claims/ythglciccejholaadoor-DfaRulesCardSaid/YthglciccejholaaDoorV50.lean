/- Texts of package regs, one behind the other. -/
import Derived.Test.YthglciccejholaaDoorProg
import Derived.Test.YthglciccejholaaDoorV49
import Derived.Test.YthglciccejholaaDoorV48
import Derived.Test.YthglciccejholaaDoorV43
import Derived.WalkKit
import Derived.WalkLawsBesides
import Derived.WalkSpells
import Derived.Outline
import Derived.Lib.Walk
import Derived.Lib.Hide
import Derived.Lib.Slices
import Derived.Lib.Strings
import Derived.RegionTactic
import Derived.LoopTactic
import Derived.Below
import Derived.IntWalk
import Derived.Deep.QuietTactic
import Derived.BigQuiet
import Derived.Deep.MidRow
import Derived.Maps.AppendAt
import Derived.Laws.Rows
import Derived.Laws.Tables
import Derived.Deep.WholeRow
import Derived.Deep.Cut
import Derived.Deep.CutRange
import Derived.Lib.SliceRun
import Derived.Laws.MakeOwn
import Derived.Deep.RegionLaw
import Derived.Deep.RegionLawGrows
import Derived.Deep.RegionHeld3
import Derived.RegionCalls
import Derived.Deep.RegionWith
import Derived.Deep.Light
import Derived.Laws.AppendOwn
import Derived.Laws.OwnMore
section
/- Package nfa. -/
namespace Go.Proofs.YthglciccejholaaDoor
set_option linter.unusedSimpArgs false
set_option linter.unusedVariables false
set_option maxRecDepth 100000
open Go.RowKit
/- nfa.Of of any rules. -/
def foldF : Nat → List RT → List Nst → List Int → List Nst × List Int
  | _, [], ss, fs => (ss, fs)
  | i, t :: r, ss, fs => foldF (i + 1) r (ss ++ [⟨uZ, -1, [], (i : Nat)⟩] ++ (layF t (ss.length : Nat) (ss.length + 1)).1) (fs ++ [(layF t (ss.length : Nat) (ss.length + 1)).2])
/-- The automaton of rules. -/
def n6_ofF (ts : List RT) : List Nst := (foldF 0 ts [] []).1 ++ [⟨uZ, -1, (foldF 0 ts [] []).2, -1⟩]
set_option maxHeartbeats 16000000 in
theorem of_any {D : Nat → Prop} {w : World} {ts : List RT} {q : Option Addr} {f : Nat} (hD : ∀ b, D b → b < w.heap.size) (hR : RuV D w ts (.slice q ts.length f)) (hs : ∀ t ∈ ts, checkE t = 0) (hlen : ts.length ≤ 48) (hszl : szL ts ≤ 2047)
    (hREF : Hid (∀ z, Below w.heap.size w z → Calls Tryd.prog 38 #[.slice q ts.length f] z fun e z' => e = .returned (.int .i64 0) ∧ Below z.heap.size z z')) :
    Calls Tryd.prog 13 #[.slice q ts.length f] w fun e w' => (∃ sq c, e = .returned (.tuple #[.agg #[.int .i64 (((n6_ofF ts).length - 1 : Nat) : Int), .slice sq (n6_ofF ts).length c], .int .i64 0]) ∧ SV (fun b => w.heap.size ≤ b ∧ b < w'.heap.size) w' (n6_ofF ts) (.slice sq (n6_ofF ts).length c) ∧ Wipe (fun b => w.heap.size ≤ b ∧ b < w'.heap.size) w' (n6_ofF ts) (.slice sq (n6_ofF ts).length c) 0) ∧ Below w.heap.size w w' := by
  obtain ⟨i0, hi, hz0, hz1, hz2⟩ := info_parts info3
  have HR := Lib.hid hR
  have HD := Lib.hid hD
  have HSM := Lib.hid hs
  have hz := zero24
  have hzb := zero64
  have hz58 := zero58
  have S0 := Lib.hid ((Sb.start w).alloc (.cells #[.int .i64 0, .slice none 0 0] 33))
  obtain ⟨R, hRR⟩ : ∃ R, foldF 0 ts [] [] = R := ⟨_, rfl⟩
  have hof : n6_ofF ts = R.1 ++ [⟨uZ, -1, R.2, -1⟩] := by unfold n6_ofF; rw [hRR]
  have HOF := Lib.hid hof
  have HRR := Lib.hid hRR
  clear hR hD hs hRR hof
  go_enter Tryd.func13, Tryd.ntmps13
  go_wp2_with fail
  refine (hREF.out _ S0.out.1).mono ?_
  rintro _ z1 ⟨rfl, hb⟩
  have S1 := Lib.hid (S0.out.up hb)
  have hwz : w.heap.size < z1.heap.size := S1.out.lt
  have B0 : Hid (BB z1.heap.size (fun b => b < w.heap.size ∨ some b = (Value.slice none 0 0).ownBlock) z1 (z1.alloc (.cells #[.slice none 0 0] 77)) z1.heap.size [] (.slice none 0 0)) := Lib.hid ⟨(Below.refl z1.heap.size z1).alloc (Nat.le_refl _) _, heap_alloc_last z1 _, ⟨fun i hi => by simp at hi, ⟨rfl, .inl ⟨rfl, rfl⟩⟩⟩, Nat.le_refl _, by simp [Value.ownBlock], by simp, fun b hb => by
    have hb' : b < w.heap.size := hb.elim id (fun e => by simp [Value.ownBlock] at e)
    exact ⟨by simp; omega, by omega, by simp [Value.ownBlock]⟩⟩
  clear hb S0
  go_upto_region 6 with fail
  refine at_world (fun z => BB z1.heap.size (fun b => b < w.heap.size ∨ some b = (Value.slice none 0 0).ownBlock) z1 z z1.heap.size [] (.slice none 0 0)) B0.out fun z hz9 => ?_
  have B1 := Lib.hid hz9
  clear hz9 B0
  go_wp2_with fail
  go_loopw [6, 18] (fun a i wr => ∃ (j : Nat) (zs : List Nq) (fs : List Int) (sl : Value), i = .int .i64 (j : Nat) ∧ j ≤ ts.length ∧ Hid (foldF j (ts.drop j) (zs.map (·.1)) fs = R) ∧ Hid (BB z1.heap.size (fun b => b < w.heap.size ∨ some b = a.ownBlock) z1 wr z1.heap.size zs sl) ∧ Hid (wr.ownsRow z1.heap.size 3 1 a fs.length (fs.map fun x => .int .i64 x)) ∧ zs.length ≤ 2 * szL (ts.take j) ∧ fs.length = j) (fun _ i _ => ts.length - (intOf i).toNat)
  case atStart => exact ⟨0, [], [], _, rfl, by omega, Lib.hid (by simpa using HRR.out), B1, Lib.hid ⟨rfl, .inl ⟨rfl, rfl⟩⟩, by simp, rfl⟩
  case round =>
    clear B1 HRR
    obtain ⟨j, zs, fs, sl, rfl, hj, HF, HB, HW, hzl, hfl⟩ := hrel
    obtain ⟨wo, rfl⟩ : ∃ wo : World, wo = wr := ⟨_, rfl⟩
    obtain ⟨p6, c6, hu6, hcells6⟩ := iv_rowI HW.out
    subst hu6
    have HFL := Lib.hid hfl
    have hf48 : fs.length ≤ 48 := by omega
    clear hfl
    by_cases hlt : j < ts.length
    · obtain ⟨q', f', he, hh⟩ := HR.out
      cases he
      obtain ⟨b, o, rfl, hDb, hx⟩ := hh (by intro e; subst e; simp at hlt)
      obtain ⟨kd, k, u, p, n, c, hv, hcell⟩ := hx j hlt
      have hbw := HD.out b hDb
      have hkeep : ∀ x b, Below z1.heap.size z1 x → b < w.heap.size → x.heap[b]? = w.heap[b]? := fun x b hb hlt => (hb.block b (by omega)).trans (S1.out.1.block b hlt)
      have ce : ∀ i y, (#[.int .i64 kd, .int .i64 k, .int .u64 (u 0), .int .u64 (u 1), .int .u64 (u 2), .int .u64 (u 3), .slice p n c] : Array Value)[i]? = some y → wo.cell? ⟨b, o + j * 7 + i, none⟩ = some y := fun i y hy => (cell_same (hkeep wo b HB.out.bel hbw) _).trans (hcell i y hy)
      have d0 : wo.cell? ⟨b, o + j * 7, none⟩ = some (.int .i64 kd) := ce 0 _ rfl
      have d1 : wo.cell? ⟨b, o + j * 7 + 1, none⟩ = some (.int .i64 k) := ce 1 _ rfl
      have d2 : wo.cell? ⟨b, o + j * 7 + 2, none⟩ = some (.int .u64 (u 0)) := ce 2 _ rfl
      have d3 : wo.cell? ⟨b, o + j * 7 + 3, none⟩ = some (.int .u64 (u 1)) := ce 3 _ rfl
      have d4 : wo.cell? ⟨b, o + j * 7 + 4, none⟩ = some (.int .u64 (u 2)) := ce 4 _ rfl
      have d5 : wo.cell? ⟨b, o + j * 7 + 5, none⟩ = some (.int .u64 (u 3)) := ce 5 _ rfl
      have d6 : wo.cell? ⟨b, o + j * 7 + 6, none⟩ = some (.slice p n c) := ce 6 _ rfl
      have HV : Hid (∀ x, Below z1.heap.size z1 x → RV D x ts[j] (.agg (nodeC k u (.slice p n c)))) := Lib.hid fun x hb => hv.mono (fun b h => h) (fun b hDb _ => hkeep x b hb (HD.out b hDb))
      have hck := HSM.out _ (List.getElem_mem hlt)
      have hs512 := checkE_sz hck
      have hsm : LayOK ts[j] := lay_all (sz ts[j]) ts[j] (Nat.le_refl _) (by omega) (checkE_may hck)
      have hst := szL_take ts j hlt
      have hsl := szL_take_le ts (j + 1)
      have hfold : foldF (j + 1) (ts.drop (j + 1)) (zs.map (·.1) ++ [⟨uZ, -1, [], (j : Nat)⟩] ++ (layF ts[j] (zs.length : Nat) (zs.length + 1)).1) (fs ++ [(layF ts[j] (zs.length : Nat) (zs.length + 1)).2]) = R := by
        rw [← HF.out, List.drop_eq_getElem_cons hlt, foldF, List.length_map]
      have HFO := Lib.hid hfold
      have hla2 := layF_len ts[j] (zs.length : Nat) (zs.length + 1)
      have HBA := Lib.hid (HB.out.allocP (.cells #[.int .i64 kd, .int .i64 k, .int .u64 (u 0), .int .u64 (u 1), .int .u64 (u 2), .int .u64 (u 3), .slice p n c] 29))
      have HWA := Lib.hid (World.ownsRow.alloc HW.out (.cells #[.int .i64 kd, .int .i64 k, .int .u64 (u 0), .int .u64 (u 1), .int .u64 (u 2), .int .u64 (u 3), .slice p n c] 29))
      have HBX := Lib.hid (heap_alloc_last wo (.cells #[.int .i64 kd, .int .i64 k, .int .u64 (u 0), .int .u64 (u 1), .int .u64 (u 2), .int .u64 (u 3), .slice p n c] 29))
      have hltI : (j : Int) < (ts.length : Int) := by omega
      have hjI : ¬ (j : Int) < 0 := by omega
      clear hh hx hcell hv ce hfold hcells6 HB HW HF hkeep
      go_upto_region 9 with fail
      refine at_world (fun z => BB z1.heap.size (fun b => (b < w.heap.size ∨ some b = (Value.slice p6 fs.length c6).ownBlock) ∨ b = wo.heap.size) z1 z z1.heap.size zs sl ∧ z.heap[wo.heap.size]? = some (.cells #[.int .i64 kd, .int .i64 k, .int .u64 (u 0), .int .u64 (u 1), .int .u64 (u 2), .int .u64 (u 3), .slice p n c] 29) ∧ z.ownsRow z1.heap.size 3 1 (.slice p6 fs.length c6) fs.length (fs.map fun x => .int .i64 x)) ⟨HBA.out, HBX.out, HWA.out⟩ fun z hz9 => ?_
      have H1 := Lib.hid hz9.1
      have HX1 := Lib.hid hz9.2.1
      have HW1 := Lib.hid hz9.2.2
      have g1 : z.cell? ⟨wo.heap.size, 1, none⟩ = some (.int .i64 k) := cell_of_row z wo.heap.size 1 _ 29 (0, 0) hz9.2.1
      have g2 : z.cell? ⟨wo.heap.size, 2, none⟩ = some (.int .u64 (u 0)) := cell_of_row z wo.heap.size 2 _ 29 (0, 0) hz9.2.1
      have g3 : z.cell? ⟨wo.heap.size, 3, none⟩ = some (.int .u64 (u 1)) := cell_of_row z wo.heap.size 3 _ 29 (0, 0) hz9.2.1
      have g4 : z.cell? ⟨wo.heap.size, 4, none⟩ = some (.int .u64 (u 2)) := cell_of_row z wo.heap.size 4 _ 29 (0, 0) hz9.2.1
      have g5 : z.cell? ⟨wo.heap.size, 5, none⟩ = some (.int .u64 (u 3)) := cell_of_row z wo.heap.size 5 _ 29 (0, 0) hz9.2.1
      have g6 : z.cell? ⟨wo.heap.size, 6, none⟩ = some (.slice p n c) := cell_of_row z wo.heap.size 6 _ 29 (0, 0) hz9.2.1
      have HE := Lib.hid (end_any (r := (j : Nat)) (H1.out.up (below_drewN (Below.refl z.heap.size z) 1)) (by omega))
      have HLY := Lib.hid fun y5 sl5 (h5 : BB z1.heap.size (fun b => (b < w.heap.size ∨ some b = (Value.slice p6 fs.length c6).ownBlock) ∨ b = wo.heap.size) z1 y5 z1.heap.size (zs ++ [(⟨uZ, -1, [], (j : Nat)⟩, none, 0)]) sl5) => hsm (b := (zs.length : Nat)) h5 (by rw [List.length_append, List.length_singleton]; omega) ((HV.out y5 h5.bel).mono (E := fun b => (b < w.heap.size ∨ some b = (Value.slice p6 fs.length c6).ownBlock) ∨ b = wo.heap.size) (fun b h => .inl (.inl (HD.out b h))) (fun b _ _ => rfl))
      unfold LayPost nodeC at HLY
      rw [List.length_append, List.length_singleton] at HLY
      have HST := Lib.hid hst
      clear hst hck hs512
      generalize ts[j] = t at *
      clear hz9 d0 d1 d2 d3 d4 d5 d6 HBA HWA HBX HV hsm
      go_region_law (first | (go_simp; go_at_call 40; refine HE.out.mono ?_; rintro _ y5 ⟨rfl, ⟨sl5, h5⟩, hk5⟩; have hbx5 := (hk5 wo.heap.size (.inr rfl)).trans HX1.out; have e1 : y5.cell? ⟨wo.heap.size, 1, none⟩ = some (.int .i64 k) := cell_of_row y5 wo.heap.size 1 _ 29 (0, 0) hbx5; have e2 : y5.cell? ⟨wo.heap.size, 2, none⟩ = some (.int .u64 (u 0)) := cell_of_row y5 wo.heap.size 2 _ 29 (0, 0) hbx5; have e3 : y5.cell? ⟨wo.heap.size, 3, none⟩ = some (.int .u64 (u 1)) := cell_of_row y5 wo.heap.size 3 _ 29 (0, 0) hbx5; have e4 : y5.cell? ⟨wo.heap.size, 4, none⟩ = some (.int .u64 (u 2)) := cell_of_row y5 wo.heap.size 4 _ 29 (0, 0) hbx5; have e5 : y5.cell? ⟨wo.heap.size, 5, none⟩ = some (.int .u64 (u 3)) := cell_of_row y5 wo.heap.size 5 _ 29 (0, 0) hbx5; have e6 : y5.cell? ⟨wo.heap.size, 6, none⟩ = some (.slice p n c) := cell_of_row y5 wo.heap.size 6 _ 29 (0, 0) hbx5) | (go_simp; go_at_call 39; refine (HLY.out _ _ h5).mono ?_; rintro _ y6 ⟨rfl, ⟨sl6, zs6, h6, he6⟩, hk6⟩; have X4 := World.ownsRow.alloc (own_same (w' := y6) HW1.out (fun g hg => (hk6 g (.inl (.inr hg.symm))).trans (hk5 g (.inl (.inr hg.symm))))) (.cells #[.int .i64 (layF t (zs.length : Nat) (zs.length + 1)).2] 3); have hya : (y6.alloc (.cells #[.int .i64 (layF t (zs.length : Nat) (zs.length + 1)).2] 3)).heap.size = y6.heap.size + 1 := by simp) | (refine step_append_own rfl (.tmp 23) (.tmp 29) 39 rfl z1.heap.size 3 i0 (.int .i64 0) 1 8 Tryd.underlying39 hi hz0 hz1 hz2 rfl (by decide) (.slice p6 fs.length c6) fs.length (fs.map fun x => .int .i64 x) (by simp [Act.eval, Act.put]) X4 ⟨y6.heap.size, 0, none⟩ 1 1 [.int .i64 (layF t (zs.length : Nat) (zs.length + 1)).2] (by simp [Act.eval, Act.put]) rfl (cell_one_new _ _ _) (by simp [Value.oneCell']) (by unfold maxLen; omega) (by omega) (by have := h6.sz; omega) ?_; intro v' w7 hown7 hgrow7 _ hat7))
      all_goals
        simp only [Act.put, List.getElem_toArray, List.getElem_cons_zero, List.getElem_cons_succ, List.setIfInBounds_toArray, List.set_cons_zero, List.set_cons_succ]
        have hrow7 : w7.ownsRow z1.heap.size 3 1 v' (fs ++ [(layF t (zs.length : Nat) (zs.length + 1)).2]).length ((fs ++ [(layF t (zs.length : Nat) (zs.length + 1)).2]).map fun x => .int .i64 x) := by
          rw [List.length_append, List.map_append]; exact hown7
        have hQ : ∀ b, (b < w.heap.size ∨ some b = v'.ownBlock) → (((b < w.heap.size ∨ some b = (Value.slice p6 fs.length c6).ownBlock) ∨ b = wo.heap.size) ∨ b = y6.heap.size + 1) ∧ b < w7.heap.size := fun b hbb => hbb.elim (fun hb => ⟨.inl (.inl (.inl hb)), by have := hgrow7.size; have := h6.sz; omega⟩) fun hb => ⟨by
          rcases hat7 with e | e
          · exact .inl (.inl (.inr (hb.trans e)))
          · rw [e] at hb
            exact .inr ((Option.some.inj hb).trans hya), (World.ownsRow.lt hown7 b hb.symm).2⟩
        have hB7 : BB z1.heap.size (fun b => b < w.heap.size ∨ some b = v'.ownBlock) z1 w7 z1.heap.size (zs ++ [((⟨uZ, -1, [], (j : Nat)⟩, none, 0) : Nq)] ++ zs6) sl6 := h6.grow _ hgrow7 (fun g hg => ⟨.inl (.inr hg.symm), (World.ownsRow.lt X4 g hg).1⟩) hQ
        have hfo : foldF (j + 1) (ts.drop (j + 1)) ((zs ++ [((⟨uZ, -1, [], (j : Nat)⟩, none, 0) : Nq)] ++ zs6).map (·.1)) (fs ++ [(layF t (zs.length : Nat) (zs.length + 1)).2]) = R := by
          rw [List.map_append, List.map_append, he6]; exact HFO.out
        have hl6 : zs6.length + 1 ≤ 2 * sz t := by
          have := congrArg List.length he6
          rw [List.length_map] at this; omega
        have hzl7 : (zs ++ [((⟨uZ, -1, [], (j : Nat)⟩, none, 0) : Nq)] ++ zs6).length ≤ 2 * szL (ts.take (j + 1)) := by rw [HST.out]; simp; omega
        have hfl7 : (fs ++ [(layF t (zs.length : Nat) (zs.length + 1)).2]).length = j + 1 := by simp [HFL.out]
        have HB7 := Lib.hid hB7
        have HF7 := Lib.hid hfo
        have HW7 := Lib.hid hrow7
        have HFL7 := Lib.hid hfl7
        have HZL7 := Lib.hid hzl7
        generalize (zs ++ [((⟨uZ, -1, [], (j : Nat)⟩, none, 0) : Nq)] ++ zs6) = zs7 at *
        generalize fs ++ [(layF t (zs.length : Nat) (zs.length + 1)).2] = fs7 at *
        obtain ⟨p7, c7, rfl⟩ := row_form hown7
        clear hrow7 hQ hB7 hfo hl6 hzl7 hfl7 hown7 hgrow7 hat7 X4 h6 h5 hk5 hk6 hya he6 e1 e2 e3 e4 e5 e6 g1 g2 g3 g4 g5 g6 hbx5 HE HLY H1 HX1 HW1 HFO
        go_wp2_with fail
        go_roundw
        case rel => exact ⟨j + 1, zs7, fs7, sl6, by go_num, by omega, HF7, HB7, HW7, HZL7.out, HFL7.out⟩
        case measure => simp [intOf]; omega
    · obtain rfl : j = ts.length := by omega
      have hR : R = (zs.map (·.1), fs) := by rw [← HF.out, List.drop_length, foldF]
      subst hR
      have hltI : ¬ (ts.length : Int) < (ts.length : Int) := by omega
      have HIV : IVf (fun b => z1.heap.size ≤ b ∧ b < wo.heap.size ∧ some b ≠ sl.ownBlock ∧ b ≠ z1.heap.size ∧ ¬ False) wo fs (.slice p6 fs.length c6) := ⟨p6, c6, rfl, fun hn => by
        obtain ⟨g, rfl, hg1, hg2, hg3⟩ := hcells6 hn
        have hp := HB.out.pr g (.inr rfl)
        exact ⟨g, 0, rfl, ⟨hg1, hg2, hp.2.2, hp.2.1, fun h => h⟩, hg3, own_fz HW.out⟩⟩
      have HC := Lib.hid (free_any (HB.out.less (Q := fun _ => False) (fun b h => h.elim)) (by rw [List.take_length] at hzl; omega) HIV)
      clear HIV hcells6 HF HW
      go_wp2_with fail
      refine HC.out.mono ?_
      rintro _ y1 ⟨rfl, ⟨sl1, h1⟩, -⟩
      have H1 := Lib.hid h1
      have hS : Sb w y1 [(w.heap.size, .cells #[.int .i64 0, .slice none 0 0] 33)] := ⟨S1.out.1.trans (h1.bel.mono S1.out.1.size), fun c hc => by
        simp only [List.mem_cons, List.not_mem_nil, or_false] at hc
        subst hc
        exact ⟨Nat.le_refl _, (h1.bel.block w.heap.size hwz).trans S1.out.heap⟩⟩
      have HSB := Lib.hid hS
      obtain ⟨p1, c1, hsl1⟩ := row_form7 h1.ts.2
      subst hsl1
      have hsv := h1.sv
      have hwp := h1.wipe (by simp)
      have hofs : (zs ++ [((⟨uZ, -1, fs, -1⟩ : Nst), p6, c6)]).map (·.1) = n6_ofF ts := by rw [HOF.out, List.map_append]; rfl
      have hofl : (zs ++ [((⟨uZ, -1, fs, -1⟩ : Nst), p6, c6)]).length = (n6_ofF ts).length := by rw [← hofs, List.length_map]
      have hofl2 : zs.length = (n6_ofF ts).length - 1 := by rw [← hofl]; simp
      rw [hofs] at hsv hwp
      rw [hofl] at hsv hwp
      have cb : y1.cell? ⟨z1.heap.size, 0, none⟩ = some (.slice p1 (n6_ofF ts).length c1) := by rw [cell_of_row y1 z1.heap.size 0 _ 77 (0, 0) h1.f, hofl]; rfl
      have HSV := Lib.hid hsv
      have HWP := Lib.hid hwp
      have HL2 := Lib.hid hofl2
      have g0 : y1.cell? ⟨w.heap.size, 0, none⟩ = some (.int .i64 0) := hS.cell 0
      have g1 : y1.cell? ⟨w.heap.size, 1, none⟩ = some (.slice none 0 0) := hS.cell 1
      have f0 : y1.frozen? ⟨w.heap.size, 0, none⟩ = false := hS.free 0
      have f1 : y1.frozen? ⟨w.heap.size, 1, none⟩ = false := hS.free 1
      have HS2 := Lib.hid ((hS.set (i := 0) (.int .i64 (zs.length : Nat)) (by simp)).set (i := 1) (.slice p1 (n6_ofF ts).length c1) (by simp))
      have hb24 : ∀ (st : Int), Tryd.prog.built 33 [(0, .int .i64 st), (1, .slice p1 (n6_ofF ts).length c1)] = some #[.int .i64 st, .slice p1 (n6_ofF ts).length c1] := fun st => by kernel_rfl
      clear hS h1 hsv hwp hofs hofl HC hofl2
      go_wp2_with fail
      exact bodyPost_ret (v := .tuple #[.agg #[.int .i64 (zs.length : Nat), .slice p1 (n6_ofF ts).length c1], .int .i64 0]) (results_of rfl rfl ((HS2.out.cell 0).trans rfl) ((HS2.out.cell 1).trans rfl)) rfl ⟨⟨p1, c1, by rw [← HL2.out], HSV.out.mono (fun b h => ⟨by omega, by simpa using h.2⟩) (fun b h _ => (heap_setCell_other _ ⟨w.heap.size, 1, none⟩ b _ (by have := h.1; show b ≠ w.heap.size; omega)).trans (heap_setCell_other _ ⟨w.heap.size, 0, none⟩ b _ (by have := h.1; show b ≠ w.heap.size; omega))), HWP.out.mono (fun b h => ⟨by omega, by simpa using h.2⟩) (fun b h _ => (heap_setCell_other _ ⟨w.heap.size, 1, none⟩ b _ (by have := h.1; show b ≠ w.heap.size; omega)).trans (heap_setCell_other _ ⟨w.heap.size, 0, none⟩ b _ (by have := h.1; show b ≠ w.heap.size; omega)))⟩, HS2.out.1⟩
end Go.Proofs.YthglciccejholaaDoor
end
section
/- Package nfa, plain. -/
namespace Go.Proofs.YthglciccejholaaDoor
set_option linter.unusedSimpArgs false
set_option linter.unusedVariables false
set_option maxRecDepth 100000
open Go.RowKit
/- What laid states lead «to»: the patterns' languages. -/
/-- Any number of texts, one behind the other. -/
inductive Sta (P : List UInt8 → Prop) : List UInt8 → Prop where
  | nil : Sta P []
  | app {a b : List UInt8} : P a → Sta P b → Sta P (a ++ b)
mutual
/-- A pattern matches a text. -/
def Lt : RT → List UInt8 → Prop
  | .mk k u ps, w => if k = 1 then w = [] else if k = 2 then ∃ c, w = [c] ∧ hasU u c = true else if k = 3 then LtR ps w else if k = 4 then LtC ps w else if k = 5 then Sta (LtR ps) w
    else if k = 6 then ∃ a b, w = a ++ b ∧ LtR ps a ∧ Sta (LtR ps) b else if k = 7 then w = [] ∨ LtR ps w else False
def LtR : List RT → List UInt8 → Prop
  | [], w => w = []
  | t :: ts, w => ∃ a b, w = a ++ b ∧ Lt t a ∧ LtR ts b
def LtC : List RT → List UInt8 → Prop
  | [], _ => False
  | t :: ts, w => Lt t w ∨ LtC ts w
end
/-- From a state by so many steps and a text «to» another. -/
inductive Pt (ss : List Nst) : Nat → List UInt8 → Nat → Nat → Prop where
  | nil (a : Nat) : Pt ss 0 [] a a
  | free {k : Nat} {w : List UInt8} {a e : Nat} (x : Int) (hx : x ∈ frOf ss a) (h : Pt ss k w x.toNat e) : Pt ss (k + 1) w a e
  | byte {k : Nat} {c : UInt8} {w : List UInt8} {a t e : Nat} (ht : toOf hasU ss c a = some t) (h : Pt ss k w t e) : Pt ss (k + 1) (c :: w) a e
theorem Pt.inv {ss : List Nst} {k : Nat} {w : List UInt8} {a e : Nat} (h : Pt ss k w a e) (hne : a ≠ e) {s : Nst} (hs : ss[a]? = some s) :
    ∃ k', k = k' + 1 ∧ ((∃ x ∈ s.fr, Pt ss k' w x.toNat e) ∨ ∃ c w', w = c :: w' ∧ 0 ≤ s.to ∧ hasU s.u c = true ∧ Pt ss k' w' s.to.toNat e) := by
  cases h with
  | nil => exact absurd rfl hne
  | free x hx h => exact ⟨_, rfl, .inl ⟨x, by unfold frOf at hx; rw [hs] at hx; exact hx, h⟩⟩
  | byte ht h =>
    unfold toOf at ht
    rw [hs] at ht
    simp only at ht
    split at ht
    · rename_i h5
      cases ht
      exact ⟨_, rfl, .inr ⟨_, _, rfl, h5.1, h5.2, h⟩⟩
    · cases ht
theorem Pt.stop {ss : List Nst} {k : Nat} {w : List UInt8} {a e : Nat} (h : Pt ss k w a e) {s : Nst} (hs : ss[a]? = some s) (hf : s.fr = []) (ht : s.to < 0) : w = [] ∧ e = a := by
  cases h with
  | nil => exact ⟨rfl, rfl⟩
  | free x hx h => unfold frOf at hx; rw [hs] at hx; simp only [hf] at hx; cases hx
  | byte ht' h =>
    unfold toOf at ht'
    rw [hs] at ht'
    simp only at ht'
    split at ht'
    · omega
    · cases ht'
theorem Pt.append {ss : List Nst} {k : Nat} {x : List UInt8} {a b : Nat} (h : Pt ss k x a b) {m : Nat} {y : List UInt8} {c : Nat} (g : Pt ss m y b c) : ∃ k', Pt ss k' (x ++ y) a c := by
  induction h with
  | nil a => exact ⟨m, g⟩
  | free x hx _ ih => obtain ⟨k', h'⟩ := ih g; exact ⟨k' + 1, .free x hx h'⟩
  | byte ht _ ih => obtain ⟨k', h'⟩ := ih g; exact ⟨k' + 1, .byte ht h'⟩
theorem Pt.go {ss : List Nst} {k : Nat} {w : List UInt8} {a e : Nat} {s : Nst} (hs : ss[a]? = some s) {x : Int} (hx : x ∈ s.fr) (h : Pt ss k w x.toNat e) : Pt ss (k + 1) w a e := .free x (by unfold frOf; rw [hs]; exact hx) h
theorem Pt.one {ss : List Nst} {a : Nat} {s : Nst} (hs : ss[a]? = some s) {c : UInt8} (h0 : 0 ≤ s.to) (hu : hasU s.u c = true) : Pt ss 1 [c] a s.to.toNat := .byte (by unfold toOf; rw [hs]; simp only; rw [if_pos ⟨h0, hu⟩]) (.nil _)
theorem acc_pt {ss : List Nst} : ∀ (x : List UInt8) (a b : Nat), Go.Proofs.YthglciccejholaaDoor.Acc hasU ss x a b ↔ ∃ k, Pt ss k x a b := by
  have hrt : ∀ a b, Rt ss a b → ∃ k, Pt ss k [] a b := fun a b h => by
    induction h with
    | refl => exact ⟨0, .nil a⟩
    | step _ x hx hc ih =>
      obtain ⟨k, hk⟩ := ih
      subst hc
      exact hk.append (.free x hx (.nil _))
  intro x a b
  constructor
  · induction x generalizing a with
    | nil => exact hrt a b
    | cons c r ih =>
      rintro ⟨s, t, h1, h2, h3⟩
      obtain ⟨k1, g1⟩ := hrt a s h1
      obtain ⟨k2, g2⟩ := ih t h3
      exact g1.append (.byte h2 g2)
  · rintro ⟨k, h⟩
    induction h with
    | nil a => exact Rt.refl a
    | free x hx _ ih => exact Acc.of (.step (.refl _) x hx rfl) ih
    | byte ht _ ih => exact ⟨_, _, .refl _, ht, ih⟩
/-- So much of the states lies there. -/
def AtL (ss : List Nst) (n : Nat) (l : List Nst) : Prop := ∀ i s, l[i]? = some s → ss[n + i]? = some s
theorem AtL.left {ss : List Nst} {n : Nat} {a b : List Nst} (h : AtL ss n (a ++ b)) : AtL ss n a := fun i s hs => h i s (by rw [List.getElem?_append_left (by obtain ⟨h, _⟩ := List.getElem?_eq_some_iff.1 hs; exact h)]; exact hs)
theorem AtL.right {ss : List Nst} {n : Nat} {a b : List Nst} (h : AtL ss n (a ++ b)) : AtL ss (n + a.length) b := fun i s hs => by
  have := h (a.length + i) s (by rw [List.getElem?_append_right (by omega)]; rw [show a.length + i - a.length = i by omega]; exact hs)
  rw [show n + a.length + i = n + (a.length + i) by omega]; exact this
theorem AtL.head {ss : List Nst} {n : Nat} {a : Nst} {b : List Nst} (h : AtL ss n (a :: b)) : ss[n]? = some a := h 0 a rfl
theorem AtL.tail {ss : List Nst} {n : Nat} {a : Nst} {b : List Nst} (h : AtL ss n (a :: b)) : AtL ss (n + 1) b := AtL.right (a := [a]) h
theorem AtL.last {ss : List Nst} {n : Nat} {a : List Nst} {s : Nst} (h : AtL ss n (a ++ [s])) : ss[n + a.length]? = some s := h.right.head
/-- What is behind, once that was read. -/
def Bh (ss : List Nst) (k : Nat) (x : List UInt8) (b e : Nat) (P : List UInt8 → Prop) : Prop := ∃ y z k', k' ≤ k ∧ x = y ++ z ∧ P y ∧ Pt ss k' z b e
theorem Bh.imp {ss : List Nst} {k m : Nat} {x : List UInt8} {b e : Nat} {P Q : List UInt8 → Prop} (h : Bh ss k x b e P) (hk : k ≤ m) (hp : ∀ y, P y → Q y) : Bh ss m x b e Q := by
  obtain ⟨y, z, k', h1, h2, h3, h4⟩ := h
  exact ⟨y, z, k', by omega, h2, hp y h3, h4⟩
theorem star_s {ss : List Nst} {n e : Nat} {b s : Int} {P : List UInt8 → Prop} (hs : ss[n]? = some ⟨uZ, -1, [b, s], -1⟩) (hne : n ≠ e) (hin : ∀ k x, Pt ss k x s.toNat e → Bh ss k x n e P) : ∀ m k x, k ≤ m → Pt ss k x n e → Bh ss k x b.toNat e (Sta P)
  | 0, k, x, hk, h => by obtain ⟨k', h1, _⟩ := h.inv hne hs; omega
  | m + 1, k, x, hk, h => by
    obtain ⟨k', rfl, h1⟩ := h.inv hne hs
    rcases h1 with ⟨f, hf, h1⟩ | ⟨_, _, _, h0, _⟩
    · simp only [List.mem_cons, List.not_mem_nil, or_false] at hf
      rcases hf with rfl | rfl
      · exact ⟨[], x, k', by omega, rfl, .nil, h1⟩
      · obtain ⟨y, z, k2, h2, rfl, h3, h4⟩ := hin _ _ h1
        obtain ⟨y', z', k3, h5, rfl, h6, h7⟩ := star_s hs hne hin m k2 z (by omega) h4
        exact ⟨y ++ y', z', k3, by omega, by simp, .app h3 h6, h7⟩
    · simp at h0
mutual
theorem sF (ss : List Nst) (e : Nat) : ∀ (t : RT) (b : Int) (n : Nat), AtL ss n (layF t b n).1 → (e < n ∨ n + (layF t b n).1.length ≤ e) → ∀ k x, Pt ss k x (layF t b n).2.toNat e → Bh ss k x b.toNat e (Lt t)
  | .mk kd u ps, b, n => by
    rw [layF]
    by_cases h1 : kd = 1
    · rw [if_pos h1]
      intro _ _ k x h
      exact ⟨[], x, k, Nat.le_refl _, rfl, by rw [Lt, if_pos h1], h⟩
    rw [if_neg h1]
    by_cases h2 : kd = 2
    · rw [if_pos h2]
      intro ha he k x h
      have hs := ha.head
      simp only [List.length_singleton, Int.toNat_natCast] at he h
      obtain ⟨k', rfl, hf | ⟨c, w', rfl, h3, h4, h5⟩⟩ := h.inv (by omega) hs
      · obtain ⟨f, hf, _⟩ := hf; simp at hf
      · exact ⟨[c], w', k', by omega, rfl, by rw [Lt, if_neg h1, if_pos h2]; exact ⟨c, rfl, h4⟩, h5⟩
    rw [if_neg h2]
    by_cases h3 : kd = 3
    · rw [if_pos h3]
      intro ha he k x h
      exact (sC ss e ps b n ha he k x h).imp (Nat.le_refl _) fun y hy => by rw [Lt, if_neg h1, if_neg h2, if_pos h3]; exact hy
    rw [if_neg h3]
    by_cases h4 : kd = 4
    · rw [if_pos h4]
      intro ha he k x h
      have hs := ha.last
      simp only [List.length_append, List.length_singleton, Int.toNat_natCast] at he h
      obtain ⟨k', rfl, hf | ⟨c, w', rfl, h6, _⟩⟩ := h.inv (by omega) hs
      · obtain ⟨f, hf, hp⟩ := hf
        exact (n6_sA ss e ps b n ha.left (by omega) f hf k' x hp).imp (by omega) fun y hy => by rw [Lt, if_neg h1, if_neg h2, if_neg h3, if_pos h4]; exact hy
      · simp at h6
    rw [if_neg h4]
    by_cases h5 : kd = 5
    · rw [if_pos h5]
      intro ha he k x h
      have hs := ha.head
      simp only [List.length_cons, Int.toNat_natCast] at he h
      exact (star_s hs (by omega) (fun k x h => by simpa using sC ss e ps (n : Nat) (n + 1) ha.tail (by omega) k x h) k k x (Nat.le_refl _) h).imp (Nat.le_refl _) fun y hy => by rw [Lt, if_neg h1, if_neg h2, if_neg h3, if_neg h4, if_pos h5]; exact hy
    rw [if_neg h5]
    by_cases h6 : kd = 6
    · rw [if_pos h6]
      intro ha he k x h
      have hs := ha.head
      simp only [List.length_cons] at he h
      have hin : ∀ k x, Pt ss k x (layC ps (n : Nat) (n + 1)).2.toNat e → Bh ss k x n e (LtR ps) := fun k x h => by simpa using sC ss e ps (n : Nat) (n + 1) ha.tail (by omega) k x h
      obtain ⟨y, z, k2, g1, rfl, g2, g3⟩ := hin k x h
      obtain ⟨y', z', k3, g4, rfl, g5, g6⟩ := star_s hs (by omega) hin k2 k2 z (Nat.le_refl _) g3
      exact ⟨y ++ y', z', k3, by omega, by simp, by rw [Lt, if_neg h1, if_neg h2, if_neg h3, if_neg h4, if_neg h5, if_pos h6]; exact ⟨y, y', rfl, g2, g5⟩, g6⟩
    rw [if_neg h6]
    by_cases h7 : kd = 7
    · rw [if_pos h7]
      intro ha he k x h
      have hs := ha.last
      simp only [List.length_append, List.length_singleton, Int.toNat_natCast] at he h
      obtain ⟨k', rfl, hf | ⟨c, w', rfl, h8, _⟩⟩ := h.inv (by omega) hs
      · obtain ⟨f, hf, hp⟩ := hf
        simp only [List.mem_cons, List.not_mem_nil, or_false] at hf
        rcases hf with rfl | rfl
        · exact (sC ss e ps b n ha.left (by omega) k' x hp).imp (by omega) fun y hy => by rw [Lt, if_neg h1, if_neg h2, if_neg h3, if_neg h4, if_neg h5, if_neg h6, if_pos h7]; exact .inr hy
        · exact ⟨[], x, k', by omega, rfl, by rw [Lt, if_neg h1, if_neg h2, if_neg h3, if_neg h4, if_neg h5, if_neg h6, if_pos h7]; exact .inl rfl, hp⟩
      · simp at h8
    rw [if_neg h7]
    intro ha he k x h
    have hs := ha.head
    simp only [List.length_singleton, Int.toNat_natCast] at he h
    have := (h.stop hs rfl (by simp)).2
    omega
theorem sC (ss : List Nst) (e : Nat) : ∀ (ps : List RT) (b : Int) (n : Nat), AtL ss n (layC ps b n).1 → (e < n ∨ n + (layC ps b n).1.length ≤ e) → ∀ k x, Pt ss k x (layC ps b n).2.toNat e → Bh ss k x b.toNat e (LtR ps)
  | [], b, n => by
    rw [layC]
    intro _ _ k x h
    exact ⟨[], x, k, Nat.le_refl _, rfl, by rw [LtR], h⟩
  | p :: r, b, n => by
    rw [layC]
    intro ha he k x h
    simp only [List.length_append] at he
    obtain ⟨y, z, k2, g1, rfl, g2, g3⟩ := sF ss e p _ _ ha.right (by omega) k x h
    obtain ⟨y', z', k3, g4, rfl, g5, g6⟩ := sC ss e r b n ha.left (by omega) k2 z g3
    exact ⟨y ++ y', z', k3, by omega, by simp, by rw [LtR]; exact ⟨y, y', rfl, g2, g5⟩, g6⟩
theorem n6_sA (ss : List Nst) (e : Nat) : ∀ (ps : List RT) (b : Int) (n : Nat), AtL ss n (layA ps b n).1 → (e < n ∨ n + (layA ps b n).1.length ≤ e) → ∀ s ∈ (layA ps b n).2, ∀ k x, Pt ss k x s.toNat e → Bh ss k x b.toNat e (LtC ps)
  | [], b, n => by
    rw [layA]
    intro _ _ s hs
    cases hs
  | p :: r, b, n => by
    rw [layA]
    intro ha he s hs k x h
    simp only [List.length_append] at he
    rcases List.mem_cons.1 hs with rfl | hs
    · exact (sF ss e p _ _ ha.left (by omega) k x h).imp (Nat.le_refl _) fun y hy => by rw [LtC]; exact .inl hy
    · exact (n6_sA ss e r b _ ha.right (by omega) s hs k x h).imp (Nat.le_refl _) fun y hy => by rw [LtC]; exact .inr hy
end
end Go.Proofs.YthglciccejholaaDoor
end
