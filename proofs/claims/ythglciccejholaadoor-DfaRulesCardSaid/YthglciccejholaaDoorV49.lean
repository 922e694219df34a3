/- Texts of package regs, one behind the other. -/
import Derived.Test.YthglciccejholaaDoorProg
import Derived.Test.YthglciccejholaaDoorV48
import Derived.Test.YthglciccejholaaDoorV43
import Derived.WalkKit
import Derived.WalkLawsBesides
import Derived.WalkSpells
import Derived.Outline
import Derived.Lib.Walk
import Derived.Lib.Hide
import Derived.Lib.Slices
import Derived.Lib.Strings
import Derived.RegionTactic
import Derived.LoopTactic
import Derived.Below
import Derived.IntWalk
import Derived.Deep.QuietTactic
import Derived.BigQuiet
import Derived.Deep.MidRow
import Derived.Maps.AppendAt
import Derived.Laws.Rows
import Derived.Laws.Tables
import Derived.Deep.WholeRow
import Derived.Deep.Cut
import Derived.Deep.CutRange
import Derived.Lib.SliceRun
import Derived.Laws.MakeOwn
import Derived.Deep.RegionLaw
import Derived.Deep.RegionLawGrows
import Derived.Deep.RegionHeld3
import Derived.RegionCalls
import Derived.Deep.RegionWith
import Derived.Deep.Light
import Derived.Laws.CopyOwn
import Derived.Laws.ResultCell
section
/- Package nfa. -/
namespace Go.Proofs.YthglciccejholaaDoor
set_option linter.unusedSimpArgs false
set_option linter.unusedVariables false
set_option maxRecDepth 100000
open Go.RowKit
/- refused, whatever rules. -/
/-- The first pattern's error. -/
def ckL : List RT → Int
  | [] => 0
  | t :: r => if checkE t = 0 then ckL r else checkE t
/-- What refused answers. -/
def refE (ts : List RT) : Int := if 48 < ts.length then 3 else if ckL ts = 0 then (if 2047 < szL ts then 3 else if ts.all msF = true then 0 else 70) else ckL ts
theorem ckL_drop {ts : List RT} {j : Nat} (h : j < ts.length) : ckL (ts.drop j) = if checkE ts[j] = 0 then ckL (ts.drop (j + 1)) else checkE ts[j] := by
  rw [List.drop_eq_getElem_cons h, ckL]
theorem ckL_all : ∀ {ts : List RT}, ckL ts = 0 → ∀ t ∈ ts, checkE t = 0
  | a :: r, h, t, ht => by
    rw [ckL] at h
    by_cases ha : checkE a = 0
    · rw [if_pos ha] at h
      rcases List.mem_cons.1 ht with rfl | ht
      · exact ha
      · exact ckL_all h t ht
    · rw [if_neg ha] at h; exact absurd h ha
theorem checkE_may {t : RT} (h : checkE t = 0) : mayB t = true := by
  unfold checkE at h
  split at h
  · cases h
  · split at h
    · cases h
    · split at h
      · assumption
      · cases h
set_option maxHeartbeats 8000000 in
theorem refused_any {D : Nat → Prop} {w : World} {ts : List RT} {q : Option Addr} {f : Nat} (hD : ∀ b, D b → b < w.heap.size) (hR : RuV D w ts (.slice q ts.length f)) (hln : ts.length ≤ 9223372036854775806) (hwid : ∀ t ∈ ts, wid t ≤ 9223372036854775806) :
    Calls Tryd.prog 38 #[.slice q ts.length f] w fun e w' => e = .returned (.int .i64 (refE ts)) ∧ Below w.heap.size w w' := by
  have HR := Lib.hid hR
  have HD := Lib.hid hD
  have HWID := Lib.hid hwid
  have hz := zero58
  have S0 := Lib.hid (Below.refl w.heap.size w)
  obtain ⟨R, hRR⟩ : ∃ R : Int, (refE ts) = R := ⟨_, rfl⟩
  rw [hRR]
  unfold refE at hRR
  by_cases hlong : 48 < ts.length
  · rw [if_pos hlong] at hRR
    have HRES := Lib.hid hRR
    have hl48 : (48 : Int) < (ts.length : Int) := by omega
    clear hR hD hwid hRR
    go_enter Tryd.func38, Tryd.ntmps38
    go_wp2_with fail
    go_ret
    exact ⟨ret_i6 HRES.out, S0.out⟩
  rw [if_neg hlong] at hRR
  have HRES := Lib.hid hRR
  have hlen : ts.length ≤ 48 := by omega
  have HM : Hid (∀ t ∈ ts, checkE t = 0 → ∀ (v : Value) (z : World), RV D z t v → (∀ b, D b → b < z.heap.size) → Calls Tryd.prog 75 #[v] z fun e z' => e = .returned (.bool (msF t)) ∧ Below z.heap.size z z') := Lib.hid fun t _ hck v z hv hDz => msome_any (sz t) t (Nat.le_refl _) (by have := checkE_sz hck; omega) (checkE_may hck) hDz hv
  have hl48 : ¬ (48 : Int) < (ts.length : Int) := by omega
  have HCD : Hid (ckL (ts.drop 0) = ckL ts) := Lib.hid (by simp)
  clear hR hD hwid hRR
  go_enter Tryd.func38, Tryd.ntmps38
  go_wp2_with fail
  go_loopw [3, 14] (fun a i wr => ∃ j : Nat, i = .int .i64 (j : Nat) ∧ a = .int .i64 (szL (ts.take j) : Nat) ∧ j ≤ ts.length ∧ Hid (Below w.heap.size w wr) ∧ Hid (ckL (ts.drop j) = ckL ts) ∧ szL (ts.take j) ≤ 512 * j) (fun _ i _ => ts.length - (intOf i).toNat)
  case atStart => exact ⟨0, rfl, by simp [szL], by omega, S0, HCD, by simp [szL]⟩
  case round =>
    clear S0 HCD
    obtain ⟨j, rfl, rfl, hj, HS, HCD, hab0⟩ := hrel
    obtain ⟨wo, rfl⟩ : ∃ wo : World, wo = wr := ⟨_, rfl⟩
    by_cases hlt : j < ts.length
    · obtain ⟨q', f', he, hh⟩ := HR.out
      cases he
      obtain ⟨b, o, rfl, hDb, hx⟩ := hh (by intro e; subst e; simp at hlt)
      obtain ⟨kd, k, u, p, n, c, hv, hcell⟩ := hx j hlt
      have hbw := HD.out b hDb
      have ce : ∀ i y, (#[.int .i64 kd, .int .i64 k, .int .u64 (u 0), .int .u64 (u 1), .int .u64 (u 2), .int .u64 (u 3), .slice p n c] : Array Value)[i]? = some y → wo.cell? ⟨b, o + j * 7 + i, none⟩ = some y := fun i y hy => (cell_same (HS.out.block b hbw) _).trans (hcell i y hy)
      have d0 : wo.cell? ⟨b, o + j * 7, none⟩ = some (.int .i64 kd) := ce 0 _ rfl
      have d1 : wo.cell? ⟨b, o + j * 7 + 1, none⟩ = some (.int .i64 k) := ce 1 _ rfl
      have d2 : wo.cell? ⟨b, o + j * 7 + 2, none⟩ = some (.int .u64 (u 0)) := ce 2 _ rfl
      have d3 : wo.cell? ⟨b, o + j * 7 + 3, none⟩ = some (.int .u64 (u 1)) := ce 3 _ rfl
      have d4 : wo.cell? ⟨b, o + j * 7 + 4, none⟩ = some (.int .u64 (u 2)) := ce 4 _ rfl
      have d5 : wo.cell? ⟨b, o + j * 7 + 5, none⟩ = some (.int .u64 (u 3)) := ce 5 _ rfl
      have d6 : wo.cell? ⟨b, o + j * 7 + 6, none⟩ = some (.slice p n c) := ce 6 _ rfl
      have hmem := List.getElem_mem hlt
      have hdrop := ckL_drop hlt
      rw [HCD.out] at hdrop
      have hww := HWID.out _ hmem
      by_cases hck : checkE ts[j] = 0
      · rw [if_pos hck] at hdrop
        have HDR := Lib.hid hdrop.symm
        have hsz1 := checkE_sz hck
        have hst := szL_take ts j hlt
        have hsl := szL_take_le ts (j + 1)
        have hw2 := wid_sz ts[j]
        have HV := Lib.hid (hv.mono (w' := wo) (fun b h => h) (fun b hb _ => HS.out.block b (HD.out b hb)))
        have HC := Lib.hid fun z (hb : Below wo.heap.size wo z) => rcheck_any (w := z) (D := D) (fun b h => Nat.lt_of_lt_of_le (HD.out b h) (Nat.le_trans HS.out.size hb.size)) (by omega) (HV.out.mono (fun b h => h) (fun b h _ => hb.block b (Nat.lt_of_lt_of_le (HD.out b h) HS.out.size)))
        have HZ := Lib.hid fun z (hb : Below wo.heap.size wo z) => size_any (w := z) (D := D) (fun b h => Nat.lt_of_lt_of_le (HD.out b h) (Nat.le_trans HS.out.size hb.size)) (by omega) (HV.out.mono (fun b h => h) (fun b h _ => hb.block b (Nat.lt_of_lt_of_le (HD.out b h) HS.out.size)))
        unfold nodeC at HC HZ
        rw [hck] at HC
        rw [show min (sz ts[j]) 513 = sz ts[j] by omega] at HZ
        generalize sz ts[j] = s1 at *
        generalize szL (ts.take j) = a at *
        have HST := Lib.hid hst
        have S1 := Lib.hid ((Sb.start wo).alloc (.cells #[.int .i64 kd, .int .i64 k, .int .u64 (u 0), .int .u64 (u 1), .int .u64 (u 2), .int .u64 (u 3), .slice p n c] 29))
        have hltI : (j : Int) < (ts.length : Int) := by omega
        have hjI : ¬ (j : Int) < 0 := by omega
        have hab : a + s1 ≤ 512 * (j + 1) := by omega
        clear hsl hdrop HCD hww
        clear hh hx hcell hv ce hck hmem hst
        go_wp2_with fail
        refine (HC.out _ S1.out.1).mono ?_
        rintro _ y1 ⟨rfl, hb1⟩
        have S2 := Lib.hid (S1.out.up hb1)
        have g1 : y1.cell? ⟨wo.heap.size, 1, none⟩ = some (.int .i64 k) := S2.out.cell 1
        have g2 : y1.cell? ⟨wo.heap.size, 2, none⟩ = some (.int .u64 (u 0)) := S2.out.cell 2
        have g3 : y1.cell? ⟨wo.heap.size, 3, none⟩ = some (.int .u64 (u 1)) := S2.out.cell 3
        have g4 : y1.cell? ⟨wo.heap.size, 4, none⟩ = some (.int .u64 (u 2)) := S2.out.cell 4
        have g5 : y1.cell? ⟨wo.heap.size, 5, none⟩ = some (.int .u64 (u 3)) := S2.out.cell 5
        have g6 : y1.cell? ⟨wo.heap.size, 6, none⟩ = some (.slice p n c) := S2.out.cell 6
        clear hb1 S1 HC d0 d1 d2 d3 d4 d5 d6
        go_wp2_with fail
        refine (HZ.out _ S2.out.1).mono ?_
        rintro _ y2 ⟨rfl, hb2⟩
        have S3 := Lib.hid (HS.out.trans ((S2.out.up hb2).1.mono HS.out.size))
        clear hb2 S2 HZ g1 g2 g3 g4 g5 g6
        go_wp2_with fail
        go_roundw
        case rel => exact ⟨j + 1, by go_num, vint6 (by have := HST.out; omega), by omega, S3, HDR, by have := HST.out; omega⟩
        case measure => simp [intOf]; omega
      · rw [if_neg hck] at hdrop
        have HRR2 : Hid (checkE ts[j] = R) := Lib.hid (by
          have h9 := HRES.out
          rw [if_neg (by rw [hdrop]; exact hck)] at h9
          rw [← h9, hdrop])
        have HV := Lib.hid (hv.mono (w' := wo) (fun b h => h) (fun b hb _ => HS.out.block b (HD.out b hb)))
        have HC := Lib.hid fun z (hb : Below wo.heap.size wo z) => rcheck_any (w := z) (D := D) (fun b h => Nat.lt_of_lt_of_le (HD.out b h) (Nat.le_trans HS.out.size hb.size)) hww (HV.out.mono (fun b h => h) (fun b h _ => hb.block b (Nat.lt_of_lt_of_le (HD.out b h) HS.out.size)))
        unfold nodeC at HC
        have hckI : (checkE ts[j] != 0) = true := by simpa using hck
        generalize checkE ts[j] = E at *
        have S1 := Lib.hid ((Sb.start wo).alloc (.cells #[.int .i64 kd, .int .i64 k, .int .u64 (u 0), .int .u64 (u 1), .int .u64 (u 2), .int .u64 (u 3), .slice p n c] 29))
        have hltI : (j : Int) < (ts.length : Int) := by omega
        have hjI : ¬ (j : Int) < 0 := by omega
        clear hh hx hcell hv ce hck hmem hdrop HCD hww HV
        go_wp2_with fail
        refine (HC.out _ S1.out.1).mono ?_
        rintro _ y1 ⟨rfl, hb1⟩
        have S3 := Lib.hid (HS.out.trans ((S1.out.up hb1).1.mono HS.out.size))
        clear hb1 S1 HC d0 d1 d2 d3 d4 d5 d6
        go_wp2_with fail
        go_ret
        exact ⟨ret_i6 HRR2.out, S3.out⟩
    · obtain rfl : j = ts.length := by omega
      rw [List.take_length]
      have hltI : ¬ (ts.length : Int) < (ts.length : Int) := by omega
      have hck0 : ckL ts = 0 := by rw [← HCD.out, List.drop_length]; rfl
      have hres := HRES.out
      rw [if_pos hck0] at hres
      have hcall := ckL_all hck0
      rw [List.take_length] at hab0
      by_cases hszl : 2047 < szL ts
      · rw [if_pos hszl] at hres
        have HR3 := Lib.hid hres
        have hszI : (2047 : Int) < (szL ts : Nat) := by omega
        clear hres hcall hck0 HCD HRES
        go_wp2_with fail
        go_ret
        exact ⟨ret_i6 HR3.out, HS.out⟩
      rw [if_neg hszl] at hres
      have HRES2 := Lib.hid hres
      have HCALL := Lib.hid hcall
      have hszI : ¬ (2047 : Int) < (szL ts : Nat) := by omega
      clear hres hcall hck0 HCD HRES
      go_wp2_with fail
      go_loopw [34] (fun i wr => ∃ j : Nat, i = .int .i64 (j : Nat) ∧ j ≤ ts.length ∧ Hid ((ts.take j).all msF = true) ∧ Hid (Below w.heap.size w wr)) (fun i _ => ts.length - (intOf i).toNat)
      case atStart => exact ⟨0, rfl, by omega, Lib.hid (by simp), HS⟩
      case round =>
        clear HS
        obtain ⟨j, rfl, hj, HA, HS⟩ := hrel
        obtain ⟨wo, rfl⟩ : ∃ wo : World, wo = wr := ⟨_, rfl⟩
        by_cases hlt : j < ts.length
        · obtain ⟨q', f', he, hh⟩ := HR.out
          cases he
          obtain ⟨b, o, rfl, hDb, hx⟩ := hh (by intro e; subst e; simp at hlt)
          obtain ⟨kd, k, u, p, n, c, hv, hcell⟩ := hx j hlt
          have hbw := HD.out b hDb
          have ce : ∀ i y, (#[.int .i64 kd, .int .i64 k, .int .u64 (u 0), .int .u64 (u 1), .int .u64 (u 2), .int .u64 (u 3), .slice p n c] : Array Value)[i]? = some y → wo.cell? ⟨b, o + j * 7 + i, none⟩ = some y := fun i y hy => (cell_same (HS.out.block b hbw) _).trans (hcell i y hy)
          have d0 : wo.cell? ⟨b, o + j * 7, none⟩ = some (.int .i64 kd) := ce 0 _ rfl
          have d1 : wo.cell? ⟨b, o + j * 7 + 1, none⟩ = some (.int .i64 k) := ce 1 _ rfl
          have d2 : wo.cell? ⟨b, o + j * 7 + 2, none⟩ = some (.int .u64 (u 0)) := ce 2 _ rfl
          have d3 : wo.cell? ⟨b, o + j * 7 + 3, none⟩ = some (.int .u64 (u 1)) := ce 3 _ rfl
          have d4 : wo.cell? ⟨b, o + j * 7 + 4, none⟩ = some (.int .u64 (u 2)) := ce 4 _ rfl
          have d5 : wo.cell? ⟨b, o + j * 7 + 5, none⟩ = some (.int .u64 (u 3)) := ce 5 _ rfl
          have d6 : wo.cell? ⟨b, o + j * 7 + 6, none⟩ = some (.slice p n c) := ce 6 _ rfl
          have hmem := List.getElem_mem hlt
          have hal := all_take2 msF ts j hlt
          rw [HA.out, Bool.true_and] at hal
          have HNO := Lib.hid fun (h : msF ts[j] = false) => (by rw [List.all_eq_false]; exact ⟨ts[j], hmem, by simp [h]⟩ : ts.all msF = false)
          have HV := Lib.hid (hv.mono (w' := wo) (fun b h => h) (fun b hb _ => HS.out.block b (HD.out b hb)))
          have HC := Lib.hid fun z (hb : Below wo.heap.size wo z) => HM.out _ hmem (HCALL.out _ hmem) _ z (HV.out.mono (fun b h => h) (fun b h _ => hb.block b (Nat.lt_of_lt_of_le (HD.out b h) HS.out.size))) (fun b h => Nat.lt_of_lt_of_le (HD.out b h) (Nat.le_trans HS.out.size hb.size))
          unfold nodeC at HC
          generalize msF ts[j] = mj at *
          have HAL := Lib.hid hal
          have S1 := Lib.hid ((Sb.start wo).alloc (.cells #[.int .i64 kd, .int .i64 k, .int .u64 (u 0), .int .u64 (u 1), .int .u64 (u 2), .int .u64 (u 3), .slice p n c] 29))
          have hltI : (j : Int) < (ts.length : Int) := by omega
          have hjI : ¬ (j : Int) < 0 := by omega
          clear hh hx hcell hv ce hmem hal
          go_wp2_with fail
          refine (HC.out _ S1.out.1).mono ?_
          rintro _ y1 ⟨rfl, hb1⟩
          have S3 := Lib.hid (HS.out.trans ((S1.out.up hb1).1.mono HS.out.size))
          clear hb1 S1 HC d0 d1 d2 d3 d4 d5 d6
          cases mj with
          | true =>
            go_wp2_with fail
            go_roundw
            case rel => exact ⟨j + 1, by go_num, by omega, HAL, S3⟩
            case measure => simp [intOf]; omega
          | false =>
            have HRR : Hid ((70 : Int) = R) := Lib.hid (by rw [← HRES2.out, HNO.out rfl]; rfl)
            go_wp2_with fail
            go_ret
            exact ⟨ret_i6 HRR.out, S3.out⟩
        · obtain rfl : j = ts.length := by omega
          have hall := HA.out
          rw [List.take_length] at hall
          have HRR : Hid ((0 : Int) = R) := Lib.hid (by rw [← HRES2.out, if_pos hall])
          have hltI : ¬ (ts.length : Int) < (ts.length : Int) := by omega
          clear hall HA
          go_wp2_with fail
          go_ret
          exact ⟨ret_i6 HRR.out, HS.out⟩
end Go.Proofs.YthglciccejholaaDoor
end
section
/- Package nfa. -/
namespace Go.Proofs.YthglciccejholaaDoor
set_option linter.unusedSimpArgs false
set_option linter.unusedVariables false
set_option maxRecDepth 100000
open Go.RowKit
/- States that may be written over. -/
def Wipe (D : Nat → Prop) (w : World) (ss : List Nst) (sl : Value) (j : Nat) : Prop := ∃ g c cs t, sl = .slice (some ⟨g, 0, none⟩) ss.length c ∧ D g ∧ w.heap[g]? = some (.cells cs t (0, 0)) ∧ ss.length * 7 ≤ cs.size ∧
  ∀ i (h : i < ss.length), j ≤ i → ∃ q f, w.cell? ⟨g, i * 7 + 5, none⟩ = some (.slice q ss[i].fr.length f) ∧ (ss[i].fr ≠ [] → ∃ b o cs' t', q = some ⟨b, o, none⟩ ∧ D b ∧ b ≠ g ∧ w.heap[b]? = some (.cells cs' t' (0, 0)) ∧ o + ss[i].fr.length ≤ cs'.size)
theorem Wipe.mono {D E : Nat → Prop} {w w' : World} {ss : List Nst} {sl : Value} {j : Nat} (hE : ∀ b, D b → E b) (hw : ∀ b, D b → b < w.heap.size → w'.heap[b]? = w.heap[b]?) (h : Wipe D w ss sl j) : Wipe E w' ss sl j := by
  obtain ⟨g, c, cs, t, rfl, hD, hh, hs, hx⟩ := h
  have hg := hw g hD (Array.getElem?_eq_some_iff.1 hh).1
  refine ⟨g, c, cs, t, rfl, hE g hD, hg.trans hh, hs, fun i hi hj => ?_⟩
  obtain ⟨q, f, h1, h2⟩ := hx i hi hj
  refine ⟨q, f, (cell_same hg _).trans h1, fun hn => ?_⟩
  obtain ⟨b, o, cs', t', e, hDb, hne, hb, ho⟩ := h2 hn
  exact ⟨b, o, cs', t', e, hE b hDb, hne, (hw b hDb (Array.getElem?_eq_some_iff.1 hb).1).trans hb, ho⟩
theorem cell_in {w : World} {b i : Nat} {cs : Array Value} {t : TypeId} {v : Value} (hh : w.heap[b]? = some (.cells cs t (0, 0))) (h : w.cell? ⟨b, i, none⟩ = some v) : i < cs.size := by
  rw [cell_of_row w b i _ t (0, 0) hh] at h
  exact (Array.getElem?_eq_some_iff.1 h).1
theorem BB.wipe {B : Nat} {P : Nat → Prop} {w0 y : World} {bb : Nat} {zs : List Nq} {sl : Value} (h : BB B P w0 y bb zs sl) (hn : zs ≠ []) : Wipe (fun b => B ≤ b ∧ b < y.heap.size) y (zs.map (·.1)) sl 0 := by
  rcases h.ts.2.2 with ⟨rfl, h0⟩ | ⟨g, cap, cur, rfl, hb, hg, hcap, hcm, hcs, htk⟩
  · exact absurd (List.length_eq_zero_iff.1 h0) hn
  · have hgl := (Array.getElem?_eq_some_iff.1 hg).1
    refine ⟨g, cap, cur, 73, by simp, ⟨hb, hgl⟩, hg, by rw [hcs, List.length_map]; exact Nat.mul_le_mul_right _ hcap, fun i hi _ => ?_⟩
    have hi' : i < zs.length := by simpa using hi
    have e : (zs.map (·.1))[i] = zs[i].1 := by simp
    rw [e]
    have h2 := World.ownsRow.cells h.ts.2 (g := g) rfl (i * 7 + 5) _ (by rw [flatz_get zs i hi' 5 (by omega)]; rfl)
    rw [Addr.add_mid, Nat.zero_add] at h2
    refine ⟨_, _, h2, fun hne => ?_⟩
    obtain ⟨p, c, he, hh⟩ := h.ts.1 i hi'
    obtain ⟨b, o, rfl, hD, hc, cs, t, hf⟩ := hh hne
    have e2 : zs[i].2.1 = some ⟨b, o, none⟩ := by injection he
    have hl : 0 < zs[i].1.fr.length := List.length_pos_iff.2 hne
    have := cell_in hf (hc (zs[i].1.fr.length - 1) (by omega))
    exact ⟨b, o, cs, t, e2, ⟨hD.1, hD.2.1⟩, fun e => hD.2.2.1 (by simp [Value.ownBlock, e]), hf, by omega⟩
end Go.Proofs.YthglciccejholaaDoor
end
