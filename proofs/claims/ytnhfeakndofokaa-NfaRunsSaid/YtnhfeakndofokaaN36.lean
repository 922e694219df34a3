/- Package nfa. -/
import Derived.Test.YtnhfeakndofokaaProg
import Derived.Test.YtnhfeakndofokaaN35
import Derived.WalkKit
import Derived.WalkLawsBesides
import Derived.WalkSpells
import Derived.Outline
import Derived.Lib.Walk
import Derived.Lib.Hide
import Derived.Lib.Slices
import Derived.Lib.Strings
import Derived.RegionTactic
import Derived.LoopTactic
import Derived.Below
import Derived.IntWalk
import Derived.Deep.QuietTactic
import Derived.BigQuiet
import Derived.Deep.MidRow
import Derived.Maps.AppendAt
import Derived.Laws.Rows
import Derived.Laws.Tables
import Derived.Deep.WholeRow
import Derived.Deep.Cut
import Derived.Deep.CutRange
import Derived.Lib.SliceRun
import Derived.Laws.MakeOwn
import Derived.Deep.RegionLaw
import Derived.Deep.RegionLawGrows
import Derived.Deep.RegionHeld3
import Derived.RegionCalls
import Derived.Deep.RegionWith
namespace Go.Proofs.Ytnhfeakndofokaa
set_option linter.unusedSimpArgs false
set_option linter.unusedVariables false
set_option maxRecDepth 100000
open Go.RowKit
/- LeftNfa: the walk. -/
theorem keepL {v1 v2 v3 v4 : Value} {a1 a2 b1 b2 o1 o2 : Nat} {w0 w w' : World} (h : w.cell? ⟨a1, 1, none⟩ = some v1 ∧ w.cell? ⟨a2, 1, none⟩ = some v2 ∧ w.cell? ⟨b1, o1, none⟩ = some v3 ∧ w.cell? ⟨b2, o2, none⟩ = some v4 ∧ a1 < w.heap.size ∧ a2 < w.heap.size ∧ b1 < w.heap.size ∧ b2 < w.heap.size ∧ Below w0.heap.size w0 w) (hb : Below w.heap.size w w') :
    w'.cell? ⟨a1, 1, none⟩ = some v1 ∧ w'.cell? ⟨a2, 1, none⟩ = some v2 ∧ w'.cell? ⟨b1, o1, none⟩ = some v3 ∧ w'.cell? ⟨b2, o2, none⟩ = some v4 ∧ a1 < w'.heap.size ∧ a2 < w'.heap.size ∧ b1 < w'.heap.size ∧ b2 < w'.heap.size ∧ Below w0.heap.size w0 w' := by
  obtain ⟨h1, h2, h3, h4, z1, z2, z3, z4, K⟩ := h
  exact ⟨(hb.cell (p := ⟨a1, 1, none⟩) z1).trans h1, (hb.cell (p := ⟨a2, 1, none⟩) z2).trans h2, (hb.cell (p := ⟨b1, o1, none⟩) z3).trans h3, (hb.cell (p := ⟨b2, o2, none⟩) z4).trans h4, Nat.lt_of_lt_of_le z1 hb.size, Nat.lt_of_lt_of_le z2 hb.size, Nat.lt_of_lt_of_le z3 hb.size, Nat.lt_of_lt_of_le z4 hb.size, K.trans (hb.mono K.size)⟩
set_option maxHeartbeats 16000000 in
theorem left_nfa {D : Nat → Prop} {B : Nat} {w : World} {st : Int} {ss : List Nst} {q : Option Addr} {c g cap : Nat} {zs : List Nq} (hD : ∀ b, D b → b < w.heap.size) (hSV : SV D w ss (.slice q ss.length c)) (hz : zs.map (fun z : Nq => z.1) = ss) (hT : TN B zs (mkqs 3) (.slice (some ⟨g, 0, none⟩) (ss.length + 3) cap) w) (hfl : ∀ s ∈ ss, s.fr.length ≤ 1000000) (hln : ss.length ≤ 1000000) :
    Calls Try.prog 13 #[nV st (some ⟨g, 0, none⟩) ss.length cap, nV st q ss.length c] w fun e w' => e = .returned (.bool true) ∧ Below w.heap.size w w' := by
  have hzl : zs.length = ss.length := by rw [← hz]; simp
  have hcap : ss.length + 3 ≤ cap := by
    obtain ⟨g', cap', he, hc⟩ := row_own hT.2 (by rw [List.length_append, mkqs_len]; omega)
    injection he with e1 e2 e3
    rw [List.length_append, mkqs_len] at hc
    omega
  have hA := tn_sv hT hz cap
  have hgl := World.ownsRow.lt hT.2 g rfl
  have hs0 := ((Sb.start w).alloc (.cells #[.int .i64 st, .slice (some ⟨g, 0, none⟩) ss.length cap] 24)).alloc (.cells #[.int .i64 st, .slice q ss.length c] 24)
  have hs1 : (w.alloc (.cells #[.int .i64 st, .slice (some ⟨g, 0, none⟩) ss.length cap] 24)).heap.size = w.heap.size + 1 := by simp
  rw [hs1] at hs0
  have hC := samenfa_true (w := (w.alloc (.cells #[.int .i64 st, .slice (some ⟨g, 0, none⟩) ss.length cap] 24)).alloc (.cells #[.int .i64 st, .slice q ss.length c] 24)) (st := st) (D := fun b => B ≤ b ∧ b < w.heap.size) (E := D) (fun b hb => Nat.lt_of_lt_of_le hb.2 hs0.1.size) (fun b hb => Nat.lt_of_lt_of_le (hD b hb) hs0.1.size) (hA.mono (fun b h => h) (fun b h _ => hs0.1.block b h.2)) (hSV.mono (fun b h => h) (fun b h _ => hs0.1.block b (hD b h))) hfl hln
  unfold nV at hC
  have HC := Lib.hid hC
  have S0 := Lib.hid hs0
  have HSV := Lib.hid hSV
  have HFL := Lib.hid hfl
  have HD := Lib.hid hD
  have HZ := Lib.hid hz
  have HZL := Lib.hid hzl
  have HT := Lib.hid hT
  have HG := Lib.hid hgl.2
  have c1 : ¬ (cap : Int) < (ss.length : Int) + 3 := by omega
  have c2 : (ss.length : Int) + 3 ≤ (cap : Int) := by omega
  have c3 : ss.length + 3 ≤ cap := hcap
  have c4 : (0 : Int) ≤ (ss.length : Int) + 3 := by omega
  have c5 : ¬ (ss.length : Int) + 3 < 0 := by omega
  clear hSV hfl hD hs0 hs1 hC hz hzl hT hgl hcap hA
  unfold nV
  go_enter Try.func13, Try.ntmps13
  go_wp2_with fail
  refine HC.out.mono ?_
  rintro _ w1 ⟨rfl, hb1⟩
  have S1 := Lib.hid (S0.out.up hb1)
  have k0 : w1.cell? ⟨w.heap.size, 1, none⟩ = some (.slice (some ⟨g, 0, none⟩) ss.length cap) := S1.out.tl.cell 1
  have k1 : w1.cell? ⟨w.heap.size + 1, 1, none⟩ = some (.slice q ss.length c) := S1.out.cell 1
  clear hb1 HC S0
  go_wp2_with fail
  clear k0 k1
  go_loopw [6] (fun i wr => ∃ k : Nat, k ≤ 3 ∧ i = .int .i64 (k : Nat) ∧ Hid (Sb w wr [(w.heap.size + 1, (.cells #[.int .i64 st, .slice q ss.length c] 24)), (w.heap.size, (.cells #[.int .i64 st, .slice (some ⟨g, 0, none⟩) ss.length cap] 24))])) (fun i _ => 3 - (intOf i).toNat)
  case atStart => exact ⟨0, by omega, rfl, S1⟩
  case round =>
  clear S1
  obtain ⟨k, hk, rfl, HS⟩ := hrel
  obtain ⟨wo, rfl⟩ : ∃ wo : World, wo = wr := ⟨_, rfl⟩
  have k1 : wo.cell? ⟨w.heap.size + 1, 1, none⟩ = some (.slice q ss.length c) := HS.out.cell 1
  by_cases hk3 : k < 3
  · have hk3I : (k : Int) < 3 := by omega
    have cm : wo.cell? ⟨g, (ss.length + k) * 7 + 4, none⟩ = some (.int .i64 (-7000 - (k : Int))) := (cell_same (HS.out.1.block g HG.out) _).trans (by have := tn_mark HT.out k hk3; rwa [HZL.out] at this)
    have i1 : ¬ (ss.length : Int) + (k : Int) < 0 := by omega
    have i2 : (ss.length : Int) + (k : Int) < (ss.length : Int) + 3 := by omega
    go_wp2_with fail
    go_roundw
    case rel => exact ⟨k + 1, by omega, by go_num, HS⟩
    case measure => simp [intOf]; omega
  · obtain rfl : k = 3 := by omega
    rw [show ((3 : Nat) : Int) = 3 from rfl]
    clear k1
    go_wp2_with fail
    go_loopw [7] (fun i wr => ∃ j : Nat, j ≤ ss.length ∧ i = .int .i64 (j : Nat) ∧ Hid (Sb w wr [(w.heap.size + 1, (.cells #[.int .i64 st, .slice q ss.length c] 24)), (w.heap.size, (.cells #[.int .i64 st, .slice (some ⟨g, 0, none⟩) ss.length cap] 24))])) (fun i _ => ss.length - (intOf i).toNat)
    case atStart => exact ⟨0, by omega, rfl, HS⟩
    case round =>
    clear HS
    obtain ⟨j, hj, rfl, HS⟩ := hrel
    obtain ⟨wv, rfl⟩ : ∃ wv : World, wv = wr := ⟨_, rfl⟩
    have k0 : wv.cell? ⟨w.heap.size, 1, none⟩ = some (.slice (some ⟨g, 0, none⟩) ss.length cap) := HS.out.tl.cell 1
    have k1 : wv.cell? ⟨w.heap.size + 1, 1, none⟩ = some (.slice q ss.length c) := HS.out.cell 1
    by_cases hlt : j < ss.length
    · have hjz : j < zs.length := by have := HZL.out; omega
      obtain ⟨q', c', he, hSV⟩ := HSV.out
      cases he
      obtain ⟨bb, o, rfl, hDb, hx⟩ := hSV (by intro e; subst e; simp at hlt)
      obtain ⟨qf, f, hiv, hcell⟩ := hx j hlt
      have hbw := HD.out bb hDb
      have hfl := HFL.out ss[j] (List.getElem_mem hlt)
      have hzj : zs[j].1 = ss[j] := by have := HZ.out; subst this; simp
      have hti := tn_ti (HT.out.up (HS.out.1)) j hjz
      have hcz := (cell_same (HS.out.1.block g HG.out) (j * 7 + 5)).trans (tn_cells HT.out j (by simp; omega) 5 (.slice zs[j].2.1 zs[j].1.fr.length zs[j].2.2) (by rw [List.getElem_append_left hjz]; rfl))
      have hcs := (cell_same (HS.out.1.block bb hbw) _).trans (hcell 5 (.slice qf (ss[j]).fr.length f) rfl)
      obtain ⟨pz, fz, hq⟩ : ∃ pz fz, zs[j].2 = (pz, fz) := ⟨_, _, rfl⟩
      rw [hzj, hq] at hti hcz
      generalize ss[j] = s at *
      obtain ⟨u, tg, fr, rl⟩ := s
      simp only at hti hcz hcs hiv hfl
      obtain ⟨frl, hfrl⟩ : ∃ frl, fr.length = frl := ⟨_, rfl⟩
      rw [hfrl] at hti hcz hcs hiv
      have HTI := Lib.hid hti
      have HIV : Hid (IV D w fr (.slice qf frl f)) := Lib.hid hiv
      have HFN := Lib.hid hfl
      have HFRL := Lib.hid hfrl
      have HCALL : Hid (∀ z : World, Below w.heap.size w z → Below wv.heap.size wv z → Calls Try.prog 29 #[.slice pz frl fz, .slice qf frl f] z fun e w' => e = .returned (.bool true) ∧ Below z.heap.size z w') := Lib.hid fun z hz1 hz2 => by
        have h1 : TI B z fr (.slice pz frl fz) := by
          obtain ⟨g', cp, e, h⟩ := HTI.out
          exact ⟨g', cp, e, World.ownsRow.kept (row := none) h ⟨hz2.os, hz2.tape, hz2.output, hz2.size, fun k hk _ => hz2.block k hk⟩ (.inr (by simp [Value.ownBlock]))⟩
        have h2 := left_ints (E := D) (pb := qf) (cb := f) (v := .slice pz frl fz) HFN.out (fun b hb => Nat.lt_of_lt_of_le (HD.out b hb) hz1.size) h1 (by rw [HFRL.out]; exact HIV.out.mono (fun b h => h) (fun b h _ => hz1.block b (HD.out b h)))
        rw [HFRL.out] at h2
        exact h2
      have z1 : w.heap.size < wv.heap.size := HS.out.tl.lt
      have z2 : w.heap.size + 1 < wv.heap.size := HS.out.lt
      have z3 : g < wv.heap.size := Nat.lt_of_lt_of_le HG.out HS.out.1.size
      have z4 : bb < wv.heap.size := Nat.lt_of_lt_of_le hbw HS.out.1.size
      have HB := Lib.hid HS.out.1
      have hltI : (j : Int) < (ss.length : Int) := by omega
      have hjI : ¬ (j : Int) < 0 := by omega
      clear hx hSV hcell hiv hfl hti hfrl hq hzj hDb
      go_wp2_with fail
      have hX : ∀ w', Below wv.drew.heap.size wv.drew w' → w'.cell? ⟨w.heap.size, 1, none⟩ = some (.slice (some ⟨g, 0, none⟩) ss.length cap) ∧ w'.cell? ⟨w.heap.size + 1, 1, none⟩ = some (.slice (some ⟨bb, o, none⟩) ss.length c) ∧ w'.cell? ⟨g, j * 7 + 5, none⟩ = some (.slice pz frl fz) ∧ w'.cell? ⟨bb, o + j * 7 + 5, none⟩ = some (.slice qf frl f) ∧ w.heap.size < w'.heap.size ∧ w.heap.size + 1 < w'.heap.size ∧ g < w'.heap.size ∧ bb < w'.heap.size ∧ Below wv.heap.size wv w' := fun w' hb => keepL (w := wv.drew) ⟨k0, k1, hcz, hcs, z1, z2, z3, z4, (Below.refl wv.heap.size wv).drew⟩ hb
      go_region_held3 (fun w' => w'.cell? ⟨w.heap.size, 1, none⟩ = some (.slice (some ⟨g, 0, none⟩) ss.length cap) ∧ w'.cell? ⟨w.heap.size + 1, 1, none⟩ = some (.slice (some ⟨bb, o, none⟩) ss.length c) ∧ w'.cell? ⟨g, j * 7 + 5, none⟩ = some (.slice pz frl fz) ∧ w'.cell? ⟨bb, o + j * 7 + 5, none⟩ = some (.slice qf frl f) ∧ w.heap.size < w'.heap.size ∧ w.heap.size + 1 < w'.heap.size ∧ g < w'.heap.size ∧ bb < w'.heap.size ∧ Below wv.heap.size wv w')
        (first | assumption | exact ⟨k0, k1, hcz, hcs, z1, z2, z3, z4, (Below.refl wv.heap.size wv).drew⟩ | exact hX _ hb)
        (first | (go_at_call 29; refine (HCALL.out _ HB.out.drew (Below.refl wv.heap.size wv).drew).mono ?_; rintro _ w' ⟨rfl, hb⟩))
      have HS2 := Lib.hid (HS.out.up (((Below.refl wv.heap.size wv).drew).trans hb))
      clear hb hX hcz hcs HS k0 k1 HCALL
      go_wp2_with fail
      go_roundw
      case rel => exact ⟨j + 1, by omega, by go_num, HS2⟩
      case measure => simp [intOf]; omega
    · obtain rfl : j = ss.length := by omega
      go_wp2_with fail
      go_ret
      exact ⟨rfl, HS.out.1⟩
end Go.Proofs.Ytnhfeakndofokaa
