/- Texts of package regs, one behind the other. -/
import Derived.Test.YtnhfeakndofokaaProg
import Derived.Test.YtnhfeakndofokaaN34
import Derived.WalkKit
import Derived.WalkLawsBesides
import Derived.WalkSpells
import Derived.Outline
import Derived.Lib.Walk
import Derived.Lib.Hide
import Derived.Lib.Slices
import Derived.Lib.Strings
import Derived.RegionTactic
import Derived.LoopTactic
import Derived.Below
import Derived.IntWalk
import Derived.Deep.QuietTactic
import Derived.BigQuiet
import Derived.Deep.MidRow
import Derived.Maps.AppendAt
import Derived.Laws.Rows
import Derived.Laws.Tables
import Derived.Deep.WholeRow
import Derived.Deep.Cut
import Derived.Deep.CutRange
import Derived.Lib.SliceRun
import Derived.Laws.MakeOwn
import Derived.Deep.RegionLaw
import Derived.Deep.RegionLawGrows
import Derived.Deep.RegionHeld3
import Derived.RegionCalls
import Derived.Deep.RegionWith
import Derived.Test.YtnhfeakndofokaaY9
import Derived.Test.YtnhfeakndofokaaY3
section
/- Package nfa. -/
namespace Go.Proofs.Ytnhfeakndofokaa
set_option linter.unusedSimpArgs false
set_option linter.unusedVariables false
set_option maxRecDepth 100000
open Go.RowKit
/- LeftNfa. -/
theorem tn_cells {B : Nat} {zs ms : List Nq} {g cap n : Nat} {w : World} (h : TN B zs ms (.slice (some ⟨g, 0, none⟩) n cap) w) (i : Nat) (hi : i < (zs ++ ms).length) (j : Nat) (y : Value) (hy : (zC (zs ++ ms)[i])[j]? = some y) : w.cell? ⟨g, i * 7 + j, none⟩ = some y := by
  have hj : j < 7 := by have := (Array.getElem?_eq_some_iff.1 hy).1; simpa [zC_size] using this
  have := h.2.cells (g := g) rfl (i * 7 + j) y (by rw [flatz_get _ i hi j hj]; exact hy)
  rwa [Addr.add_mid, Nat.zero_add] at this
theorem tn_sv {B : Nat} {zs ms : List Nq} {g cap n : Nat} {w : World} {ss : List Nst} (h : TN B zs ms (.slice (some ⟨g, 0, none⟩) n cap) w) (hz : zs.map (fun z : Nq => z.1) = ss) (c : Nat) : SV (fun b => B ≤ b ∧ b < w.heap.size) w ss (.slice (some ⟨g, 0, none⟩) ss.length c) := by
  refine ⟨_, _, rfl, fun hne => ⟨g, 0, rfl, h.2.lt g rfl, fun i hi => ?_⟩⟩
  subst hz
  have hi' : i < zs.length := by simpa using hi
  have e : (zs.map (fun z : Nq => z.1))[i] = zs[i].1 := by simp
  rw [e]
  obtain ⟨g', e1, hrow⟩ := (h.1 zs[i] (List.getElem_mem hi')).1
  refine ⟨zs[i].2.1, zs[i].2.2, ?_, fun j y hy => ?_⟩
  · rw [e1]
    have h1 := ti_iv hrow
    have h2 := World.ownsRow.lt hrow g' rfl
    obtain ⟨p, cc, he, hh⟩ := h1
    injection he with e2 e3 e4
    exact ⟨_, _, rfl, fun hn => by
      obtain ⟨b, o, hp, hb, hc⟩ := hh hn
      refine ⟨b, o, by rw [e2]; exact hp, ?_, hc⟩
      have hb' : b = g' := hb
      rw [hb']; exact h2⟩
  · have := tn_cells h i (by simp; omega) j y (by rw [List.getElem_append_left hi']; exact hy)
    rw [Nat.zero_add]; exact this
theorem tn_ti {B : Nat} {zs ms : List Nq} {sl : Value} {w : World} (h : TN B zs ms sl w) (i : Nat) (hi : i < zs.length) : TI B w zs[i].1.fr (.slice zs[i].2.1 zs[i].1.fr.length zs[i].2.2) := by
  obtain ⟨g, h1, h2⟩ := (h.1 zs[i] (List.getElem_mem hi)).1
  exact ⟨g, zs[i].2.2, by rw [h1], h2⟩
theorem tn_mark {B : Nat} {zs : List Nq} {g cap n : Nat} {w : World} (h : TN B zs (mkqs 3) (.slice (some ⟨g, 0, none⟩) n cap) w) (k : Nat) (hk : k < 3) : w.cell? ⟨g, (zs.length + k) * 7 + 4, none⟩ = some (.int .i64 (-7000 - (k : Int))) := by
  refine tn_cells h (zs.length + k) (by simp [mkqs_len]; omega) 4 _ ?_
  rw [List.getElem_append_right (by omega)]
  simp only [show zs.length + k - zs.length = k by omega]
  simp [mkqs, mkq, zC, stC]
end Go.Proofs.Ytnhfeakndofokaa
end
section
/- Package nfa. -/
namespace Go.Proofs.Ytnhfeakndofokaa
set_option linter.unusedSimpArgs false
set_option linter.unusedVariables false
set_option maxRecDepth 100000
open Go.RowKit
/- LeftNfa: the walk. -/
theorem keepL {v1 v2 v3 v4 : Value} {a1 a2 b1 b2 o1 o2 : Nat} {w0 w w' : World} (h : w.cell? ⟨a1, 1, none⟩ = some v1 ∧ w.cell? ⟨a2, 1, none⟩ = some v2 ∧ w.cell? ⟨b1, o1, none⟩ = some v3 ∧ w.cell? ⟨b2, o2, none⟩ = some v4 ∧ a1 < w.heap.size ∧ a2 < w.heap.size ∧ b1 < w.heap.size ∧ b2 < w.heap.size ∧ Below w0.heap.size w0 w) (hb : Below w.heap.size w w') :
    w'.cell? ⟨a1, 1, none⟩ = some v1 ∧ w'.cell? ⟨a2, 1, none⟩ = some v2 ∧ w'.cell? ⟨b1, o1, none⟩ = some v3 ∧ w'.cell? ⟨b2, o2, none⟩ = some v4 ∧ a1 < w'.heap.size ∧ a2 < w'.heap.size ∧ b1 < w'.heap.size ∧ b2 < w'.heap.size ∧ Below w0.heap.size w0 w' := by
  obtain ⟨h1, h2, h3, h4, z1, z2, z3, z4, K⟩ := h
  exact ⟨(hb.cell (p := ⟨a1, 1, none⟩) z1).trans h1, (hb.cell (p := ⟨a2, 1, none⟩) z2).trans h2, (hb.cell (p := ⟨b1, o1, none⟩) z3).trans h3, (hb.cell (p := ⟨b2, o2, none⟩) z4).trans h4, Nat.lt_of_lt_of_le z1 hb.size, Nat.lt_of_lt_of_le z2 hb.size, Nat.lt_of_lt_of_le z3 hb.size, Nat.lt_of_lt_of_le z4 hb.size, K.trans (hb.mono K.size)⟩
set_option maxHeartbeats 16000000 in
theorem left_nfa {D : Nat → Prop} {B : Nat} {w : World} {st : Int} {ss : List Nst} {q : Option Addr} {c g cap : Nat} {zs : List Nq} (hD : ∀ b, D b → b < w.heap.size) (hSV : SV D w ss (.slice q ss.length c)) (hz : zs.map (fun z : Nq => z.1) = ss) (hT : TN B zs (mkqs 3) (.slice (some ⟨g, 0, none⟩) (ss.length + 3) cap) w) (hfl : ∀ s ∈ ss, s.fr.length ≤ 1000000) (hln : ss.length ≤ 1000000) :
    Calls Try.prog 13 #[nV st (some ⟨g, 0, none⟩) ss.length cap, nV st q ss.length c] w fun e w' => e = .returned (.bool true) ∧ Below w.heap.size w w' := by
  have hzl : zs.length = ss.length := by rw [← hz]; simp
  have hcap : ss.length + 3 ≤ cap := by
    obtain ⟨g', cap', he, hc⟩ := row_own hT.2 (by rw [List.length_append, mkqs_len]; omega)
    injection he with e1 e2 e3
    rw [List.length_append, mkqs_len] at hc
    omega
  have hA := tn_sv hT hz cap
  have hgl := World.ownsRow.lt hT.2 g rfl
  have hs0 := ((Sb.start w).alloc (.cells #[.int .i64 st, .slice (some ⟨g, 0, none⟩) ss.length cap] 24)).alloc (.cells #[.int .i64 st, .slice q ss.length c] 24)
  have hs1 : (w.alloc (.cells #[.int .i64 st, .slice (some ⟨g, 0, none⟩) ss.length cap] 24)).heap.size = w.heap.size + 1 := by simp
  rw [hs1] at hs0
  have hC := samenfa_true (w := (w.alloc (.cells #[.int .i64 st, .slice (some ⟨g, 0, none⟩) ss.length cap] 24)).alloc (.cells #[.int .i64 st, .slice q ss.length c] 24)) (st := st) (D := fun b => B ≤ b ∧ b < w.heap.size) (E := D) (fun b hb => Nat.lt_of_lt_of_le hb.2 hs0.1.size) (fun b hb => Nat.lt_of_lt_of_le (hD b hb) hs0.1.size) (hA.mono (fun b h => h) (fun b h _ => hs0.1.block b h.2)) (hSV.mono (fun b h => h) (fun b h _ => hs0.1.block b (hD b h))) hfl hln
  unfold nV at hC
  have HC := Lib.hid hC
  have S0 := Lib.hid hs0
  have HSV := Lib.hid hSV
  have HFL := Lib.hid hfl
  have HD := Lib.hid hD
  have HZ := Lib.hid hz
  have HZL := Lib.hid hzl
  have HT := Lib.hid hT
  have HG := Lib.hid hgl.2
  have c1 : ¬ (cap : Int) < (ss.length : Int) + 3 := by omega
  have c2 : (ss.length : Int) + 3 ≤ (cap : Int) := by omega
  have c3 : ss.length + 3 ≤ cap := hcap
  have c4 : (0 : Int) ≤ (ss.length : Int) + 3 := by omega
  have c5 : ¬ (ss.length : Int) + 3 < 0 := by omega
  clear hSV hfl hD hs0 hs1 hC hz hzl hT hgl hcap hA
  unfold nV
  go_enter Try.func13, Try.ntmps13
  go_wp2_with fail
  refine HC.out.mono ?_
  rintro _ w1 ⟨rfl, hb1⟩
  have S1 := Lib.hid (S0.out.up hb1)
  have k0 : w1.cell? ⟨w.heap.size, 1, none⟩ = some (.slice (some ⟨g, 0, none⟩) ss.length cap) := S1.out.tl.cell 1
  have k1 : w1.cell? ⟨w.heap.size + 1, 1, none⟩ = some (.slice q ss.length c) := S1.out.cell 1
  clear hb1 HC S0
  go_wp2_with fail
  clear k0 k1
  go_loopw [6] (fun i wr => ∃ k : Nat, k ≤ 3 ∧ i = .int .i64 (k : Nat) ∧ Hid (Sb w wr [(w.heap.size + 1, (.cells #[.int .i64 st, .slice q ss.length c] 24)), (w.heap.size, (.cells #[.int .i64 st, .slice (some ⟨g, 0, none⟩) ss.length cap] 24))])) (fun i _ => 3 - (intOf i).toNat)
  case atStart => exact ⟨0, by omega, rfl, S1⟩
  case round =>
  clear S1
  obtain ⟨k, hk, rfl, HS⟩ := hrel
  obtain ⟨wo, rfl⟩ : ∃ wo : World, wo = wr := ⟨_, rfl⟩
  have k1 : wo.cell? ⟨w.heap.size + 1, 1, none⟩ = some (.slice q ss.length c) := HS.out.cell 1
  by_cases hk3 : k < 3
  · have hk3I : (k : Int) < 3 := by omega
    have cm : wo.cell? ⟨g, (ss.length + k) * 7 + 4, none⟩ = some (.int .i64 (-7000 - (k : Int))) := (cell_same (HS.out.1.block g HG.out) _).trans (by have := tn_mark HT.out k hk3; rwa [HZL.out] at this)
    have i1 : ¬ (ss.length : Int) + (k : Int) < 0 := by omega
    have i2 : (ss.length : Int) + (k : Int) < (ss.length : Int) + 3 := by omega
    go_wp2_with fail
    go_roundw
    case rel => exact ⟨k + 1, by omega, by go_num, HS⟩
    case measure => simp [intOf]; omega
  · obtain rfl : k = 3 := by omega
    rw [show ((3 : Nat) : Int) = 3 from rfl]
    clear k1
    go_wp2_with fail
    go_loopw [7] (fun i wr => ∃ j : Nat, j ≤ ss.length ∧ i = .int .i64 (j : Nat) ∧ Hid (Sb w wr [(w.heap.size + 1, (.cells #[.int .i64 st, .slice q ss.length c] 24)), (w.heap.size, (.cells #[.int .i64 st, .slice (some ⟨g, 0, none⟩) ss.length cap] 24))])) (fun i _ => ss.length - (intOf i).toNat)
    case atStart => exact ⟨0, by omega, rfl, HS⟩
    case round =>
    clear HS
    obtain ⟨j, hj, rfl, HS⟩ := hrel
    obtain ⟨wv, rfl⟩ : ∃ wv : World, wv = wr := ⟨_, rfl⟩
    have k0 : wv.cell? ⟨w.heap.size, 1, none⟩ = some (.slice (some ⟨g, 0, none⟩) ss.length cap) := HS.out.tl.cell 1
    have k1 : wv.cell? ⟨w.heap.size + 1, 1, none⟩ = some (.slice q ss.length c) := HS.out.cell 1
    by_cases hlt : j < ss.length
    · have hjz : j < zs.length := by have := HZL.out; omega
      obtain ⟨q', c', he, hSV⟩ := HSV.out
      cases he
      obtain ⟨bb, o, rfl, hDb, hx⟩ := hSV (by intro e; subst e; simp at hlt)
      obtain ⟨qf, f, hiv, hcell⟩ := hx j hlt
      have hbw := HD.out bb hDb
      have hfl := HFL.out ss[j] (List.getElem_mem hlt)
      have hzj : zs[j].1 = ss[j] := by have := HZ.out; subst this; simp
      have hti := tn_ti (HT.out.up (HS.out.1)) j hjz
      have hcz := (cell_same (HS.out.1.block g HG.out) (j * 7 + 5)).trans (tn_cells HT.out j (by simp; omega) 5 (.slice zs[j].2.1 zs[j].1.fr.length zs[j].2.2) (by rw [List.getElem_append_left hjz]; rfl))
      have hcs := (cell_same (HS.out.1.block bb hbw) _).trans (hcell 5 (.slice qf (ss[j]).fr.length f) rfl)
      obtain ⟨pz, fz, hq⟩ : ∃ pz fz, zs[j].2 = (pz, fz) := ⟨_, _, rfl⟩
      rw [hzj, hq] at hti hcz
      generalize ss[j] = s at *
      obtain ⟨u, tg, fr, rl⟩ := s
      simp only at hti hcz hcs hiv hfl
      obtain ⟨frl, hfrl⟩ : ∃ frl, fr.length = frl := ⟨_, rfl⟩
      rw [hfrl] at hti hcz hcs hiv
      have HTI := Lib.hid hti
      have HIV : Hid (IV D w fr (.slice qf frl f)) := Lib.hid hiv
      have HFN := Lib.hid hfl
      have HFRL := Lib.hid hfrl
      have HCALL : Hid (∀ z : World, Below w.heap.size w z → Below wv.heap.size wv z → Calls Try.prog 29 #[.slice pz frl fz, .slice qf frl f] z fun e w' => e = .returned (.bool true) ∧ Below z.heap.size z w') := Lib.hid fun z hz1 hz2 => by
        have h1 : TI B z fr (.slice pz frl fz) := by
          obtain ⟨g', cp, e, h⟩ := HTI.out
          exact ⟨g', cp, e, World.ownsRow.kept (row := none) h ⟨hz2.os, hz2.tape, hz2.output, hz2.size, fun k hk _ => hz2.block k hk⟩ (.inr (by simp [Value.ownBlock]))⟩
        have h2 := left_ints (E := D) (pb := qf) (cb := f) (v := .slice pz frl fz) HFN.out (fun b hb => Nat.lt_of_lt_of_le (HD.out b hb) hz1.size) h1 (by rw [HFRL.out]; exact HIV.out.mono (fun b h => h) (fun b h _ => hz1.block b (HD.out b h)))
        rw [HFRL.out] at h2
        exact h2
      have z1 : w.heap.size < wv.heap.size := HS.out.tl.lt
      have z2 : w.heap.size + 1 < wv.heap.size := HS.out.lt
      have z3 : g < wv.heap.size := Nat.lt_of_lt_of_le HG.out HS.out.1.size
      have z4 : bb < wv.heap.size := Nat.lt_of_lt_of_le hbw HS.out.1.size
      have HB := Lib.hid HS.out.1
      have hltI : (j : Int) < (ss.length : Int) := by omega
      have hjI : ¬ (j : Int) < 0 := by omega
      clear hx hSV hcell hiv hfl hti hfrl hq hzj hDb
      go_wp2_with fail
      have hX : ∀ w', Below wv.drew.heap.size wv.drew w' → w'.cell? ⟨w.heap.size, 1, none⟩ = some (.slice (some ⟨g, 0, none⟩) ss.length cap) ∧ w'.cell? ⟨w.heap.size + 1, 1, none⟩ = some (.slice (some ⟨bb, o, none⟩) ss.length c) ∧ w'.cell? ⟨g, j * 7 + 5, none⟩ = some (.slice pz frl fz) ∧ w'.cell? ⟨bb, o + j * 7 + 5, none⟩ = some (.slice qf frl f) ∧ w.heap.size < w'.heap.size ∧ w.heap.size + 1 < w'.heap.size ∧ g < w'.heap.size ∧ bb < w'.heap.size ∧ Below wv.heap.size wv w' := fun w' hb => keepL (w := wv.drew) ⟨k0, k1, hcz, hcs, z1, z2, z3, z4, (Below.refl wv.heap.size wv).drew⟩ hb
      go_region_held3 (fun w' => w'.cell? ⟨w.heap.size, 1, none⟩ = some (.slice (some ⟨g, 0, none⟩) ss.length cap) ∧ w'.cell? ⟨w.heap.size + 1, 1, none⟩ = some (.slice (some ⟨bb, o, none⟩) ss.length c) ∧ w'.cell? ⟨g, j * 7 + 5, none⟩ = some (.slice pz frl fz) ∧ w'.cell? ⟨bb, o + j * 7 + 5, none⟩ = some (.slice qf frl f) ∧ w.heap.size < w'.heap.size ∧ w.heap.size + 1 < w'.heap.size ∧ g < w'.heap.size ∧ bb < w'.heap.size ∧ Below wv.heap.size wv w')
        (first | assumption | exact ⟨k0, k1, hcz, hcs, z1, z2, z3, z4, (Below.refl wv.heap.size wv).drew⟩ | exact hX _ hb)
        (first | (go_at_call 29; refine (HCALL.out _ HB.out.drew (Below.refl wv.heap.size wv).drew).mono ?_; rintro _ w' ⟨rfl, hb⟩))
      have HS2 := Lib.hid (HS.out.up (((Below.refl wv.heap.size wv).drew).trans hb))
      clear hb hX hcz hcs HS k0 k1 HCALL
      go_wp2_with fail
      go_roundw
      case rel => exact ⟨j + 1, by omega, by go_num, HS2⟩
      case measure => simp [intOf]; omega
    · obtain rfl : j = ss.length := by omega
      go_wp2_with fail
      go_ret
      exact ⟨rfl, HS.out.1⟩
end Go.Proofs.Ytnhfeakndofokaa
end
section
/- Package nfa. -/
namespace Go.Proofs.Ytnhfeakndofokaa
set_option linter.unusedSimpArgs false
set_option linter.unusedVariables false
set_option maxRecDepth 100000
open Go.RowKit
/- end; free; what is laid of a set. -/
theorem bend (r : Int) : Try.prog.built 49 [(1, .int .i64 (-1)), (3, .int .i64 r)] = some (stC uZ (-1) (.slice none 0 0) r) := by kernel_rfl
theorem wpList_bend {ops : Array Oper} {rest : List Oper} {o : Oper} {a : Act} {w : World} {Q : Exit → Act → World → Prop} {x y : Operand} {r : Int} (hg : o.guard = none) (ho : o.op = .build 49 #[(1, x), (3, y)]) (hx : a.eval x = .int .i64 (-1)) (hy : a.eval y = .int .i64 r)
    (h : wpList Try.prog ops Q rest (a.put o.dst (.agg (stC uZ (-1) (.slice none 0 0) r))) w) : wpList Try.prog ops Q (o :: rest) a w := by
  refine wpList_build hg 49 _ ho ?_ ?_
  · simp [hx, hy, bend]
  · simp [hx, hy, bend]; exact h
theorem bfree (p : Option Addr) (n c : Nat) : Try.prog.built 49 [(1, .int .i64 (-1)), (2, .slice p n c), (3, .int .i64 (-1))] = some (stC uZ (-1) (.slice p n c) (-1)) := by kernel_rfl
theorem wpList_bfree {ops : Array Oper} {rest : List Oper} {o : Oper} {a : Act} {w : World} {Q : Exit → Act → World → Prop} {x y z : Operand} {p : Option Addr} {n c : Nat} (hg : o.guard = none) (ho : o.op = .build 49 #[(1, x), (2, y), (3, z)]) (hx : a.eval x = .int .i64 (-1)) (hy : a.eval y = .slice p n c) (hz : a.eval z = .int .i64 (-1))
    (h : wpList Try.prog ops Q rest (a.put o.dst (.agg (stC uZ (-1) (.slice p n c) (-1)))) w) : wpList Try.prog ops Q (o :: rest) a w := by
  refine wpList_build hg 49 _ ho ?_ ?_
  · simp [hx, hy, hz, bfree]
  · simp [hx, hy, hz, bfree]; exact h
theorem bset (u : Nat → Int) (t : Int) : Try.prog.built 49 [(0, uV u), (1, .int .i64 t), (3, .int .i64 (-1))] = some (stC u t (.slice none 0 0) (-1)) := by kernel_rfl
theorem wpList_bset {ops : Array Oper} {rest : List Oper} {o : Oper} {a : Act} {w : World} {Q : Exit → Act → World → Prop} {x y z : Operand} {u : Nat → Int} {t : Int} (hg : o.guard = none) (ho : o.op = .build 49 #[(0, x), (1, y), (3, z)]) (hx : a.eval x = uV u) (hy : a.eval y = .int .i64 t) (hz : a.eval z = .int .i64 (-1))
    (h : wpList Try.prog ops Q rest (a.put o.dst (.agg (stC u t (.slice none 0 0) (-1)))) w) : wpList Try.prog ops Q (o :: rest) a w := by
  refine wpList_build hg 49 _ ho ?_ ?_
  · simp [hx, hy, hz, bset]
  · simp [hx, hy, hz, bset]; exact h
set_option maxHeartbeats 4000000 in
theorem end_any {B : Nat} {P : Nat → Prop} {w0 y : World} {bb : Nat} {ss : List Nq} {sl : Value} {r : Int} (h : BB B P w0 y bb ss sl) (hlen : ss.length ≤ 1000000000) :
    Calls Try.prog 35 #[.pointer (some ⟨bb, 0, none⟩), .int .i64 r] y fun e y' => e = .returned (.int .i64 (ss.length : Nat)) ∧ (∃ sl', BB B P w0 y' bb (ss ++ [(⟨uZ, -1, [], r⟩, none, 0)]) sl') ∧ ∀ b, P b → y'.heap[b]? = y.heap[b]? := by
  have HC := Lib.hid (add_any (u := uZ) (tg := -1) (rl := r) (fr := []) (q := none) (f := 0) h hlen (IVf.nil _ _ _ _))
  rw [List.length_nil] at HC
  clear h
  go_enter Try.func35, Try.ntmps35
  go_wp2_with (refine wpList_bend (r := r) rfl rfl rfl rfl ?_)
  refine HC.out.mono ?_
  rintro _ y1 ⟨rfl, h1, h2⟩
  have H1 := Lib.hid h1
  have H2 := Lib.hid h2
  clear h1 h2 HC
  go_wp2_with fail
  go_ret
  exact ⟨rfl, H1.out, H2.out⟩
set_option maxHeartbeats 4000000 in
theorem free_any {B : Nat} {P : Nat → Prop} {w0 y : World} {bb : Nat} {ss : List Nq} {sl : Value} {fr : List Int} {q : Option Addr} {f : Nat} (h : BB B P w0 y bb ss sl) (hlen : ss.length ≤ 1000000000) (hfr : IVf (fun b => B ≤ b ∧ b < y.heap.size ∧ some b ≠ sl.ownBlock ∧ b ≠ bb ∧ ¬ P b) y fr (.slice q fr.length f)) :
    Calls Try.prog 36 #[.pointer (some ⟨bb, 0, none⟩), .slice q fr.length f] y fun e y' => e = .returned (.int .i64 (ss.length : Nat)) ∧ (∃ sl', BB B P w0 y' bb (ss ++ [(⟨uZ, -1, fr, -1⟩, q, f)]) sl') ∧ ∀ b, P b → y'.heap[b]? = y.heap[b]? := by
  have HC := Lib.hid (add_any (u := uZ) (tg := -1) (rl := -1) h hlen hfr)
  clear h hfr
  go_enter Try.func36, Try.ntmps36
  go_wp2_with (refine wpList_bfree (p := q) (n := fr.length) (c := f) rfl rfl rfl rfl rfl ?_)
  refine HC.out.mono ?_
  rintro _ y1 ⟨rfl, h1, h2⟩
  have H1 := Lib.hid h1
  have H2 := Lib.hid h2
  clear h1 h2 HC
  go_wp2_with fail
  go_ret
  exact ⟨rfl, H1.out, H2.out⟩
/-- A pattern's cells. -/
def nodeC (k : Int) (u : Nat → Int) (sl : Value) : Array Value := #[.int .i64 k, .int .u64 (u 0), .int .u64 (u 1), .int .u64 (u 2), .int .u64 (u 3), sl]
set_option maxHeartbeats 4000000 in
theorem lay_set {B : Nat} {P : Nat → Prop} {w0 y : World} {bb : Nat} {ss : List Nq} {sl : Value} {u : Nat → Int} {t : Int} {p : Option Addr} {n c : Nat} (h : BB B P w0 y bb ss sl) (hlen : ss.length ≤ 1000000000) :
    Calls Try.prog 34 #[.pointer (some ⟨bb, 0, none⟩), .agg (nodeC 2 u (.slice p n c)), .int .i64 t] y fun e y' => e = .returned (.int .i64 (ss.length : Nat)) ∧ (∃ sl', BB B P w0 y' bb (ss ++ [(⟨u, t, [], -1⟩, none, 0)]) sl') ∧ ∀ b, P b → y'.heap[b]? = y.heap[b]? := by
  have hb0 := (((Below.refl y.heap.size y).alloc (Nat.le_refl _) (.cells #[.pointer (some ⟨bb, 0, none⟩)] 82)).alloc (by simp) (.cells (nodeC 2 u (.slice p n c)) 56)).alloc (by simp; omega) (.cells #[.int .i64 t] 3)
  have HC := Lib.hid (add_any (u := u) (tg := t) (rl := -1) (fr := []) (q := none) (f := 0) (h.up hb0) hlen (IVf.nil _ _ _ _))
  rw [List.length_nil] at HC
  have HK := Lib.hid fun b (hp : P b) => hb0.block b (h.pr b hp).1
  clear h hb0
  unfold nodeC at *
  go_enter Try.func34, Try.ntmps34
  go_wp2_with (refine wpList_bset (u := u) (t := t) rfl rfl rfl rfl rfl ?_)
  refine HC.out.mono ?_
  rintro _ y1 ⟨rfl, h1, h2⟩
  have H1 := Lib.hid h1
  have H2 := Lib.hid h2
  clear h1 h2 HC
  go_wp2_with fail
  go_ret
  exact ⟨rfl, H1.out, fun b hp => (H2.out b hp).trans (HK.out b hp)⟩
end Go.Proofs.Ytnhfeakndofokaa
end
