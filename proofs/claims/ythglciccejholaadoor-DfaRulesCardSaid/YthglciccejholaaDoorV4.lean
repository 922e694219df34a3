/- Texts of package regs, one behind the other. -/
import Derived.Test.YthglciccejholaaDoorProg
import Derived.Test.YthglciccejholaaDoorV2
import Derived.WalkKit
import Derived.WalkLawsBesides
import Derived.WalkSpells
import Derived.Outline
import Derived.Lib.Walk
import Derived.Lib.Hide
import Derived.Lib.Slices
import Derived.Lib.Strings
import Derived.RegionTactic
import Derived.LoopTactic
import Derived.Below
import Derived.IntWalk
import Derived.Deep.QuietTactic
import Derived.BigQuiet
import Derived.Deep.MidRow
import Derived.Maps.AppendAt
import Derived.Laws.Rows
import Derived.Laws.Tables
import Derived.Deep.WholeRow
import Derived.Deep.Cut
import Derived.Deep.CutRange
import Derived.Lib.SliceRun
section
/- Package nfa. -/
namespace Go.Proofs.YthglciccejholaaDoor
set_option linter.unusedSimpArgs false
set_option linter.unusedVariables false
set_option maxRecDepth 100000
open Go.RowKit
/- goBy. -/
theorem FG.up {B : Nat} {w0 y z : World} {F A n : Nat} {stp : Value} {la l : List Nat} {g cap : Nat} {cs : Array Value} (h : FG B w0 y F A stp n la l g cap cs) (hb : Below y.heap.size y z) : FG B w0 z F A stp n la l g cap cs :=
  ⟨h.bel.trans (hb.mono h.sz), (hb.block F (Array.getElem?_eq_some_iff.1 h.f).1).trans h.f, (hb.block A (Array.getElem?_eq_some_iff.1 h.a).1).trans h.a, (hb.block g (Array.getElem?_eq_some_iff.1 h.r).1).trans h.r, h.ln, h.max, h.new, h.hF, h.hA, h.hg, h.fa, h.fg, h.ag, Nat.le_trans h.sz hb.size⟩
end Go.Proofs.YthglciccejholaaDoor
end
section
/- Package nfa. -/
namespace Go.Proofs.YthglciccejholaaDoor
set_option linter.unusedSimpArgs false
set_option linter.unusedVariables false
set_option maxRecDepth 100000
open Go.RowKit
/- rules. -/
end Go.Proofs.YthglciccejholaaDoor
end
section
/- Package nfa. -/
namespace Go.Proofs.YthglciccejholaaDoor
set_option linter.unusedSimpArgs false
set_option linter.unusedVariables false
set_option maxRecDepth 100000
open Go.RowKit
/- Check. -/
def nV (st : Int) (q : Option Addr) (n c : Nat) : Value := .agg #[.int .i64 st, .slice q n c]
theorem info49 : (Tryd.prog.info? 73).map (fun i => (i.zero, i.size)) = some (some (.agg #[.int .u64 0, .int .u64 0, .int .u64 0, .int .u64 0, .int .i64 0, .slice none 0 0, .int .i64 0]), 7) := by kernel_rfl
theorem zero49 (w : World) : (zeroValue 73).run Tryd.prog w = .ok (.agg #[.int .u64 0, .int .u64 0, .int .u64 0, .int .u64 0, .int .i64 0, .slice none 0 0, .int .i64 0]) w := (zero_of_info info49).1 w
theorem vint6 {k : IntKind} {a b : Int} (h : a = b) : Value.int k a = .int k b := by rw [h]
theorem vbool6 {a b : Bool} (h : a = b) : Ending.returned (.bool a) = .returned (.bool b) := by rw [h]
set_option maxHeartbeats 4000000 in
theorem isState_any (a b : Int) (w : World) : Calls Tryd.prog 106 #[.int .i64 a, .int .i64 b] w fun e w' => e = .returned (.bool (decide (0 ≤ a) && decide (a < b))) ∧ w' = w := by
  go_enter Tryd.func106, Tryd.ntmps106
  by_cases h0 : 0 ≤ a
  · by_cases h1 : a < b
    · go_wp2
      go_ret
      exact ⟨by simp [h0, h1], rfl⟩
    · go_wp2
      go_ret
      exact ⟨by simp [h0, h1], rfl⟩
  · go_wp2
    go_ret
    exact ⟨by simp [h0]; omega, rfl⟩
set_option maxHeartbeats 8000000 in
theorem tooMany_any {D : Nat → Prop} {w : World} {st : Int} {ss : List Nst} {q : Option Addr} {c : Nat} (hD : ∀ b, D b → b < w.heap.size) (hSV : SV D w ss (.slice q ss.length c)) (hfl : ∀ s ∈ ss, s.fr.length ≤ 9223372036854775806) (hln : ss.length ≤ 9223372036854775806) :
    Calls Tryd.prog 72 #[nV st q ss.length c] w fun e w' => e = .returned (.bool (tooM ss)) ∧ Below w.heap.size w w' := by
  have HSV := Lib.hid hSV
  have HFL := Lib.hid hfl
  have HD := Lib.hid hD
  have hz := zero49
  have S0 := Lib.hid ((Sb.start w).alloc (.cells #[.int .i64 st, .slice q ss.length c] 33))
  clear hSV hfl hD
  unfold nV
  by_cases hbig : 4096 < ss.length
  · have hb : (4096 : Int) < (ss.length : Int) := by omega
    have ht : tooM ss = true := by unfold tooM; simp [hbig]
    rw [ht]
    clear ht
    go_enter Tryd.func72, Tryd.ntmps72
    go_wp2_with fail
    go_ret
    exact ⟨rfl, S0.out.1⟩
  · have hb : ¬ (4096 : Int) < (ss.length : Int) := by omega
    have ht : tooM ss = decide (16384 < frees ss) := by unfold tooM; simp [hbig]
    rw [ht]
    clear ht
    go_enter Tryd.func72, Tryd.ntmps72
    go_wp2_with fail
    go_loopw [3, 13] (fun a i wr => ∃ j : Nat, i = .int .i64 (j : Nat) ∧ j ≤ ss.length ∧ frees (ss.take j) ≤ 16384 ∧ a = .int .i64 ((16384 : Int) - (frees (ss.take j) : Nat)) ∧ Hid (Sb w wr [(w.heap.size, .cells #[.int .i64 st, .slice q ss.length c] 33)])) (fun _ i _ => ss.length - (intOf i).toNat)
    case atStart => exact ⟨0, rfl, by omega, by simp [frees], by simp [frees], S0⟩
    case round =>
    clear S0
    obtain ⟨j, rfl, hj, hfr, rfl, HS⟩ := hrel
    obtain ⟨wo, rfl⟩ : ∃ wo : World, wo = wr := ⟨_, rfl⟩
    by_cases hlt : j < ss.length
    · skip
      obtain ⟨q', c', he, hSV⟩ := HSV.out
      cases he
      obtain ⟨bb, o, rfl, hDb, hx⟩ := hSV (by intro e; subst e; simp at hlt)
      obtain ⟨qf, f, hiv, hcell⟩ := hx j hlt
      have hbw := HD.out bb hDb
      have ce : ∀ i y, (stC (ss[j]).u (ss[j]).to (.slice qf (ss[j]).fr.length f) (ss[j]).rl)[i]? = some y → wo.cell? ⟨bb, o + j * 7 + i, none⟩ = some y := fun i y hy => (cell_same (HS.out.1.block bb hbw) _).trans (hcell i y hy)
      have hf1 := frees_take ss j hlt
      have hf2 := frees_take_le ss (j + 1)
      have hfl := HFL.out ss[j] (List.getElem_mem hlt)
      obtain ⟨tg, htg⟩ : ∃ tg, (ss[j]).to = tg := ⟨_, rfl⟩
      obtain ⟨u, huu⟩ : ∃ u, (ss[j]).u = u := ⟨_, rfl⟩
      obtain ⟨rl, hrl⟩ : ∃ rl, (ss[j]).rl = rl := ⟨_, rfl⟩
      rw [htg, huu, hrl] at ce
      generalize (ss[j]).fr = fr at *
      generalize fr.length = frl at *
      generalize frees (ss.take j) = a at *
      have d0 : wo.cell? ⟨bb, o + j * 7, none⟩ = some (.int .u64 (u 0)) := ce 0 _ rfl
      have d1 : wo.cell? ⟨bb, o + j * 7 + 1, none⟩ = some (.int .u64 (u 1)) := ce 1 _ rfl
      have d2 : wo.cell? ⟨bb, o + j * 7 + 2, none⟩ = some (.int .u64 (u 2)) := ce 2 _ rfl
      have d3 : wo.cell? ⟨bb, o + j * 7 + 3, none⟩ = some (.int .u64 (u 3)) := ce 3 _ rfl
      have d4 : wo.cell? ⟨bb, o + j * 7 + 4, none⟩ = some (.int .i64 tg) := ce 4 _ rfl
      have d5 : wo.cell? ⟨bb, o + j * 7 + 5, none⟩ = some (.slice qf frl f) := ce 5 _ rfl
      have d6 : wo.cell? ⟨bb, o + j * 7 + 6, none⟩ = some (.int .i64 rl) := ce 6 _ rfl
      have hltI : (j : Int) < (ss.length : Int) := by omega
      have hjI : ¬ (j : Int) < 0 := by omega
      have HA := Lib.hid hf1
      clear hx hSV hcell hiv ce htg huu hrl hf1
      by_cases hgt : a + frl ≤ 16384
      · have hg : ¬ ((16384 : Int) - (a : Nat)) < (frl : Int) := by omega
        have HS2 := Lib.hid ((HS.out.alloc (.cells #[.int .u64 (u 0), .int .u64 (u 1), .int .u64 (u 2), .int .u64 (u 3), .int .i64 tg, .slice qf frl f, .int .i64 rl] 73)).sub (M := [(w.heap.size, .cells #[.int .i64 st, .slice (some ⟨bb, o, none⟩) ss.length c] 33)]) (by simp))
        go_wp2_with fail
        go_roundw
        case rel => exact ⟨j + 1, by go_num, by omega, by have := HA.out; omega, vint6 (by have := HA.out; omega), HS2⟩
        case measure => simp [intOf]; omega
      · have hg : ((16384 : Int) - (a : Nat)) < (frl : Int) := by omega
        have hr : decide (16384 < frees ss) = true := by simp; have := HA.out; omega
        have HR := Lib.hid hr
        have HS2 := Lib.hid ((HS.out.alloc (.cells #[.int .u64 (u 0), .int .u64 (u 1), .int .u64 (u 2), .int .u64 (u 3), .int .i64 tg, .slice qf frl f, .int .i64 rl] 73)).1)
        clear hr
        go_wp2_with fail
        go_ret
        exact ⟨vbool6 HR.out.symm, HS2.out⟩
    · obtain rfl : j = ss.length := by omega
      rw [List.take_length] at hfr
      have hltI : ¬ (ss.length : Int) < (ss.length : Int) := by omega
      have hr : decide (16384 < frees ss) = false := by simp; omega
      have HR := Lib.hid hr
      clear hr
      go_wp2_with fail
      go_ret
      exact ⟨vbool6 HR.out.symm, HS.out.1⟩
end Go.Proofs.YthglciccejholaaDoor
end
section
/- Package nfa. -/
namespace Go.Proofs.YthglciccejholaaDoor
set_option linter.unusedSimpArgs false
set_option linter.unusedVariables false
set_option maxRecDepth 100000
open Go.RowKit
/- may; Check. -/
theorem all_take {α : Type} (p : α → Bool) (l : List α) (j : Nat) (h : j < l.length) : (l.take (j + 1)).all p = ((l.take j).all p && p l[j]) := by
  rw [List.take_add_one, List.getElem?_eq_getElem h, List.all_append]; simp
theorem all_no {α : Type} {p : α → Bool} {l : List α} {j : Nat} (h : j < l.length) (hp : p l[j] = false) : l.all p = false := by
  rw [List.all_eq_false]; exact ⟨l[j], List.getElem_mem h, by simp [hp]⟩
set_option maxHeartbeats 8000000 in
theorem may_any {D : Nat → Prop} {w : World} {st : Int} {ss : List Nst} {q : Option Addr} {c : Nat} (hD : ∀ b, D b → b < w.heap.size) (hSV : SV D w ss (.slice q ss.length c)) (hfl : ∀ s ∈ ss, s.fr.length ≤ 9223372036854775806) (hln : ss.length ≤ 9223372036854775806) :
    Calls Tryd.prog 73 #[nV st q ss.length c] w fun e w' => e = .returned (.bool (mayN st ss)) ∧ Below w.heap.size w w' := by
  have HSV := Lib.hid hSV
  have HFL := Lib.hid hfl
  have HD := Lib.hid hD
  have hz := zero49
  have S0 := Lib.hid ((Sb.start w).alloc (.cells #[.int .i64 st, .slice q ss.length c] 33))
  have HI := Lib.hid isState_any
  clear hSV hfl hD
  unfold nV
  have hb0 : mayN st ss = ((decide (0 ≤ st) && decide (st < (ss.length : Nat))) && ss.all (stOk ss.length)) := rfl
  rw [hb0]
  clear hb0
  obtain ⟨o1, ho1⟩ : ∃ o1, (decide (0 ≤ st) && decide (st < (ss.length : Nat))) = o1 := ⟨_, rfl⟩
  have HO1 := Lib.hid ho1
  rw [ho1]
  clear ho1
  cases o1 with
  | false =>
    rw [Bool.false_and]
    go_enter Tryd.func73, Tryd.ntmps73
    go_wp2_with fail
    refine (HI.out _ _ _).mono ?_
    rintro _ w3 ⟨rfl, rfl⟩
    rw [HO1.out]
    go_wp2_with fail
    go_ret
    exact ⟨rfl, S0.out.1⟩
  | true =>
    rw [Bool.true_and]
    go_enter Tryd.func73, Tryd.ntmps73
    go_wp2_with fail
    refine (HI.out _ _ _).mono ?_
    rintro _ w3 ⟨rfl, rfl⟩
    rw [HO1.out]
    go_wp2_with fail
    go_loopw [19] (fun i wr => ∃ j : Nat, i = .int .i64 (j : Nat) ∧ j ≤ ss.length ∧ Hid ((ss.take j).all (stOk ss.length) = true) ∧ Hid (Sb w wr [(w.heap.size, (.cells #[.int .i64 st, .slice q ss.length c] 33))])) (fun i _ => ss.length - (intOf i).toNat)
    case atStart => exact ⟨0, rfl, by omega, Lib.hid (by simp), S0⟩
    case round =>
    clear S0 HO1
    obtain ⟨j, rfl, hj, HAL, HS⟩ := hrel
    obtain ⟨wo, rfl⟩ : ∃ wo : World, wo = wr := ⟨_, rfl⟩
    by_cases hlt : j < ss.length
    · skip
      obtain ⟨q', c', he, hSV⟩ := HSV.out
      cases he
      obtain ⟨bb, o, rfl, hDb, hx⟩ := hSV (by intro e; subst e; simp at hlt)
      obtain ⟨qf, f, hiv, hcell⟩ := hx j hlt
      have hbw := HD.out bb hDb
      have ce : ∀ i y, (stC (ss[j]).u (ss[j]).to (.slice qf (ss[j]).fr.length f) (ss[j]).rl)[i]? = some y → wo.cell? ⟨bb, o + j * 7 + i, none⟩ = some y := fun i y hy => (cell_same (HS.out.1.block bb hbw) _).trans (hcell i y hy)
      have hfl := HFL.out ss[j] (List.getElem_mem hlt)
      have hal := all_take (stOk ss.length) ss j hlt
      have hst : stOk ss.length ss[j] = (decide ((ss[j]).to < (ss.length : Nat)) && (decide ((ss[j]).rl < 48) && (ss[j]).fr.all fun x => decide (0 ≤ x) && decide (x < (ss.length : Nat)))) := rfl
      have HNO := Lib.hid fun h => all_no (p := stOk ss.length) (l := ss) hlt h
      rw [HAL.out, Bool.true_and] at hal
      obtain ⟨tg, htg⟩ : ∃ tg, (ss[j]).to = tg := ⟨_, rfl⟩
      obtain ⟨u, huu⟩ : ∃ u, (ss[j]).u = u := ⟨_, rfl⟩
      obtain ⟨rl, hrl⟩ : ∃ rl, (ss[j]).rl = rl := ⟨_, rfl⟩
      rw [htg, hrl] at hst
      rw [htg, huu, hrl] at ce
      generalize hsx : stOk ss.length ss[j] = sok at *
      clear hsx
      generalize (ss[j]).fr = fr at *
      obtain ⟨frl, hfrl⟩ : ∃ frl, fr.length = frl := ⟨_, rfl⟩
      rw [hfrl] at ce hiv hfl
      have HFRL := Lib.hid hfrl
      have HIV : Hid (IV D w fr (.slice qf frl f)) := Lib.hid hiv
      have d0 : wo.cell? ⟨bb, o + j * 7, none⟩ = some (.int .u64 (u 0)) := ce 0 _ rfl
      have d1 : wo.cell? ⟨bb, o + j * 7 + 1, none⟩ = some (.int .u64 (u 1)) := ce 1 _ rfl
      have d2 : wo.cell? ⟨bb, o + j * 7 + 2, none⟩ = some (.int .u64 (u 2)) := ce 2 _ rfl
      have d3 : wo.cell? ⟨bb, o + j * 7 + 3, none⟩ = some (.int .u64 (u 3)) := ce 3 _ rfl
      have d4 : wo.cell? ⟨bb, o + j * 7 + 4, none⟩ = some (.int .i64 tg) := ce 4 _ rfl
      have d5 : wo.cell? ⟨bb, o + j * 7 + 5, none⟩ = some (.slice qf frl f) := ce 5 _ rfl
      have d6 : wo.cell? ⟨bb, o + j * 7 + 6, none⟩ = some (.int .i64 rl) := ce 6 _ rfl
      have hltI : (j : Int) < (ss.length : Int) := by omega
      have hjI : ¬ (j : Int) < 0 := by omega
      have HAL2 := Lib.hid hal
      have HST := Lib.hid hst
      have HS2 := Lib.hid (HS.out.alloc (.cells #[.int .u64 (u 0), .int .u64 (u 1), .int .u64 (u 2), .int .u64 (u 3), .int .i64 tg, .slice qf frl f, .int .i64 rl] 73))
      clear hx hSV hcell hiv ce htg huu hrl hal hst hfrl HS HAL
      by_cases hto : tg < (ss.length : Int)
      · have hto' : ¬ (ss.length : Int) ≤ tg := by omega
        by_cases hrl : rl < 48
        · have hrl' : ¬ (48 : Int) ≤ rl := by omega
          go_wp2_with fail
          go_upto_region 10 with fail
          refine at_world (fun z => Sb w z [(wo.heap.size, .cells #[.int .u64 (u 0), .int .u64 (u 1), .int .u64 (u 2), .int .u64 (u 3), .int .i64 tg, .slice qf frl f, .int .i64 rl] 73), (w.heap.size, (.cells #[.int .i64 st, .slice (some ⟨bb, o, none⟩) ss.length c] 33))]) HS2.out fun z hz9 => ?_
          have HS3 := Lib.hid hz9
          clear hz9 HS2 d0 d1 d2 d3 d4 d5 d6
          go_loopw [35] (fun i wr => ∃ k : Nat, i = .int .i64 (k : Nat) ∧ k ≤ frl ∧ Hid ((fr.take k).all (fun x => decide (0 ≤ x) && decide (x < (ss.length : Nat))) = true) ∧ Hid (Sb w wr [(wo.heap.size, .cells #[.int .u64 (u 0), .int .u64 (u 1), .int .u64 (u 2), .int .u64 (u 3), .int .i64 tg, .slice qf frl f, .int .i64 rl] 73), (w.heap.size, (.cells #[.int .i64 st, .slice (some ⟨bb, o, none⟩) ss.length c] 33))])) (fun i _ => frl - (intOf i).toNat)
          case atStart => exact ⟨0, rfl, by omega, Lib.hid (by simp), HS3⟩
          case round =>
          clear HS3
          obtain ⟨k, rfl, hk, HK, HS⟩ := hrel
          obtain ⟨wk, rfl⟩ : ∃ wk : World, wk = wr := ⟨_, rfl⟩
          by_cases hkl : k < frl
          · have hkl' : k < fr.length := by rw [HFRL.out]; exact hkl
            obtain ⟨p', c', he, hh⟩ := HIV.out
            injection he with e1 e2 e3
            subst e1 e3
            clear e2
            obtain ⟨bf, of, rfl, hbf, hcf⟩ := hh (by intro e; rw [e] at hkl'; simp at hkl')
            have hbw2 := HD.out bf hbf
            have hak := all_take (fun x => decide (0 ≤ x) && decide (x < ((ss.length : Nat) : Int))) fr k hkl'
            rw [HK.out, Bool.true_and] at hak
            have cx : wk.cell? ⟨bf, of + k, none⟩ = some (.int .i64 fr[k]) := (cell_same (HS.out.1.block bf hbw2) _).trans (hcf k hkl')
            have hnok := fun h => all_no (p := fun x => decide (0 ≤ x) && decide (x < ((ss.length : Nat) : Int))) (l := fr) hkl' h
            generalize fr[k] = x at *
            obtain ⟨ox, hox⟩ : ∃ ox, (decide (0 ≤ x) && decide (x < ((ss.length : Nat) : Int))) = ox := ⟨_, rfl⟩
            rw [hox] at hak hnok
            have HOX := Lib.hid hox
            have HAK := Lib.hid hak
            have HNOK := Lib.hid hnok
            have hkI : ¬ (k : Int) < 0 := by omega
            have hklI : (k : Int) < (frl : Int) := by omega
            clear hh hcf hak hnok hox
            go_wp2_with fail
            refine (HI.out _ _ _).mono ?_
            rintro _ w5 ⟨rfl, rfl⟩
            rw [HOX.out]
            cases ox with
            | true =>
              go_wp2_with fail
              go_roundw
              case rel => exact ⟨k + 1, by go_num, by omega, HAK, HS⟩
              case measure => simp [intOf]; omega
            | false =>
              have HRES : Hid (ss.all (stOk ss.length) = false) := Lib.hid (HNO.out (by rw [HST.out, HNOK.out rfl]; simp))
              go_wp2_with fail
              go_ret
              exact ⟨vbool6 HRES.out.symm, HS.out.1⟩
          · obtain rfl : k = frl := by omega
            have hall : fr.all (fun x => decide (0 ≤ x) && decide (x < ((ss.length : Nat) : Int))) = true := by
              have := HK.out
              rwa [← HFRL.out, List.take_length] at this
            have hsok : sok = true := by rw [HST.out, hall]; simp [hto, hrl]
            have HAL3 : Hid ((ss.take (j + 1)).all (stOk ss.length) = true) := Lib.hid (by rw [HAL2.out, hsok])
            have hklI : ¬ (k : Int) < (k : Int) := by omega
            have HS4 := Lib.hid HS.out.tl
            clear hall hsok HK HAL2 HST HNO HS
            go_wp2_with fail
            go_roundw
            case rel => exact ⟨j + 1, by go_num, by omega, HAL3, HS4⟩
            case measure => simp [intOf]; omega
        · have hrl' : (48 : Int) ≤ rl := by omega
          have HRES : Hid (ss.all (stOk ss.length) = false) := Lib.hid (HNO.out (by rw [HST.out]; simp [hrl]))
          go_wp2_with fail
          go_ret
          exact ⟨vbool6 HRES.out.symm, HS2.out.1⟩
      · have hto' : (ss.length : Int) ≤ tg := by omega
        have HRES : Hid (ss.all (stOk ss.length) = false) := Lib.hid (HNO.out (by rw [HST.out]; simp [hto]))
        go_wp2_with fail
        go_ret
        exact ⟨vbool6 HRES.out.symm, HS2.out.1⟩
    · obtain rfl : j = ss.length := by omega
      have hall := HAL.out
      rw [List.take_length] at hall
      have HRES := Lib.hid hall
      have hltI : ¬ (ss.length : Int) < (ss.length : Int) := by omega
      clear hall HAL
      go_wp2_with fail
      go_ret
      exact ⟨vbool6 HRES.out.symm, HS.out.1⟩
set_option maxHeartbeats 8000000 in
theorem check_any {D : Nat → Prop} {w : World} {st : Int} {ss : List Nst} {q : Option Addr} {c : Nat} (hD : ∀ b, D b → b < w.heap.size) (hSV : SV D w ss (.slice q ss.length c)) (hfl : ∀ s ∈ ss, s.fr.length ≤ 9223372036854775806) (hln : ss.length ≤ 9223372036854775806) :
    Calls Tryd.prog 36 #[nV st q ss.length c] w fun e w' => e = .returned (.int .i64 (chkN st ss)) ∧ Below w.heap.size w w' := by
  have S0 := Lib.hid ((Sb.start w).alloc (.cells #[.int .i64 st, .slice q ss.length c] 33))
  have HT := Lib.hid fun z (hb : Below w.heap.size w z) => tooMany_any (w := z) (st := st) (fun b h => Nat.lt_of_lt_of_le (hD b h) hb.size) (hSV.mono (fun b h => h) (fun b h _ => hb.block b (hD b h))) hfl hln
  have HM := Lib.hid fun z (hb : Below w.heap.size w z) => may_any (w := z) (st := st) (fun b h => Nat.lt_of_lt_of_le (hD b h) hb.size) (hSV.mono (fun b h => h) (fun b h _ => hb.block b (hD b h))) hfl hln
  unfold nV at HT HM
  unfold nV chkN
  generalize tooM ss = a at *
  generalize mayN st ss = b at *
  clear hSV hD hfl
  go_enter Tryd.func36, Tryd.ntmps36
  go_wp2_with fail
  refine (HT.out _ S0.out.1).mono ?_
  rintro _ w3 ⟨rfl, hb3⟩
  have S3 := Lib.hid (S0.out.up hb3)
  clear hb3 S0
  have c0 : w3.cell? ⟨w.heap.size, 0, none⟩ = some (.int .i64 st) := S3.out.cell 0
  have c1 : w3.cell? ⟨w.heap.size, 1, none⟩ = some (.slice q ss.length c) := S3.out.cell 1
  cases a
  · go_wp2_with fail
    refine (HM.out _ S3.out.1).mono ?_
    rintro _ w4 ⟨rfl, hb4⟩
    have S4 := Lib.hid (S3.out.up hb4)
    clear hb4 S3
    cases b
    · go_wp2_with fail
      go_ret
      exact ⟨rfl, S4.out.1⟩
    · go_wp2_with fail
      go_ret
      exact ⟨rfl, S4.out.1⟩
  · go_wp2_with fail
    go_ret
    exact ⟨rfl, S3.out.1⟩
end Go.Proofs.YthglciccejholaaDoor
end
