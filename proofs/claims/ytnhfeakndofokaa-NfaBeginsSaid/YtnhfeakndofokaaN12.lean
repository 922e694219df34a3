/- Package nfa. -/
import Derived.Test.YtnhfeakndofokaaProg
import Derived.Test.YtnhfeakndofokaaN11
import Derived.WalkKit
import Derived.WalkLawsBesides
import Derived.WalkSpells
import Derived.Outline
import Derived.Lib.Walk
import Derived.Lib.Hide
import Derived.Lib.Slices
import Derived.Lib.Strings
import Derived.RegionTactic
import Derived.LoopTactic
import Derived.Below
import Derived.IntWalk
import Derived.Deep.QuietTactic
import Derived.BigQuiet
import Derived.Deep.MidRow
import Derived.Maps.AppendAt
import Derived.Laws.Rows
import Derived.Laws.Tables
import Derived.Deep.WholeRow
import Derived.Deep.Cut
import Derived.Deep.CutRange
import Derived.Lib.SliceRun
namespace Go.Proofs.Ytnhfeakndofokaa
set_option linter.unusedSimpArgs false
set_option linter.unusedVariables false
set_option maxRecDepth 100000
open Go.RowKit
/- Check. -/
def nV (st : Int) (q : Option Addr) (n c : Nat) : Value := .agg #[.int .i64 st, .slice q n c]
theorem info49 : (Try.prog.info? 49).map (fun i => (i.zero, i.size)) = some (some (.agg #[.int .u64 0, .int .u64 0, .int .u64 0, .int .u64 0, .int .i64 0, .slice none 0 0, .int .i64 0]), 7) := by kernel_rfl
theorem zero49 (w : World) : (zeroValue 49).run Try.prog w = .ok (.agg #[.int .u64 0, .int .u64 0, .int .u64 0, .int .u64 0, .int .i64 0, .slice none 0 0, .int .i64 0]) w := (zero_of_info info49).1 w
theorem vint6 {k : IntKind} {a b : Int} (h : a = b) : Value.int k a = .int k b := by rw [h]
theorem vbool6 {a b : Bool} (h : a = b) : Ending.returned (.bool a) = .returned (.bool b) := by rw [h]
set_option maxHeartbeats 4000000 in
theorem isState_any (a b : Int) (w : World) : Calls Try.prog 48 #[.int .i64 a, .int .i64 b] w fun e w' => e = .returned (.bool (decide (0 ≤ a) && decide (a < b))) ∧ w' = w := by
  go_enter Try.func48, Try.ntmps48
  by_cases h0 : 0 ≤ a
  · by_cases h1 : a < b
    · go_wp2
      go_ret
      exact ⟨by simp [h0, h1], rfl⟩
    · go_wp2
      go_ret
      exact ⟨by simp [h0, h1], rfl⟩
  · go_wp2
    go_ret
    exact ⟨by simp [h0]; omega, rfl⟩
set_option maxHeartbeats 8000000 in
theorem tooMany_any {D : Nat → Prop} {w : World} {st : Int} {ss : List Nst} {q : Option Addr} {c : Nat} (hD : ∀ b, D b → b < w.heap.size) (hSV : SV D w ss (.slice q ss.length c)) (hfl : ∀ s ∈ ss, s.fr.length ≤ 9223372036854775806) (hln : ss.length ≤ 9223372036854775806) :
    Calls Try.prog 25 #[nV st q ss.length c] w fun e w' => e = .returned (.bool (tooM ss)) ∧ Below w.heap.size w w' := by
  have HSV := Lib.hid hSV
  have HFL := Lib.hid hfl
  have HD := Lib.hid hD
  have hz := zero49
  have S0 := Lib.hid ((Sb.start w).alloc (.cells #[.int .i64 st, .slice q ss.length c] 24))
  clear hSV hfl hD
  unfold nV
  by_cases hbig : 4096 < ss.length
  · have hb : (4096 : Int) < (ss.length : Int) := by omega
    have ht : tooM ss = true := by unfold tooM; simp [hbig]
    rw [ht]
    clear ht
    go_enter Try.func25, Try.ntmps25
    go_wp2_with fail
    go_ret
    exact ⟨rfl, S0.out.1⟩
  · have hb : ¬ (4096 : Int) < (ss.length : Int) := by omega
    have ht : tooM ss = decide (16384 < frees ss) := by unfold tooM; simp [hbig]
    rw [ht]
    clear ht
    go_enter Try.func25, Try.ntmps25
    go_wp2_with fail
    go_loopw [3, 13] (fun a i wr => ∃ j : Nat, i = .int .i64 (j : Nat) ∧ j ≤ ss.length ∧ frees (ss.take j) ≤ 16384 ∧ a = .int .i64 ((16384 : Int) - (frees (ss.take j) : Nat)) ∧ Hid (Sb w wr [(w.heap.size, .cells #[.int .i64 st, .slice q ss.length c] 24)])) (fun _ i _ => ss.length - (intOf i).toNat)
    case atStart => exact ⟨0, rfl, by omega, by simp [frees], by simp [frees], S0⟩
    case round =>
    clear S0
    obtain ⟨j, rfl, hj, hfr, rfl, HS⟩ := hrel
    obtain ⟨wo, rfl⟩ : ∃ wo : World, wo = wr := ⟨_, rfl⟩
    by_cases hlt : j < ss.length
    · skip
      obtain ⟨q', c', he, hSV⟩ := HSV.out
      cases he
      obtain ⟨bb, o, rfl, hDb, hx⟩ := hSV (by intro e; subst e; simp at hlt)
      obtain ⟨qf, f, hiv, hcell⟩ := hx j hlt
      have hbw := HD.out bb hDb
      have ce : ∀ i y, (stC (ss[j]).u (ss[j]).to (.slice qf (ss[j]).fr.length f) (ss[j]).rl)[i]? = some y → wo.cell? ⟨bb, o + j * 7 + i, none⟩ = some y := fun i y hy => (cell_same (HS.out.1.block bb hbw) _).trans (hcell i y hy)
      have hf1 := frees_take ss j hlt
      have hf2 := frees_take_le ss (j + 1)
      have hfl := HFL.out ss[j] (List.getElem_mem hlt)
      obtain ⟨tg, htg⟩ : ∃ tg, (ss[j]).to = tg := ⟨_, rfl⟩
      obtain ⟨u, huu⟩ : ∃ u, (ss[j]).u = u := ⟨_, rfl⟩
      obtain ⟨rl, hrl⟩ : ∃ rl, (ss[j]).rl = rl := ⟨_, rfl⟩
      rw [htg, huu, hrl] at ce
      generalize (ss[j]).fr = fr at *
      generalize fr.length = frl at *
      generalize frees (ss.take j) = a at *
      have d0 : wo.cell? ⟨bb, o + j * 7, none⟩ = some (.int .u64 (u 0)) := ce 0 _ rfl
      have d1 : wo.cell? ⟨bb, o + j * 7 + 1, none⟩ = some (.int .u64 (u 1)) := ce 1 _ rfl
      have d2 : wo.cell? ⟨bb, o + j * 7 + 2, none⟩ = some (.int .u64 (u 2)) := ce 2 _ rfl
      have d3 : wo.cell? ⟨bb, o + j * 7 + 3, none⟩ = some (.int .u64 (u 3)) := ce 3 _ rfl
      have d4 : wo.cell? ⟨bb, o + j * 7 + 4, none⟩ = some (.int .i64 tg) := ce 4 _ rfl
      have d5 : wo.cell? ⟨bb, o + j * 7 + 5, none⟩ = some (.slice qf frl f) := ce 5 _ rfl
      have d6 : wo.cell? ⟨bb, o + j * 7 + 6, none⟩ = some (.int .i64 rl) := ce 6 _ rfl
      have hltI : (j : Int) < (ss.length : Int) := by omega
      have hjI : ¬ (j : Int) < 0 := by omega
      have HA := Lib.hid hf1
      clear hx hSV hcell hiv ce htg huu hrl hf1
      by_cases hgt : a + frl ≤ 16384
      · have hg : ¬ ((16384 : Int) - (a : Nat)) < (frl : Int) := by omega
        have HS2 := Lib.hid ((HS.out.alloc (.cells #[.int .u64 (u 0), .int .u64 (u 1), .int .u64 (u 2), .int .u64 (u 3), .int .i64 tg, .slice qf frl f, .int .i64 rl] 49)).sub (M := [(w.heap.size, .cells #[.int .i64 st, .slice (some ⟨bb, o, none⟩) ss.length c] 24)]) (by simp))
        go_wp2_with fail
        go_roundw
        case rel => exact ⟨j + 1, by go_num, by omega, by have := HA.out; omega, vint6 (by have := HA.out; omega), HS2⟩
        case measure => simp [intOf]; omega
      · have hg : ((16384 : Int) - (a : Nat)) < (frl : Int) := by omega
        have hr : decide (16384 < frees ss) = true := by simp; have := HA.out; omega
        have HR := Lib.hid hr
        have HS2 := Lib.hid ((HS.out.alloc (.cells #[.int .u64 (u 0), .int .u64 (u 1), .int .u64 (u 2), .int .u64 (u 3), .int .i64 tg, .slice qf frl f, .int .i64 rl] 49)).1)
        clear hr
        go_wp2_with fail
        go_ret
        exact ⟨vbool6 HR.out.symm, HS2.out⟩
    · obtain rfl : j = ss.length := by omega
      rw [List.take_length] at hfr
      have hltI : ¬ (ss.length : Int) < (ss.length : Int) := by omega
      have hr : decide (16384 < frees ss) = false := by simp; omega
      have HR := Lib.hid hr
      clear hr
      go_wp2_with fail
      go_ret
      exact ⟨vbool6 HR.out.symm, HS.out.1⟩
end Go.Proofs.Ytnhfeakndofokaa
