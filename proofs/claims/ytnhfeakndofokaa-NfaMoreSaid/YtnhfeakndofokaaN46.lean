/- Package nfa. -/
import Derived.Test.YtnhfeakndofokaaProg
import Derived.Test.YtnhfeakndofokaaN45
import Derived.WalkKit
import Derived.WalkLawsBesides
import Derived.WalkSpells
import Derived.Outline
import Derived.Lib.Walk
import Derived.Lib.Hide
import Derived.Lib.Slices
import Derived.Lib.Strings
import Derived.RegionTactic
import Derived.LoopTactic
import Derived.Below
import Derived.IntWalk
import Derived.Deep.QuietTactic
import Derived.BigQuiet
import Derived.Deep.MidRow
import Derived.Maps.AppendAt
import Derived.Laws.Rows
import Derived.Laws.Tables
import Derived.Deep.WholeRow
import Derived.Deep.Cut
import Derived.Deep.CutRange
import Derived.Lib.SliceRun
import Derived.Laws.MakeOwn
import Derived.Deep.RegionLaw
import Derived.Deep.RegionLawGrows
import Derived.Deep.RegionHeld3
import Derived.RegionCalls
import Derived.Deep.RegionWith
import Derived.Deep.Light
namespace Go.Proofs.Ytnhfeakndofokaa
set_option linter.unusedSimpArgs false
set_option linter.unusedVariables false
set_option maxRecDepth 100000
open Go.RowKit
/- The document's Rules. -/
def anyB (ss : List Nst) (f : Nat → Bool) (r : Nat) : Nat → Bool
  | 0 => false
  | j + 1 => anyB ss f r j || (f j && decide (rlOf ss j = (r : Int)))
theorem anyB_iff (ss : List Nst) (f : Nat → Bool) (r : Nat) : ∀ n, anyB ss f r n = true ↔ ∃ i, i < n ∧ f i = true ∧ rlOf ss i = (r : Int)
  | 0 => ⟨fun h => (by cases h), fun ⟨i, h, _⟩ => (by omega)⟩
  | n + 1 => by
    rw [anyB, Bool.or_eq_true, Bool.and_eq_true, decide_eq_true_eq, anyB_iff ss f r n]
    constructor
    · rintro (⟨i, h1, h2⟩ | h)
      · exact ⟨i, by omega, h2⟩
      · exact ⟨n, by omega, h⟩
    · rintro ⟨i, h1, h2⟩
      by_cases e : i = n
      · subst e; exact .inr h2
      · exact .inl ⟨i, by omega, h2⟩
theorem rules_ru {ss : List Nst} {f : Nat → Bool} {l : List Nat} (h : ∀ s, s ∈ l ↔ s < ss.length ∧ f s = true) : (ru (fun r => anyB ss f r ss.length) 48).map (fun (r : Nat) => (r : Int)) = rulesOf ss l := by
  unfold ru rulesOf
  congr 1
  refine List.filter_congr fun r _ => ?_
  rw [Bool.eq_iff_iff, anyB_iff, List.any_eq_true]
  simp only [decide_eq_true_eq]
  constructor
  · rintro ⟨i, h1, h2, h3⟩; exact ⟨i, (h i).2 ⟨h1, h2⟩, h3⟩
  · rintro ⟨i, h1, h2⟩
    have := (h i).1 h1
    exact ⟨i, this.1, this.2, h2⟩
theorem rl_eqI {a : Int} {k : Nat} : (a == (k : Int)) = decide (a = (k : Int)) := by
  rw [Bool.eq_iff_iff]; simp
set_option maxHeartbeats 16000000 in
theorem rrules_any {D E : Nat → Prop} {w : World} {st : Int} {ss : List Nst} {q : Option Addr} {c : Nat} {f : Nat → Bool} {vin : Value} (hn0 : 0 < ss.length) (hln : ss.length ≤ 4096) (hD : ∀ b, D b → b < w.heap.size) (hE : ∀ b, E b → b < w.heap.size) (hSV : SV D w ss (.slice q ss.length c)) (hV : BV E w ss.length f vin) :
    Calls Try.prog 47 #[nV st q ss.length c, vin] w fun e w' => (∃ v, e = .returned v ∧ IV (fun b => w.heap.size ≤ b ∧ b < w'.heap.size) w' ((ru (fun r => anyB ss f r ss.length) 48).map fun (r : Nat) => (r : Int)) v) ∧ Below w.heap.size w w' := by
  obtain ⟨i0, hi, hz0, hz1, hz2⟩ := info_parts info3
  obtain ⟨bi, oi, ci, rfl, hEi, hci⟩ := hV
  obtain ⟨q', c', he, hSV2⟩ := id hSV
  cases he
  obtain ⟨bb, o, rfl, hDb, hx⟩ := hSV2 (by intro e; subst e; simp at hn0)
  have hbw := hD bb hDb
  have hiw := hE bi hEi
  have HX := Lib.hid hx
  have HCI := Lib.hid hci
  have hs0 := (Sb.start w).alloc (.cells #[.int .i64 st, .slice (some ⟨bb, o, none⟩) ss.length c] 24)
  have S0 := Lib.hid hs0
  obtain ⟨A, hA⟩ : ∃ A : Nat → Bool, (fun r => anyB ss f r ss.length) = A := ⟨_, rfl⟩
  rw [hA]
  have HA : Hid (∀ r, anyB ss f r ss.length = A r) := Lib.hid fun r => congrFun hA r
  have HR0 : Hid ((w.alloc (.cells #[.int .i64 st, .slice (some ⟨bb, o, none⟩) ss.length c] 24)).ownsRow (w.heap.size + 1) 3 1 (.slice none 0 0) (ru A 0).length (ints (ru A 0))) := Lib.hid ⟨by simp [ru, ints], .inl ⟨rfl, rfl⟩⟩
  clear hs0 hSV hD hE hSV2 hx hci hDb hEi hA
  unfold nV
  go_enter Try.func47, Try.ntmps47
  go_wp2_with fail
  go_loopw [5, 6] (fun v i wr => ∃ (k : Nat), i = .int .i64 (k : Nat) ∧ k ≤ 48 ∧ Hid (wr.ownsRow (w.heap.size + 1) 3 1 v (ru A k).length (ints (ru A k))) ∧ Hid (Sb w wr [(w.heap.size, .cells #[.int .i64 st, .slice (some ⟨bb, o, none⟩) ss.length c] 24)])) (fun _ i _ => 48 - (intOf i).toNat)
  case atStart => exact ⟨0, rfl, by omega, HR0, S0⟩
  case round =>
  clear HR0 S0
  obtain ⟨k, rfl, hk, HR, HS⟩ := hrel
  obtain ⟨wo, rfl⟩ : ∃ wo : World, wo = wr := ⟨_, rfl⟩
  obtain ⟨p2, c2, rfl⟩ := row_form HR.out
  by_cases hk48 : k < 48
  · have hkI : (k : Int) < 48 := by omega
    have H0 : Hid (anyB ss f k 0 = false) := Lib.hid rfl
    go_wp2_with fail
    go_loopw [7, 8] (fun b i wr => ∃ (j : Nat) (t : Bool), i = .int .i64 (j : Nat) ∧ b = .bool t ∧ j ≤ ss.length ∧ Hid (anyB ss f k j = t) ∧ Hid (wr.ownsRow (w.heap.size + 1) 3 1 (.slice p2 (ru A k).length c2) (ru A k).length (ints (ru A k))) ∧ Hid (Sb w wr [(w.heap.size, .cells #[.int .i64 st, .slice (some ⟨bb, o, none⟩) ss.length c] 24)])) (fun _ i _ => ss.length - (intOf i).toNat)
    case atStart => exact ⟨0, false, rfl, rfl, by omega, H0, HR, HS⟩
    case round =>
    clear H0 HR HS
    obtain ⟨j, t, rfl, rfl, hj, HT, HR, HS⟩ := hrel
    obtain ⟨wv, rfl⟩ : ∃ wv : World, wv = wr := ⟨_, rfl⟩
    by_cases hlt : j < ss.length
    · have hltI : (j : Int) < (ss.length : Int) := by omega
      have hjI : ¬ (j : Int) < 0 := by omega
      have hstep : anyB ss f k (j + 1) = (anyB ss f k j || (f j && decide (rlOf ss j = (k : Int)))) := rfl
      rw [HT.out] at hstep
      have cin : wv.cell? ⟨bi, oi + j, none⟩ = some (.bool (f j)) := (cell_same (HS.out.1.block bi hiw) _).trans (HCI.out j hlt)
      obtain ⟨qf, ff, hiv, hcell⟩ := HX.out j hlt
      have kb : wv.cell? ⟨w.heap.size, 1, none⟩ = some (.slice (some ⟨bb, o, none⟩) ss.length c) := HS.out.cell 1
      have d6 : wv.cell? ⟨bb, o + j * 7 + 6, none⟩ = some (.int .i64 (ss[j]).rl) := (cell_same (HS.out.1.block bb hbw) _).trans (hcell 6 (.int .i64 (ss[j]).rl) rfl)
      have hrl : rlOf ss j = (ss[j]).rl := by unfold rlOf; rw [List.getElem?_eq_getElem hlt]
      rw [hrl] at hstep
      generalize (ss[j]).rl = rl at *
      obtain ⟨fj, hfj⟩ : ∃ fj, f j = fj := ⟨_, rfl⟩
      rw [hfj] at cin hstep
      clear hcell hiv hrl hfj
      cases t with
      | true =>
        rw [Bool.true_or] at hstep
        have HST := Lib.hid hstep
        clear hstep cin kb d6 HT
        go_wp2_with fail
        go_roundw
        case rel => exact ⟨j + 1, true, by go_num, rfl, by omega, HST, HR, HS⟩
        case measure => simp [intOf]; omega
      | false =>
        cases fj with
        | false =>
          rw [Bool.false_or, Bool.false_and] at hstep
          have HST := Lib.hid hstep
          clear hstep kb d6 HT
          go_wp2_with fail
          go_roundw
          case rel => exact ⟨j + 1, false, by go_num, rfl, by omega, HST, HR, HS⟩
          case measure => simp [intOf]; omega
        | true =>
          rw [Bool.false_or, Bool.true_and, ← rl_eqI] at hstep
          have HST := Lib.hid hstep
          clear hstep HT
          go_wp2_with fail
          go_roundw
          case rel => exact ⟨j + 1, _, by go_num, rfl, by omega, HST, HR, HS⟩
          case measure => simp [intOf]; omega
    · obtain rfl : j = ss.length := by omega
      have hltI : ¬ (ss.length : Int) < (ss.length : Int) := by omega
      have ht : A k = t := by rw [← HA.out k]; exact HT.out
      have hru := ru_succ A k
      clear HT
      cases t with
      | false =>
        rw [ht, if_neg (by simp)] at hru
        have HR2 : Hid (wv.ownsRow (w.heap.size + 1) 3 1 (.slice p2 (ru A k).length c2) (ru A (k + 1)).length (ints (ru A (k + 1)))) := Lib.hid (by rw [hru]; exact HR.out)
        clear hru ht HR
        go_wp2_with fail
        go_roundw
        case rel => exact ⟨k + 1, by go_num, by omega, HR2, HS⟩
        case measure => simp [intOf]; omega
      | true =>
        rw [ht, if_pos rfl] at hru
        have HRU2 := Lib.hid hru
        have X4 := Lib.hid (World.ownsRow.alloc HR.out (.cells #[.int .i64 (k : Nat)] 3))
        have HYA := Lib.hid (show (wv.alloc (.cells #[.int .i64 (k : Nat)] 3)).heap.size = wv.heap.size + 1 by simp)
        have hks := HS.out.lt
        have hrl := ru_len A k
        have HN : Hid (∀ j v, [Value.int .i64 (k : Nat)][j]? = some v → (wv.alloc (.cells #[.int .i64 (k : Nat)] 3)).cell? ⟨wv.heap.size, 0 + j, none⟩ = some v) := Lib.hid fun j v hj => by
          rw [cell_of_row _ wv.heap.size (0 + j) _ 3 (0, 0) (heap_alloc_last wv _), Nat.zero_add]
          rw [← hj]; simp
        clear hru ht HR
        go_wp2_with (at_builtin; refine wpList_append_own_at _ rfl (.tmp 37) (.tmp 39) 39 rfl (w.heap.size + 1) 3 i0 (.int .i64 0) 1 8 Try.underlying39 hi hz0 hz1 hz2 rfl (by decide) (.slice p2 (ru A k).length c2) (ru A k).length (ints (ru A k)) rfl ?c0 ⟨wv.heap.size, 0, none⟩ 1 1 [.int .i64 (k : Nat)] rfl rfl ?c1 ?c2 ?c3 ?c4 ?c5 ?_)
        case c0 => exact X4.out
        case c2 => simp [Value.oneCell']
        case c3 => unfold maxLen; omega
        case c4 => omega
        case c5 => have := HYA.out; omega
        intro v' w7 hown7 hgrow7 _ hat7
        obtain ⟨p7, c7, rfl⟩ := row_form hown7
        have hya := HYA.out
        have hint : ints (ru A (k + 1)) = ints (ru A k) ++ [.int .i64 (k : Nat)] := by rw [HRU2.out]; simp [ints]
        have hle : (ru A (k + 1)).length = (ru A k).length + 1 := by rw [HRU2.out]; simp
        have HR2 : Hid (w7.ownsRow (w.heap.size + 1) 3 1 (.slice p7 ((ru A k).length + 1) c7) (ru A (k + 1)).length (ints (ru A (k + 1)))) := Lib.hid (by rw [hint, hle]; exact hown7)
        have HS2 : Hid (Sb w w7 [(w.heap.size, .cells #[.int .i64 st, .slice (some ⟨bb, o, none⟩) ss.length c] 24)]) := Lib.hid ((HS.out.alloc (.cells #[.int .i64 (k : Nat)] 3)).tl.grown hgrow7 (fun g hg => by
          have h1 := (World.ownsRow.lt X4.out g hg).1
          exact ⟨by omega, fun x hx => by
            simp only [List.mem_cons, List.mem_nil_iff, or_false] at hx
            subst hx
            show w.heap.size ≠ g
            omega⟩))
        clear hown7 hgrow7 hat7 hint hle X4 HS HN
        go_wp2_with fail
        go_roundw
        case rel => exact ⟨k + 1, by go_num, by omega, HR2, HS2⟩
        case measure => simp [intOf]; omega
  · obtain rfl : k = 48 := by omega
    have hv := iv_row HR.out
    have HV := Lib.hid (hv.mono (E := fun b => w.heap.size ≤ b ∧ b < wo.heap.size) (fun b h => ⟨by omega, h.2⟩) (fun b _ _ => rfl))
    have hk2 : ¬ ((48 : Nat) : Int) < 48 := by omega
    clear HR hv
    go_wp2_with fail
    go_ret
    exact ⟨⟨_, rfl, HV.out⟩, HS.out.1⟩
end Go.Proofs.Ytnhfeakndofokaa
