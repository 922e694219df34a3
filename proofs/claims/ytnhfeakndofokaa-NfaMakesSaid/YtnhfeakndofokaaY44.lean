/- Texts of package regs, one behind the other. -/
import Derived.Test.YtnhfeakndofokaaProg
import Derived.Test.YtnhfeakndofokaaY43
import Derived.WalkKit
import Derived.WalkLawsBesides
import Derived.WalkSpells
import Derived.Outline
import Derived.Lib.Walk
import Derived.Lib.Hide
import Derived.Lib.Slices
import Derived.Lib.Strings
import Derived.RegionTactic
import Derived.LoopTactic
import Derived.Below
import Derived.IntWalk
import Derived.Deep.QuietTactic
import Derived.BigQuiet
import Derived.Deep.MidRow
import Derived.Maps.AppendAt
import Derived.Laws.Rows
import Derived.Laws.Tables
import Derived.Deep.WholeRow
import Derived.Deep.Cut
import Derived.Deep.CutRange
import Derived.Lib.SliceRun
import Derived.Laws.MakeOwn
import Derived.Deep.RegionLaw
import Derived.Deep.RegionLawGrows
import Derived.Deep.RegionHeld3
import Derived.RegionCalls
import Derived.Deep.RegionWith
import Derived.Deep.Light
import Derived.Laws.CopyOwn
import Derived.Laws.ResultCell
import Derived.Test.YtnhfeakndofokaaBg
section
/- Package nfa. -/
namespace Go.Proofs.Ytnhfeakndofokaa
set_option linter.unusedSimpArgs false
set_option linter.unusedVariables false
set_option maxRecDepth 100000
open Go.RowKit
/- The document's Refuses. -/
theorem rule_cells {D : Nat → Prop} {w : World} {ts : List RT} {q : Option Addr} {f j : Nat} (h : RuV D w ts (.slice q ts.length f)) (hj : j < ts.length) : ∃ b o, q = some ⟨b, o, none⟩ ∧ D b ∧ ∃ (kd k : Int) (u : Nat → Int) (p : Option Addr) (n c : Nat), RV D w ts[j] (.agg #[.int .i64 k, .int .u64 (u 0), .int .u64 (u 1), .int .u64 (u 2), .int .u64 (u 3), .slice p n c]) ∧
    w.cell? ⟨b, o + j * 7, none⟩ = some (.int .i64 kd) ∧ w.cell? ⟨b, o + j * 7 + 1, none⟩ = some (.int .i64 k) ∧ w.cell? ⟨b, o + j * 7 + 2, none⟩ = some (.int .u64 (u 0)) ∧ w.cell? ⟨b, o + j * 7 + 3, none⟩ = some (.int .u64 (u 1)) ∧ w.cell? ⟨b, o + j * 7 + 4, none⟩ = some (.int .u64 (u 2)) ∧ w.cell? ⟨b, o + j * 7 + 5, none⟩ = some (.int .u64 (u 3)) ∧ w.cell? ⟨b, o + j * 7 + 6, none⟩ = some (.slice p n c) := by
  obtain ⟨q', f', he, hh⟩ := h
  cases he
  obtain ⟨b, o, rfl, hDb, hx⟩ := hh (by intro e; subst e; simp at hj)
  obtain ⟨kd, k, u, p, n, c, hv, hc⟩ := hx j hj
  exact ⟨b, o, rfl, hDb, kd, k, u, p, n, c, hv, hc 0 _ rfl, hc 1 _ rfl, hc 2 _ rfl, hc 3 _ rfl, hc 4 _ rfl, hc 5 _ rfl, hc 6 _ rfl⟩
theorem RuV.upb {D : Nat → Prop} {w z : World} {ts : List RT} {v : Value} (hD : ∀ b, D b → b < w.heap.size) (h : RuV D w ts v) (hb : Below w.heap.size w z) : RuV D z ts v := h.mono (fun b h => h) (fun b h _ => hb.block b (hD b h))
set_option maxHeartbeats 8000000 in
theorem refuses_any {D : Nat → Prop} {w : World} {ts : List RT} {q : Option Addr} {f : Nat} (hD : ∀ b, D b → b < w.heap.size) (hR : RuV D w ts (.slice q ts.length f)) (hln : ts.length ≤ 9223372036854775806) (hwid : ∀ t ∈ ts, wid t ≤ 9223372036854775806) :
    Calls Try.prog 14 #[.slice q ts.length f] w fun e w' => e = .returned (.int .i64 (refE ts)) ∧ Below w.heap.size w w' := by
  have HR := Lib.hid fun z (hb : Below w.heap.size w z) => hR.upb hD hb
  have HD := Lib.hid fun z (hb : Below w.heap.size w z) b (h : D b) => Nat.lt_of_lt_of_le (hD b h) hb.size
  have HWID := Lib.hid hwid
  have S0 := Lib.hid (Below.refl w.heap.size w)
  obtain ⟨R, hRR⟩ : ∃ R : Int, (refE ts) = R := ⟨_, rfl⟩
  rw [hRR]
  unfold refE at hRR
  by_cases hlong : 48 < ts.length
  · rw [if_pos hlong] at hRR
    have HRES := Lib.hid hRR
    have hl48 : (48 : Int) < (ts.length : Int) := by omega
    clear hR hD hwid hRR
    go_enter Try.func14, Try.ntmps14
    go_wp2_with fail
    go_ret
    exact ⟨ret_i6 HRES.out, S0.out⟩
  rw [if_neg hlong] at hRR
  have HRES := Lib.hid hRR
  have hlen : ts.length ≤ 48 := by omega
  have hl48 : ¬ (48 : Int) < (ts.length : Int) := by omega
  have HCD : Hid (ckL (ts.drop 0) = ckL ts) := Lib.hid (by simp)
  clear hR hD hwid hRR
  go_enter Try.func14, Try.ntmps14
  go_wp2_with fail
  go_loopw [3, 4] (fun a i wr => ∃ j : Nat, i = .int .i64 (j : Nat) ∧ a = .int .i64 (szL (ts.take j) : Nat) ∧ j ≤ ts.length ∧ Hid (Below w.heap.size w wr) ∧ Hid (ckL (ts.drop j) = ckL ts) ∧ szL (ts.take j) ≤ 512 * j) (fun _ i _ => ts.length - (intOf i).toNat)
  case atStart => exact ⟨0, rfl, by simp [szL], by omega, S0, HCD, by simp [szL]⟩
  case round =>
    clear S0 HCD
    obtain ⟨j, rfl, rfl, hj, HS, HCD, hab0⟩ := hrel
    obtain ⟨wo, rfl⟩ : ∃ wo : World, wo = wr := ⟨_, rfl⟩
    by_cases hlt : j < ts.length
    · obtain ⟨b, o, rfl, hDb, kd, k, u, p, n, c, hv, d0, d1, d2, d3, d4, d5, d6⟩ := rule_cells (HR.out wo HS.out) hlt
      have hmem := List.getElem_mem hlt
      have hdrop := ckL_drop hlt
      rw [HCD.out] at hdrop
      have hww := HWID.out _ hmem
      have hblt := HD.out wo HS.out b hDb
      have HC := Lib.hid (refck_any (w := wo) (D := D) (HD.out wo HS.out) hww hv)
      have hltI : (j : Int) < (ts.length : Int) := by omega
      have hjI : ¬ (j : Int) < 0 := by omega
      by_cases hck : checkE ts[j] = 0
      · rw [if_pos hck] at hdrop
        have HDR := Lib.hid hdrop.symm
        have hsz1 := checkE_sz hck
        have hst := szL_take ts j hlt
        have HZ := Lib.hid fun z (hb : Below wo.heap.size wo z) => sizer_any (w := z) (D := D) hww (fun b h => Nat.lt_of_lt_of_le (HD.out wo HS.out b h) hb.size) (hv.mono (fun b h => h) (fun b h _ => hb.block b (HD.out wo HS.out b h)))
        rw [hck] at HC
        rw [show min (sz ts[j]) 513 = sz ts[j] by omega] at HZ
        generalize sz ts[j] = s1 at *
        generalize szL (ts.take j) = a at *
        have HST := Lib.hid hst
        have hab : a + s1 ≤ 512 * (j + 1) := by omega
        clear hdrop HCD hww hv hck hmem hst
        go_wp2_with fail
        refine HC.out.mono ?_
        rintro _ y1 ⟨rfl, hb1⟩
        have g1 : y1.cell? ⟨b, o + j * 7 + 1, none⟩ = some (.int .i64 k) := (hb1.cell (p := ⟨b, o + j * 7 + 1, none⟩) hblt).trans d1
        have g2 : y1.cell? ⟨b, o + j * 7 + 2, none⟩ = some (.int .u64 (u 0)) := (hb1.cell (p := ⟨b, o + j * 7 + 2, none⟩) hblt).trans d2
        have g3 : y1.cell? ⟨b, o + j * 7 + 3, none⟩ = some (.int .u64 (u 1)) := (hb1.cell (p := ⟨b, o + j * 7 + 3, none⟩) hblt).trans d3
        have g4 : y1.cell? ⟨b, o + j * 7 + 4, none⟩ = some (.int .u64 (u 2)) := (hb1.cell (p := ⟨b, o + j * 7 + 4, none⟩) hblt).trans d4
        have g5 : y1.cell? ⟨b, o + j * 7 + 5, none⟩ = some (.int .u64 (u 3)) := (hb1.cell (p := ⟨b, o + j * 7 + 5, none⟩) hblt).trans d5
        have g6 : y1.cell? ⟨b, o + j * 7 + 6, none⟩ = some (.slice p n c) := (hb1.cell (p := ⟨b, o + j * 7 + 6, none⟩) hblt).trans d6
        have HZ2 := Lib.hid (HZ.out y1 hb1)
        have S2 := Lib.hid (HS.out.trans (hb1.mono HS.out.size))
        clear hb1 HC HZ HS d0 d1 d2 d3 d4 d5 d6
        go_wp2_with fail
        refine HZ2.out.mono ?_
        rintro _ y2 ⟨rfl, hb2⟩
        have S3 := Lib.hid (S2.out.trans (hb2.mono S2.out.size))
        clear hb2 S2 HZ2 g1 g2 g3 g4 g5 g6
        go_wp2_with fail
        go_roundw
        case rel => exact ⟨j + 1, by go_num, vint6 (by have := HST.out; omega), by omega, S3, HDR, by have := HST.out; omega⟩
        case measure => simp [intOf]; omega
      · rw [if_neg hck] at hdrop
        have HRR2 : Hid (checkE ts[j] = R) := Lib.hid (by
          have h9 := HRES.out
          rw [if_neg (by rw [hdrop]; exact hck)] at h9
          rw [← h9, hdrop])
        have hckI : (checkE ts[j] != 0) = true := by simpa using hck
        generalize checkE ts[j] = E at *
        clear hck hmem hdrop HCD hww hv
        go_wp2_with fail
        refine HC.out.mono ?_
        rintro _ y1 ⟨rfl, hb1⟩
        have S3 := Lib.hid (HS.out.trans (hb1.mono HS.out.size))
        clear hb1 HC HS d0 d1 d2 d3 d4 d5 d6
        go_wp2_with fail
        go_ret
        exact ⟨ret_i6 HRR2.out, S3.out⟩
    · obtain rfl : j = ts.length := by omega
      rw [List.take_length]
      have hltI : ¬ (ts.length : Int) < (ts.length : Int) := by omega
      have hck0 : ckL ts = 0 := by rw [← HCD.out, List.drop_length]; rfl
      have hres := HRES.out
      rw [if_pos hck0] at hres
      have hcall := ckL_all hck0
      rw [List.take_length] at hab0
      by_cases hszl : 2047 < szL ts
      · rw [if_pos hszl] at hres
        have HR3 := Lib.hid hres
        have hszI : (2047 : Int) < (szL ts : Nat) := by omega
        clear hres hcall hck0 HCD HRES
        go_wp2_with fail
        go_ret
        exact ⟨ret_i6 HR3.out, HS.out⟩
      rw [if_neg hszl] at hres
      have HRES2 := Lib.hid hres
      have HCALL := Lib.hid hcall
      have hszI : ¬ (2047 : Int) < (szL ts : Nat) := by omega
      clear hres hcall hck0 HCD HRES
      go_wp2_with fail
      go_loopw [6] (fun i wr => ∃ j : Nat, i = .int .i64 (j : Nat) ∧ j ≤ ts.length ∧ Hid ((ts.take j).all msF = true) ∧ Hid (Below w.heap.size w wr)) (fun i _ => ts.length - (intOf i).toNat)
      case atStart => exact ⟨0, rfl, by omega, Lib.hid (by simp), HS⟩
      case round =>
        clear HS
        obtain ⟨j, rfl, hj, HA, HS⟩ := hrel
        obtain ⟨wo, rfl⟩ : ∃ wo : World, wo = wr := ⟨_, rfl⟩
        by_cases hlt : j < ts.length
        · obtain ⟨b, o, rfl, hDb, kd, k, u, p, n, c, hv, d0, d1, d2, d3, d4, d5, d6⟩ := rule_cells (HR.out wo HS.out) hlt
          have hmem := List.getElem_mem hlt
          have hal := all_take2 msF ts j hlt
          rw [HA.out, Bool.true_and] at hal
          have HNO := Lib.hid fun (h : msF ts[j] = false) => (by rw [List.all_eq_false]; exact ⟨ts[j], hmem, by simp [h]⟩ : ts.all msF = false)
          have hck := HCALL.out _ hmem
          have HC := Lib.hid (blank_any (sz ts[j]) ts[j] (Nat.le_refl _) (by have := checkE_sz hck; omega) (checkE_may hck) (HD.out wo HS.out) hv)
          generalize msF ts[j] = mj at *
          have HAL := Lib.hid hal
          have hltI : (j : Int) < (ts.length : Int) := by omega
          have hjI : ¬ (j : Int) < 0 := by omega
          clear hv hmem hal hck
          go_wp2_with fail
          refine HC.out.mono ?_
          rintro _ y1 ⟨rfl, hb1⟩
          have S3 := Lib.hid (HS.out.trans (hb1.mono HS.out.size))
          clear hb1 HS HC d0 d1 d2 d3 d4 d5 d6
          cases mj with
          | true =>
            go_wp2_with fail
            go_roundw
            case rel => exact ⟨j + 1, by go_num, by omega, HAL, S3⟩
            case measure => simp [intOf]; omega
          | false =>
            have HRR : Hid ((70 : Int) = R) := Lib.hid (by rw [← HRES2.out, HNO.out rfl]; rfl)
            go_wp2_with fail
            go_ret
            exact ⟨ret_i6 HRR.out, S3.out⟩
        · obtain rfl : j = ts.length := by omega
          have hall := HA.out
          rw [List.take_length] at hall
          have HRR : Hid ((0 : Int) = R) := Lib.hid (by rw [← HRES2.out, if_pos hall])
          have hltI : ¬ (ts.length : Int) < (ts.length : Int) := by omega
          clear hall HA
          go_wp2_with fail
          go_ret
          exact ⟨ret_i6 HRR.out, HS.out⟩
end Go.Proofs.Ytnhfeakndofokaa
end
section
/- Package nfa. -/
namespace Go.Proofs.Ytnhfeakndofokaa
set_option linter.unusedSimpArgs false
set_option linter.unusedVariables false
set_option maxRecDepth 100000
open Go.RowKit

/- A row of one's own whose elements are of whatever kind. -/
/-- What an element is, by the blocks that it lies in. -/
abbrev EP := (Nat → Prop) → World → Array Value → Prop
def EMono (p : EP) : Prop := ∀ {D E : Nat → Prop} {w w' : World} {x : Array Value}, (∀ b, D b → E b) → (∀ b, D b → b < w.heap.size → w'.heap[b]? = w.heap[b]?) → p D w x → p E w' x
/-- The elements ps lie in the row of the slice sl. -/
def ThG (base : Nat) (ps : List EP) (sl : Value) (w : World) : Prop :=
  (∀ p ∈ ps, EMono p) ∧ ∃ xs : List (Array Value), xs.length = ps.length ∧ (∀ x ∈ xs, x.size = 6) ∧ (∀ i (h : i < ps.length) (h' : i < xs.length), ps[i] (fun b => base ≤ b ∧ b < w.heap.size ∧ some b ≠ sl.ownBlock) w xs[i]) ∧ w.ownsRow base 56 6 sl ps.length (flat6 xs)
theorem ThG.nil (base : Nat) (w : World) : ThG base [] (.slice none 0 0) w := ⟨by simp, [], rfl, by simp, by simp, rfl, .inl ⟨rfl, rfl⟩⟩
theorem ThG.up {base : Nat} {ps : List EP} {sl : Value} {w w' : World} (h : ThG base ps sl w) (hb : Below w.heap.size w w') : ThG base ps sl w' := by
  obtain ⟨h0, xs, h1, h2, h3, h4⟩ := h
  refine ⟨h0, xs, h1, h2, fun i hi hi' => h0 _ (List.getElem_mem hi) (fun b hb' => ⟨hb'.1, Nat.lt_of_lt_of_le hb'.2.1 hb.size, hb'.2.2⟩) (fun b _ hlt => hb.block b hlt) (h3 i hi hi'), h4.1, ?_⟩
  rcases h4.2 with hn | ⟨g, cap, cur, hv, hg, hh, rest⟩
  · exact .inl hn
  · exact .inr ⟨g, cap, cur, hv, hg, (hb.block g (Array.getElem?_eq_some_iff.1 hh).1).trans hh, rest⟩
theorem ThG.app {base lo : Nat} {ps : List EP} {sl sl' : Value} {w w1 w2 : World} {p : EP} {x : Array Value} {xs : List (Array Value)} {o : Obj} (h0 : ∀ p ∈ ps, EMono p) (hp : EMono p) (hx6 : x.size = 6)
    (h1 : xs.length = ps.length) (h2 : ∀ x ∈ xs, x.size = 6) (h3 : ∀ i (h : i < ps.length) (h' : i < xs.length), ps[i] (fun b => base ≤ b ∧ b < w.heap.size ∧ some b ≠ sl.ownBlock) w xs[i])
    (hw1 : w1 = w.alloc o) (hbl : base ≤ lo) (hlo : ∀ g, sl.ownBlock = some g → g < lo) (ht : p (fun b => lo ≤ b ∧ b < w.heap.size) w x)
    (hown : w2.ownsRow base 56 6 sl' (ps.length + 1) (flat6 xs ++ x.toList)) (hg : w1.grownBy w2 sl.ownBlock) (hat : sl'.ownBlock = sl.ownBlock ∨ sl'.ownBlock = some w1.heap.size) : ThG base (ps ++ [p]) sl' w2 := by
  have hsz : w1.heap.size = w.heap.size + 1 := by subst hw1; simp
  have hkeep : ∀ b, b < w.heap.size → some b ≠ sl.ownBlock → w2.heap[b]? = w.heap[b]? := fun b hb hne => by
    rw [hg.block b (by omega) (fun e => hne e), hw1, heap_alloc_old w _ hb]
  have hD : ∀ b, b < w.heap.size → some b ≠ sl.ownBlock → some b ≠ sl'.ownBlock := fun b hb hne e => by
    rcases hat with h | h
    · rw [h] at e; exact hne e
    · rw [h] at e; cases e; omega
  refine ⟨fun q hq => ?_, xs ++ [x], by simp [h1], fun y hy => ?_, fun i hi hi' => ?_, by rw [flat6_app]; simpa using hown⟩
  · rcases List.mem_append.1 hq with hq | hq
    · exact h0 q hq
    · rw [List.mem_singleton.1 hq]; exact hp
  · rcases List.mem_append.1 hy with hy | hy
    · exact h2 y hy
    · simp at hy; subst hy; exact hx6
  · by_cases hlt : i < ps.length
    · rw [List.getElem_append_left hlt, List.getElem_append_left (by omega)]
      exact h0 _ (List.getElem_mem hlt) (fun b hb => ⟨hb.1, by have := hg.size; omega, hD b hb.2.1 hb.2.2⟩) (fun b hb hlt => hkeep b hlt hb.2.2) (h3 i hlt (by omega))
    · have hi2 : i = ps.length := by simp at hi; omega
      subst hi2
      have e1 : (ps ++ [p])[ps.length]'hi = p := by simp
      have e2 : (xs ++ [x])[ps.length]'hi' = x := by
        rw [List.getElem_append_right (by omega)]; simp [h1]
      rw [e1, e2]
      have hno : ∀ b, lo ≤ b → some b ≠ sl.ownBlock := fun b hb e => by have := hlo b e.symm; omega
      exact hp (fun b hb => ⟨by omega, by have := hg.size; omega, hD b hb.2 (hno b hb.1)⟩) (fun b hb hlt => hkeep b hlt (hno b hb.1)) ht
theorem ThG.slice {base : Nat} {ps : List EP} {sl : Value} {w : World} (h : ThG base ps sl w) : ∃ p c, sl = .slice p ps.length c := by
  obtain ⟨_, xs, h1, h2, h3, h4⟩ := h
  rcases h4.2 with ⟨hv, hn⟩ | ⟨g, cap, cur, hv, _⟩
  · exact ⟨none, 0, by rw [hv, hn]⟩
  · exact ⟨_, _, hv⟩
theorem ThG.own {base : Nat} {ps : List EP} {sl : Value} {w : World} (h : ThG base ps sl w) : ∀ g, sl.ownBlock = some g → base ≤ g ∧ g < w.heap.size := by
  obtain ⟨_, xs, h1, h2, h3, h4⟩ := h
  intro g hg
  rcases h4.2 with ⟨hv, hn⟩ | ⟨g', cap, cur, hv, hb, hh, _⟩
  · rw [hv] at hg; simp [Value.ownBlock] at hg
  · rw [hv] at hg
    have : g' = g := by simpa [Value.ownBlock] using hg
    subst this
    exact ⟨hb, (Array.getElem?_eq_some_iff.1 hh).1⟩
/-- The row's cells, and its elements. -/
theorem ThG.row {base : Nat} {ps : List EP} {sl : Value} {w : World} (h : ThG base ps sl w) (hn : ps ≠ []) : ∃ (g cap : Nat) (X : Nat → Array Value), sl = .slice (some ⟨g, 0, none⟩) ps.length cap ∧ base ≤ g ∧ g < w.heap.size ∧ ps.length ≤ cap ∧
    ∀ i (hi : i < ps.length), ps[i] (fun b => base ≤ b ∧ b < w.heap.size) w (X i) ∧ (X i).size = 6 ∧ ∀ j, j < 6 → ∃ y, (X i)[j]? = some y ∧ w.cell? ⟨g, 6 * i + j, none⟩ = some y := by
  obtain ⟨h0, xs, h1, h2, h3, h4⟩ := h
  have hown := h4
  rcases h4.2 with ⟨_, h00⟩ | ⟨g, cap, cur, rfl, hb, hg, hcap, _⟩
  · exact absurd (List.length_eq_zero_iff.1 h00) hn
  · have hgs := (Array.getElem?_eq_some_iff.1 hg).1
    refine ⟨g, cap, fun i => xs.getD i #[], rfl, hb, hgs, hcap, fun i hi => ?_⟩
    have hi' : i < xs.length := by omega
    have e : xs.getD i #[] = xs[i] := by simp [List.getD, hi']
    show ps[i] _ w (xs.getD i #[]) ∧ (xs.getD i #[]).size = 6 ∧ ∀ j, j < 6 → ∃ y, (xs.getD i #[])[j]? = some y ∧ w.cell? ⟨g, 6 * i + j, none⟩ = some y
    rw [e]
    have h6 := h2 xs[i] (List.getElem_mem hi')
    refine ⟨h0 _ (List.getElem_mem hi) (fun b hb => ⟨hb.1, hb.2.1⟩) (fun b hb hlt => rfl) (h3 i hi hi'), h6, fun j hj => ?_⟩
    have hf := flat6_get xs h2 i hi' j hj
    have hj' : j < (xs[i]).size := by omega
    rw [Array.getElem?_eq_getElem hj'] at hf
    refine ⟨(xs[i])[j], Array.getElem?_eq_getElem hj', ?_⟩
    have := World.ownsRow.cells hown rfl _ _ hf
    rw [Addr.add_mid, Nat.zero_add] at this; exact this
/-- A mark behind a list. -/
def markV (i : Nat) : Array Value := nodeC (-7000 - i) u0 (.slice none 0 0)
/-- A twin of the pattern t: its lists have three marks behind them; it lies in blocks of D. -/
inductive TW (D : Nat → Prop) (w : World) : RT → Value → Prop where
  | mk (k : Int) (u : Nat → Int) (ps : List RT) (b c : Nat) (X : Nat → Array Value) (hD : D b) (hb : b < w.heap.size) (hx : ∀ i (h : i < ps.length), TW D w ps[i] (.agg (X i)))
      (hc : ∀ i, i < ps.length → ∀ j, j < 6 → ∃ y, (X i)[j]? = some y ∧ w.cell? ⟨b, 6 * i + j, none⟩ = some y) (hm : ∀ i, i < 3 → ∀ j, j < 6 → ∃ y, (markV i)[j]? = some y ∧ w.cell? ⟨b, 6 * (ps.length + i) + j, none⟩ = some y) (hcap : ps.length + 3 ≤ c) :
      TW D w (.mk k u ps) (.agg (nodeC k u (.slice (some ⟨b, 0, none⟩) ps.length c)))
theorem TW.mono {D E : Nat → Prop} {w w' : World} (hE : ∀ b, D b → E b) (hw : ∀ b, D b → b < w.heap.size → w'.heap[b]? = w.heap[b]?) {t : RT} {v : Value} (h : TW D w t v) : TW E w' t v := by
  induction h with
  | mk k u ps b c X hD hb hx hc hm hcap ih =>
    have hk : ∀ o y, w.cell? ⟨b, o, none⟩ = some y → w'.cell? ⟨b, o, none⟩ = some y := fun o y h => by
      rw [← h]; unfold World.cell?; simp only [hw b hD hb]
    have hb' : b < w'.heap.size := by
      obtain ⟨y, _, h2⟩ := hm 0 (by omega) 0 (by omega)
      exact World.block_lt_of_cell? w' _ (hk _ _ h2)
    exact .mk k u ps b c X (hE b hD) hb' ih (fun i hi j hj => by obtain ⟨y, h1, h2⟩ := hc i hi j hj; exact ⟨y, h1, hk _ _ h2⟩) (fun i hi j hj => by obtain ⟨y, h1, h2⟩ := hm i hi j hj; exact ⟨y, h1, hk _ _ h2⟩) hcap
theorem TW.rv {D : Nat → Prop} {w : World} {t : RT} {v : Value} (h : TW D w t v) : RV D w t v := by
  induction h with
  | mk k u ps b c X hD hb hx hc hm hcap ih =>
    by_cases hn : ps = []
    · subst hn; exact .leaf k u _ c
    · exact .node k u ps b 0 c X hD hn ih (fun i hi j hj => by rw [Nat.zero_add]; exact hc i hi j hj)
theorem TW.form {D : Nat → Prop} {w : World} {t : RT} {v : Value} (h : TW D w t v) : ∃ (k : Int) (u : Nat → Int) (p : Option Addr) (n c : Nat), v = .agg (nodeC k u (.slice p n c)) := by
  cases h with
  | mk k u ps b c X hD hb hx hc hm hcap => exact ⟨k, u, _, _, _, rfl⟩
def twE (t : RT) : EP := fun D w x => TW D w t (.agg x)
def mkE (i : Nat) : EP := fun _ _ x => x = markV i
theorem twE_mono (t : RT) : EMono (twE t) := fun hE hw h => TW.mono hE hw h
theorem mkE_mono (i : Nat) : EMono (mkE i) := fun _ _ h => h
theorem ThG.twin {base : Nat} {ps : List RT} {sl : Value} {w : World} (h : ThG base (ps.map twE ++ [mkE 0, mkE 1, mkE 2]) sl w) (k : Int) (u : Nat → Int) : ∃ g cap, sl = .slice (some ⟨g, 0, none⟩) (ps.length + 3) cap ∧ ps.length + 3 ≤ cap ∧ base ≤ g ∧ g < w.heap.size ∧
    TW (fun b => base ≤ b ∧ b < w.heap.size) w (.mk k u ps) (.agg (nodeC k u (.slice (some ⟨g, 0, none⟩) ps.length cap))) := by
  obtain ⟨g, cap, X, hs, hb, hg, hcap, hX⟩ := h.row (by simp)
  have hl : (ps.map twE ++ [mkE 0, mkE 1, mkE 2]).length = ps.length + 3 := by simp
  rw [hl] at hs hcap
  refine ⟨g, cap, hs, hcap, hb, hg, .mk k u ps g cap X ⟨hb, hg⟩ hg (fun i hi => ?_) (fun i hi j hj => (hX i (by omega)).2.2 j hj) (fun i hi j hj => ?_) hcap⟩
  · have := (hX i (by omega)).1
    rw [List.getElem_append_left (by simpa using hi), List.getElem_map] at this
    exact this
  · have h1 := hX (ps.length + i) (by omega)
    have h2 := h1.1
    have e : (ps.map twE ++ [mkE 0, mkE 1, mkE 2])[ps.length + i]'(by omega) = mkE i := by
      rw [List.getElem_append_right (by simp)]
      rcases (by omega : i = 0 ∨ i = 1 ∨ i = 2) with rfl | rfl | rfl <;> simp
    rw [e] at h2
    have h3 : X (ps.length + i) = markV i := h2
    have := h1.2.2 j hj
    rwa [h3] at this
end Go.Proofs.Ytnhfeakndofokaa
end
