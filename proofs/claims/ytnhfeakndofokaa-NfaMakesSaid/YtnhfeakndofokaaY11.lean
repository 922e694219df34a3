/- Texts of package regs, one behind the other. -/
import Derived.Test.YtnhfeakndofokaaProg
import Derived.Test.YtnhfeakndofokaaN30
import Derived.WalkKit
import Derived.WalkLawsBesides
import Derived.WalkSpells
import Derived.Outline
import Derived.Lib.Walk
import Derived.Lib.Hide
import Derived.Lib.Slices
import Derived.Lib.Strings
import Derived.RegionTactic
import Derived.LoopTactic
import Derived.Below
import Derived.IntWalk
import Derived.Deep.QuietTactic
import Derived.BigQuiet
import Derived.Deep.MidRow
import Derived.Maps.AppendAt
import Derived.Laws.Rows
import Derived.Laws.Tables
import Derived.Deep.WholeRow
import Derived.Deep.Cut
import Derived.Deep.CutRange
import Derived.Lib.SliceRun
import Derived.Laws.MakeOwn
import Derived.Deep.RegionLaw
import Derived.Deep.RegionLawGrows
import Derived.Test.YtnhfeakndofokaaY8
import Derived.Deep.RegionHeld3
import Derived.RegionCalls
import Derived.Deep.RegionWith
import Derived.Deep.Light
section
/- Package nfa. -/
namespace Go.Proofs.Ytnhfeakndofokaa
set_option linter.unusedSimpArgs false
set_option linter.unusedVariables false
set_option maxRecDepth 100000
open Go.RowKit
/- LeftInts. -/
theorem zi_len (l : List Int) : (zi l).length = l.length := by simp [zi]
theorem mk7_get {k : Nat} (h : k < 3) (l : List Int) : (zi (l ++ mk7 3))[l.length + k]? = some (.int .i64 (-7000 - (k : Int))) := by
  rw [zi, List.getElem?_map, List.getElem?_append_right (by omega), show l.length + k - l.length = k by omega]
  rcases (by omega : k = 0 ∨ k = 1 ∨ k = 2) with rfl | rfl | rfl <;> rfl
theorem ti_row {B g cap : Nat} {w : World} {l : List Int} (h : w.ownsRow B 3 1 (.slice (some ⟨g, 0, none⟩) (l.length + 3) cap) (l.length + 3) (zi (l ++ mk7 3))) :
    (∀ i (hi : i < l.length), w.cell? ⟨g, i, none⟩ = some (.int .i64 l[i])) ∧ (∀ k, k < 3 → w.cell? ⟨g, l.length + k, none⟩ = some (.int .i64 (-7000 - (k : Int)))) ∧ l.length + 3 ≤ cap ∧ B ≤ g ∧ g < w.heap.size := by
  refine ⟨fun i hi => ?_, fun k hk => ?_, ?_, (h.lt g rfl).1, (h.lt g rfl).2⟩
  · have := h.cells (g := g) rfl i (.int .i64 l[i]) (by
      rw [zi, List.getElem?_map, List.getElem?_append_left hi, List.getElem?_eq_getElem hi]; rfl)
    rwa [Addr.add_mid, Nat.zero_add] at this
  · have := h.cells (g := g) rfl (l.length + k) _ (mk7_get hk l)
    rwa [Addr.add_mid, Nat.zero_add] at this
  · obtain ⟨g', cap', he, hc⟩ := row_own h (by omega)
    injection he with e1 e2 e3
    omega
theorem ti_iv {B g cap : Nat} {w : World} {l : List Int} (h : w.ownsRow B 3 1 (.slice (some ⟨g, 0, none⟩) (l.length + 3) cap) (l.length + 3) (zi (l ++ mk7 3))) : IV (fun b => b = g) w l (.slice (some ⟨g, 0, none⟩) l.length cap) := by
  obtain ⟨h1, _⟩ := ti_row h
  exact ⟨_, _, rfl, fun _ => ⟨g, 0, rfl, rfl, fun i hi => by rw [Nat.zero_add]; exact h1 i hi⟩⟩
set_option maxHeartbeats 8000000 in
theorem left_ints {E : Nat → Prop} {B : Nat} {w : World} {l : List Int} {v : Value} {pb : Option Addr} {cb : Nat} (hl : l.length ≤ 1000000) (hE : ∀ b, E b → b < w.heap.size) (ht : TI B w l v) (h : IV E w l (.slice pb l.length cb)) :
    Calls Try.prog 29 #[v, .slice pb l.length cb] w fun e w' => e = .returned (.bool true) ∧ Below w.heap.size w w' := by
  obtain ⟨g, cap, rfl, hrow⟩ := ht
  obtain ⟨h1, h2, h3, h4, h5⟩ := ti_row hrow
  have HC := Lib.hid (same_any (D := fun b => b = g) (by omega) (fun b hb => by rw [hb]; exact h5) hE (ti_iv hrow) h)
  have HM := Lib.hid h2
  have HG := Lib.hid h5
  have c1 : ¬ (cap : Int) < (l.length : Int) + 3 := by omega
  have c2 : (l.length : Int) + 3 ≤ (cap : Int) := by omega
  have c3 : l.length + 3 ≤ cap := h3
  have c4 : (0 : Int) ≤ (l.length : Int) + 3 := by omega
  have c5 : ¬ (l.length : Int) + 3 < 0 := by omega
  clear hrow h h1 h2 h4 h5 h3 hE
  go_enter Try.func29, Try.ntmps29
  go_wp2_with fail
  refine HC.out.mono ?_
  rintro _ w1 ⟨rfl, hb1⟩
  rw [decide_true]
  have HB := Lib.hid hb1
  clear hb1 HC
  go_wp2_with fail
  go_loopw [6] (fun i wr => ∃ k : Nat, k ≤ 3 ∧ i = .int .i64 (k : Nat) ∧ Hid (Below w.heap.size w wr)) (fun i _ => 3 - (intOf i).toNat)
  case atStart => exact ⟨0, by omega, rfl, HB⟩
  case round =>
  clear HB
  obtain ⟨k, hk, rfl, HB⟩ := hrel
  by_cases hk3 : k < 3
  · have hk3I : (k : Int) < 3 := by omega
    have cm : wr.cell? ⟨g, l.length + k, none⟩ = some (.int .i64 (-7000 - (k : Int))) := (cell_same (HB.out.block g HG.out) _).trans (HM.out k hk3)
    go_wp2_with fail
    go_roundw
    case rel => exact ⟨k + 1, by omega, by go_num, HB⟩
    case measure => simp [intOf]; omega
  · obtain rfl : k = 3 := by omega
    go_wp2_with fail
    go_ret
    exact ⟨rfl, HB.out⟩
end Go.Proofs.Ytnhfeakndofokaa
end
section
/- Package nfa. -/
namespace Go.Proofs.Ytnhfeakndofokaa
set_option linter.unusedSimpArgs false
set_option linter.unusedVariables false
set_option maxRecDepth 100000
open Go.RowKit
/- A twin of an automaton in memory. -/
theorem row_base {w : World} {B C : Nat} {e : TypeId} {size : Nat} {v : Value} {n : Nat} {xs : List Value} (h : w.ownsRow B e size v n xs) (hc : C ≤ B) : w.ownsRow C e size v n xs := by
  refine ⟨h.1, ?_⟩
  rcases h.2 with h1 | ⟨g, cap, cur, hv, hb, hr⟩
  · exact .inl h1
  · exact .inr ⟨g, cap, cur, hv, Nat.le_trans hc hb, hr⟩
/-- The list of one state is a twin. -/
def TR (B : Nat) (w : World) (z : Nq) : Prop := ∃ g, z.2.1 = some ⟨g, 0, none⟩ ∧ w.ownsRow B 3 1 (.slice (some ⟨g, 0, none⟩) (z.1.fr.length + 3) z.2.2) (z.1.fr.length + 3) (zi (z.1.fr ++ mk7 3))
theorem TR.kept {B : Nat} {w w' : World} {z : Nq} {row : Option Nat} (h : TR B w z) (hg : w.grownBy w' row) (hn : ∀ g, z.2.1 = some ⟨g, 0, none⟩ → some g ≠ row) : TR B w' z := by
  obtain ⟨g, h1, h2⟩ := h
  exact ⟨g, h1, World.ownsRow.kept h2 hg (.inr (hn g h1))⟩
theorem TR.lt {B : Nat} {w : World} {z : Nq} (h : TR B w z) {g : Nat} (he : z.2.1 = some ⟨g, 0, none⟩) : B ≤ g ∧ g < w.heap.size := by
  obtain ⟨g', h1, h2⟩ := h
  rw [h1] at he
  have hgg : g' = g := by simpa using he
  exact hgg ▸ h2.lt g' rfl
/-- Twins of states, and marks behind them, in a row of one's own. -/
def TN (B : Nat) (zs ms : List Nq) (sl : Value) (w : World) : Prop := (∀ z ∈ zs, TR B w z ∧ ∀ g, z.2.1 = some ⟨g, 0, none⟩ → some g ≠ sl.ownBlock) ∧ w.ownsRow B 49 7 sl (zs ++ ms).length (flat ((zs ++ ms).map zC))
theorem TN.nil (B : Nat) (w : World) : TN B [] [] (.slice none 0 0) w := ⟨fun z hz => absurd hz (by simp), ⟨by simp [flat], .inl ⟨rfl, rfl⟩⟩⟩
theorem TN.up {B : Nat} {zs ms : List Nq} {sl : Value} {w w' : World} (h : TN B zs ms sl w) (hb : Below w.heap.size w w') : TN B zs ms sl w' := by
  have hg : w.grownBy w' none := ⟨hb.os, hb.tape, hb.output, hb.size, fun k hk _ => hb.block k hk⟩
  refine ⟨fun z hz => ⟨(h.1 z hz).1.kept hg (fun g _ => by simp), (h.1 z hz).2⟩, World.ownsRow.kept h.2 hg ?_⟩
  by_cases hp : sl.ownBlock = none
  · exact .inl hp
  · exact .inr hp
theorem TN.keep {B : Nat} {zs ms : List Nq} {sl sl' : Value} {w w2 : World} (h : TN B zs ms sl w) (hg : w.grownBy w2 sl.ownBlock) (hat : sl'.ownBlock = sl.ownBlock ∨ sl'.ownBlock = some w.heap.size) : ∀ z ∈ zs, TR B w2 z ∧ ∀ g, z.2.1 = some ⟨g, 0, none⟩ → some g ≠ sl'.ownBlock := by
  intro z hz
  obtain ⟨h1, h2⟩ := h.1 z hz
  refine ⟨h1.kept hg h2, fun g he e => ?_⟩
  rcases hat with ha | ha
  · rw [ha] at e; exact h2 g he e
  · rw [ha] at e
    have := (h1.lt he).2
    cases e
    omega
/-- One twin more. -/
theorem TN.app {B : Nat} {zs : List Nq} {sl sl' : Value} {w w2 : World} {z : Nq} (h : TN B zs [] sl w) (hz : TR B w z) (hne : ∀ g, z.2.1 = some ⟨g, 0, none⟩ → some g ≠ sl.ownBlock)
    (hown : w2.ownsRow B 49 7 sl' (zs.length + 1) (flat (zs.map zC) ++ (zC z).toList)) (hg : w.grownBy w2 sl.ownBlock) (hat : sl'.ownBlock = sl.ownBlock ∨ sl'.ownBlock = some w.heap.size) : TN B (zs ++ [z]) [] sl' w2 := by
  refine ⟨fun y hy => ?_, ?_⟩
  · rcases List.mem_append.1 hy with hy | hy
    · exact h.keep hg hat y hy
    · simp at hy
      subst hy
      refine ⟨hz.kept hg hne, fun g he e => ?_⟩
      rcases hat with ha | ha
      · rw [ha] at e; exact hne g he e
      · rw [ha] at e
        have := (hz.lt he).2
        cases e
        omega
  · rw [List.append_nil, List.map_append, flat_app]
    have e : flat (List.map zC [z]) = (zC z).toList := by simp [flat]
    rw [e, List.length_append]
    exact hown
/-- One mark more. -/
theorem TN.mark {B : Nat} {zs ms : List Nq} {sl sl' : Value} {w w2 : World} {z : Nq} (h : TN B zs ms sl w)
    (hown : w2.ownsRow B 49 7 sl' ((zs ++ ms).length + 1) (flat ((zs ++ ms).map zC) ++ (zC z).toList)) (hg : w.grownBy w2 sl.ownBlock) (hat : sl'.ownBlock = sl.ownBlock ∨ sl'.ownBlock = some w.heap.size) : TN B zs (ms ++ [z]) sl' w2 := by
  refine ⟨h.keep hg hat, ?_⟩
  rw [← List.append_assoc, List.map_append, flat_app]
  have e : flat (List.map zC [z]) = (zC z).toList := by simp [flat]
  rw [e, List.length_append]
  exact hown
theorem TN.form {B : Nat} {zs ms : List Nq} {sl : Value} {w : World} (h : TN B zs ms sl w) : ∃ p c, sl = .slice p (zs ++ ms).length c := row_form7 h.2
def mkq (k : Nat) : Nq := (⟨fun _ => 0, -7000 - (k : Int), [], 0⟩, none, 0)
def mkqs (k : Nat) : List Nq := (List.range k).map mkq
theorem mkqs_succ (k : Nat) : mkqs (k + 1) = mkqs k ++ [mkq k] := by simp [mkqs, List.range_succ]
theorem mkqs_len (k : Nat) : (mkqs k).length = k := by simp [mkqs]
/-- What TwinNfa answers. -/
def TwN (w : World) (st : Int) (ss : List Nst) (e : Ending) (w' : World) : Prop := ∃ g cap zs, e = .returned (.agg #[.int .i64 st, .slice (some ⟨g, 0, none⟩) ss.length cap]) ∧ zs.map (fun z : Nq => z.1) = ss ∧ TN w.heap.size zs (mkqs 3) (.slice (some ⟨g, 0, none⟩) (ss.length + 3) cap) w' ∧ Below w.heap.size w w'
end Go.Proofs.Ytnhfeakndofokaa
end
section
/- Package nfa. -/
namespace Go.Proofs.Ytnhfeakndofokaa
set_option linter.unusedSimpArgs false
set_option linter.unusedVariables false
set_option maxRecDepth 100000
open Go.RowKit
/- The rules, in a row of one's own. -/
set_option maxHeartbeats 8000000 in
theorem rules_own {B : Nat} {w0 y : World} {F A n : Nat} {stp sl : Value} {ss : List Nst} {l : List Nat} (h : FR B w0 y F A stp n l l sl) (hn : n ≤ 4096) (hlen : l.length ≤ 4096) (hss : ss.length = n) (hSV : SV (fun b => b < B) w0 ss stp) (hrl : ∀ s ∈ ss, s.rl < 48) (hl : ∀ s ∈ l, s < n) :
    Calls Try.prog 43 #[.pointer (some ⟨F, 0, none⟩)] y fun e y' => (∃ v, e = .returned v ∧ y'.ownsRow y.heap.size 3 1 v (rulesOf ss l).length (zi (rulesOf ss l))) ∧ Below y.heap.size y y' := by
  obtain ⟨i0, hi, hz0, hz1, hz2⟩ := info_parts info3
  obtain ⟨p, c, rfl⟩ := row_form h.row
  have H := Lib.hid h
  have HL := Lib.hid hl
  have HSV := Lib.hid hSV
  have HRL := Lib.hid hrl
  have HSS := Lib.hid hss
  have hFlt : F < y.heap.size := (Array.getElem?_eq_some_iff.1 h.f).1
  have hz := zero93
  have S0 := Lib.hid ((Sb.start y).alloc (.cells (r48 fun _ => false) 93))
  have HC1 : Hid (∀ z, Below y.heap.size y z → z.cell? ⟨F, 1, none⟩ = some (.slice p l.length c)) := Lib.hid fun z hb => (cell_same (hb.block F hFlt) 1).trans (cell_of_row y F 1 _ 73 (0, 0) h.f)
  have c1 : (y.alloc (.cells (r48 fun _ => false) 93)).cell? ⟨F, 1, none⟩ = some (.slice p l.length c) := HC1.out _ S0.out.1
  clear h hl hSV hrl hss
  go_enter Try.func43, Try.ntmps43
  go_upto_region 3 with fail
  refine at_world (fun z => Sb y z [(y.heap.size, .cells (r48 fun _ => false) 93)]) S0.out fun z hz => ?_
  have S1 := Lib.hid hz
  clear hz S0 c1
  go_loopw [15] (fun i wr => ∃ (j : Nat) (f : Nat → Bool), i = .int .i64 (j : Nat) ∧ j ≤ l.length ∧ Hid (∀ r, r < 48 → f r = anyR ss (l.take j) r) ∧ Hid (Sb y wr [(y.heap.size, .cells (r48 f) 93)])) (fun i _ => l.length - (intOf i).toNat)
  case atStart => exact ⟨0, fun _ => false, rfl, by omega, Lib.hid fun r _ => by simp [anyR], S1⟩
  case round =>
    clear S1
    obtain ⟨j, f, rfl, hj, HF, HS⟩ := hrel
    obtain ⟨wo, rfl⟩ : ∃ wo : World, wo = wr := ⟨_, rfl⟩
    by_cases hlt : j < l.length
    · have hne : l ≠ [] := by intro e; subst e; simp at hlt
      obtain ⟨g, cap, cs, hsl, hown⟩ := H.out.reb hne
      cases hsl
      obtain ⟨s, hs⟩ : ∃ s, l[j] = s := ⟨_, rfl⟩
      have hsn : s < n := HL.out s (hs ▸ List.getElem_mem hlt)
      have hsn' : s < ss.length := by rw [HSS.out]; exact hsn
      have hglt : g < y.heap.size := (Array.getElem?_eq_some_iff.1 hown.2.1).1
      obtain ⟨q, cq, hstp, hSV⟩ := HSV.out
      obtain ⟨bb, o, rfl, hDb, hx⟩ := hSV (by intro e; rw [e] at hsn'; simp at hsn')
      obtain ⟨qf, ff, hiv, hcell⟩ := hx s hsn'
      rw [HSS.out] at hstp
      have hb := HS.out.1
      have c0 : wo.cell? ⟨F, 0, none⟩ = some (.slice (some ⟨bb, o, none⟩) n cq) := by rw [← hstp]; exact (cell_same (hb.block F hFlt) 0).trans (cell_of_row y F 0 _ 73 (0, 0) H.out.f)
      have cg : wo.cell? ⟨g, j, none⟩ = some (.int .i64 (s : Nat)) := (cell_same (hb.block g hglt) j).trans (by rw [cell_of_row y g j _ 3 (0, 0) hown.2.1, hown.2.2.2.2.2 j hlt, hs])
      have hbl := H.out.bel
      have d6 : wo.cell? ⟨bb, o + s * 7 + 6, none⟩ = some (.int .i64 (ss[s]).rl) := (cell_same ((hb.block bb (by have := H.out.sz; omega)).trans (hbl.block bb hDb)) _).trans (hcell 6 _ rfl)
      have hr := HRL.out ss[s] (List.getElem_mem hsn')
      have hany : ∀ r, anyR ss (l.take (j + 1)) r = (anyR ss (l.take j) r || decide ((ss[s]).rl = (r : Int))) := fun r => by rw [anyR_succ ss l j hlt r, hs, rlOf_get hsn']
      generalize (ss[s]).rl = rl at *
      have HANY := Lib.hid hany
      have hltI : (j : Int) < (l.length : Int) := by omega
      have hjI : ¬ (j : Int) < 0 := by omega
      have hsI : ¬ (s : Int) < 0 := by omega
      have hsI2 : (s : Int) < (n : Int) := by omega
      clear hx hSV hstp hcell hiv hs hown hb hbl hany
      by_cases h0 : 0 ≤ rl
      · obtain ⟨m, hm⟩ : ∃ m : Nat, rl = (m : Int) := ⟨rl.toNat, by omega⟩
        subst hm
        have hm48 : m < 48 := by omega
        have hmI : ¬ (m : Int) < 0 := by omega
        have cE : wo.cell? ⟨y.heap.size, m, none⟩ = some (.bool (f m)) := by rw [HS.out.cell m, r48_get hm48]
        have fE : wo.frozen? ⟨y.heap.size, m, none⟩ = false := HS.out.free m
        have HS2 := Lib.hid (by have h9 := HS.out.set (i := m) (.bool true) (by simp); rw [r48_set] at h9; exact h9 : Sb y (wo.setCell ⟨y.heap.size, m, none⟩ (.bool true)) [(y.heap.size, .cells (r48 fun i => f i || i == m) 93)])
        have HF2 : Hid (∀ r, r < 48 → (fun i => f i || i == m) r = anyR ss (l.take (j + 1)) r) := Lib.hid fun r hr => by
          rw [HANY.out r, ← HF.out r hr]
          show (f r || r == m) = (f r || decide ((m : Int) = (r : Int)))
          have e : (r == m) = decide ((m : Int) = (r : Int)) := by rw [Bool.eq_iff_iff, beq_iff_eq, decide_eq_true_eq]; omega
          rw [e]
        clear HS HF HANY
        go_wp2_with fail
        go_roundw
        case rel => exact ⟨j + 1, _, by go_num, by omega, HF2, HS2⟩
        case measure => simp [intOf]; omega
      · have HF2 : Hid (∀ r, r < 48 → f r = anyR ss (l.take (j + 1)) r) := Lib.hid fun r hr => by
          rw [HANY.out r, ← HF.out r hr]
          rw [show decide (rl = (r : Int)) = false by simp; omega]; simp
        clear HF HANY
        go_wp2_with fail
        go_roundw
        case rel => exact ⟨j + 1, f, by go_num, by omega, HF2, HS⟩
        case measure => simp [intOf]; omega
    · obtain rfl : j = l.length := by omega
      have hltI : ¬ (l.length : Int) < (l.length : Int) := by omega
      have hE := Lib.hid HS.out.heap
      have hbel := Lib.hid HS.out.1
      have hylt : y.heap.size < wo.heap.size := HS.out.lt
      have hRU : Hid ((ru f 48).map (fun (r : Nat) => (r : Int)) = rulesOf ss l) := Lib.hid (by
        unfold rulesOf ru
        congr 1
        refine List.filter_congr fun r hr => ?_
        have := HF.out r (List.mem_range.1 hr)
        rw [List.take_length] at this
        exact this)
      have hrow0 : Hid (wo.ownsRow y.heap.size 3 1 (.slice none 0 0) (ru f 0).length (ints (ru f 0))) := Lib.hid ⟨by simp [ru, ints], .inl ⟨rfl, by simp [ru]⟩⟩
      have hix : ∀ k w, k < 48 → (Instr.index 93 (.agg (r48 f)) (.int .i64 (k : Nat))).run Try.prog w = .ok (.bool (f k)) w := fun k w h => index48 f k h w
      have HIX := Lib.hid hix
      clear HF HS hix
      go_wp2_with (refine wpList_load_row rfl 93 (.tmp 3) rfl y.heap.size rfl 93 (r48 f) (0, 0) _ hE.out Try.underlying93 rfl (by rw [size93, r48_size]) ?_)
      go_loopw [7, 33] (fun a i wr => ∃ (k : Nat), i = .int .i64 (k : Nat) ∧ k ≤ 48 ∧ Hid (wr.ownsRow y.heap.size 3 1 a (ru f k).length (ints (ru f k))) ∧ Hid (Below y.heap.size y wr) ∧ y.heap.size < wr.heap.size) (fun _ i _ => 48 - (intOf i).toNat)
      case atStart => exact ⟨0, rfl, by omega, hrow0, hbel, hylt⟩
      case round =>
        clear hE hbel hylt hrow0
        obtain ⟨k, rfl, hk, HR, HB, hlt⟩ := hrel
        obtain ⟨wk, rfl⟩ : ∃ wk : World, wk = wr := ⟨_, rfl⟩
        obtain ⟨p2, c2, hu⟩ := row_form HR.out
        subst hu
        have hlk := ru_len f k
        by_cases hk48 : k < 48
        · have hk2 : (k : Int) < 48 := by omega
          have hix := fun w => HIX.out k w hk48
          have hru := ru_succ f k
          cases hf : f k
          · rw [hf] at hix hru
            rw [if_neg (by simp)] at hru
            have HR2 : Hid (wk.ownsRow y.heap.size 3 1 (.slice p2 (ru f k).length c2) (ru f (k + 1)).length (ints (ru f (k + 1)))) := Lib.hid (by rw [hru]; exact HR.out)
            clear hru hf HR
            go_wp2_with (simp only [hix])
            go_roundw
            case rel => exact ⟨k + 1, by go_num, by omega, HR2, HB, hlt⟩
            case measure => simp [intOf]; omega
          · rw [hf] at hix hru
            rw [if_pos rfl] at hru
            have HRU2 := Lib.hid hru
            have X4 := Lib.hid (World.ownsRow.alloc HR.out (.cells #[.int .i64 (k : Nat)] 3))
            have HYA := Lib.hid (show (wk.alloc (.cells #[.int .i64 (k : Nat)] 3)).heap.size = wk.heap.size + 1 by simp)
            clear hru hf HR
            go_wp2_with (first | (simp only [hix]) | (at_builtin; refine wpList_append_own_at _ rfl (.tmp 38) (.tmp 40) 39 rfl y.heap.size 3 i0 (.int .i64 0) 1 8 Try.underlying39 hi hz0 hz1 hz2 rfl (by decide) (.slice p2 (ru f k).length c2) (ru f k).length (ints (ru f k)) rfl ?c0 ⟨wk.heap.size, 0, none⟩ 1 1 [.int .i64 (k : Nat)] rfl rfl ?c1 ?c2 ?c3 ?c4 ?c5 ?_))
            case c0 => exact X4.out
            case c1 => exact cell_one_new _ _ _
            case c2 => simp [Value.oneCell']
            case c3 => unfold maxLen; omega
            case c4 => omega
            case c5 => have := HYA.out; omega
            intro v' w7 hown7 hgrow7 _ hat7
            obtain ⟨p7, c7, rfl⟩ := row_form hown7
            have hya := HYA.out
            have hint : ints (ru f (k + 1)) = ints (ru f k) ++ [.int .i64 (k : Nat)] := by rw [HRU2.out]; simp [ints]
            have hle : (ru f (k + 1)).length = (ru f k).length + 1 := by rw [HRU2.out]; simp
            have HR2 : Hid (w7.ownsRow y.heap.size 3 1 (.slice p7 ((ru f k).length + 1) c7) (ru f (k + 1)).length (ints (ru f (k + 1)))) := Lib.hid (by rw [hint, hle]; exact hown7)
            have HB2 := Lib.hid (below_grown (HB.out.alloc (by omega) (.cells #[.int .i64 (k : Nat)] 3)) hgrow7 (fun g hg => (World.ownsRow.lt X4.out g hg).1) (by omega))
            have hlt2 : y.heap.size < w7.heap.size := by have := hgrow7.size; omega
            clear hown7 hgrow7 hat7 hint hle X4 HB
            go_wp2_with fail
            go_roundw
            case rel => exact ⟨k + 1, by go_num, by omega, HR2, HB2, hlt2⟩
            case measure => simp [intOf]; omega
        · obtain rfl : k = 48 := by omega
          have hz9 : ints (ru f 48) = zi ((ru f 48).map fun (r : Nat) => (r : Int)) := by simp [ints, zi]
          have hv : wk.ownsRow y.heap.size 3 1 (.slice p2 (ru f 48).length c2) (rulesOf ss l).length (zi (rulesOf ss l)) := by
            have h9 := HR.out
            rw [hz9] at h9
            rw [← hRU.out, List.length_map]
            exact h9
          have HV := Lib.hid hv
          have hk2 : ¬ ((48 : Nat) : Int) < 48 := by omega
          clear HR hv
          go_wp2_with fail
          go_ret
          exact ⟨⟨_, rfl, HV.out⟩, HB.out⟩
end Go.Proofs.Ytnhfeakndofokaa
end
