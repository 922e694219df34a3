/- Package indent. -/
import Derived.Test.YtemkppjdfjoipaaProg
import Derived.Test.YtemkppjdfjoipaaU11
import Derived.Great.BuildSlice
import Derived.WalkKit
import Derived.Maps.OwnSet
import Derived.Maps.OwnOps
import Derived.Maps.Own
import Derived.DeepKeys5
import Derived.BigFrame
import Derived.WalkMore
import Derived.ScopeJumps
import Derived.StillTailTactics
import Derived.Stop.BytesEq
import Derived.WalkLawsBesides
import Derived.WalkSpells
import Derived.Outline
import Derived.Lib.Walk
import Derived.Lib.Hide
import Derived.Lib.Slices
import Derived.Lib.Strings
import Derived.RegionTactic
import Derived.LoopTactic
import Derived.Below
import Derived.IntWalk
import Derived.Deep.QuietTactic
import Derived.BigQuiet
import Derived.Deep.MidRow
import Derived.Maps.AppendAt
import Derived.Laws.Rows
import Derived.Laws.Tables
import Derived.Deep.WholeRow
import Derived.Deep.Cut
import Derived.Deep.CutRange
import Derived.Lib.SliceRun
import Derived.Laws.MakeOwn
import Derived.Deep.RegionLaw
import Derived.Deep.RegionLawGrows
import Derived.Deep.RegionHeld3
import Derived.RegionCalls
import Derived.Deep.RegionWith
import Derived.Deep.Light
import Derived.Laws.CopyOwn
import Derived.Laws.ResultCell
namespace Go.Proofs.Ytemkppjdfjoipaa.I1
set_option linter.unusedSimpArgs false
set_option linter.unusedVariables false
set_option maxRecDepth 100000
open Go.RowKit
/- Pieces in memory: arePieces, Clone. -/
abbrev Rw := Int × Int × Int
def rwC (x : Rw) : List Value := [.int .i64 x.1, .int .i64 x.2.1, .int .i64 x.2.2]
def rwL (l : List Rw) : List Value := l.flatMap rwC
theorem rwL_len (l : List Rw) : (rwL l).length = l.length * 3 := by
  induction l with
  | nil => rfl
  | cons a l ih => simp [rwL, rwC] at ih ⊢; omega
theorem rwL_get : ∀ (l : List Rw) (i : Nat) (h : i < l.length), (rwL l)[i * 3]? = some (.int .i64 l[i].1) ∧ (rwL l)[i * 3 + 1]? = some (.int .i64 l[i].2.1) ∧ (rwL l)[i * 3 + 2]? = some (.int .i64 l[i].2.2)
  | a :: l, 0, _ => ⟨rfl, rfl, rfl⟩
  | a :: l, i + 1, h => by
    have := rwL_get l i (by simpa using h)
    have e : rwL (a :: l) = rwC a ++ rwL l := rfl
    have l3 : (rwC a).length = 3 := rfl
    rw [e, List.getElem?_append_right (by rw [l3]; omega), List.getElem?_append_right (by rw [l3]; omega), List.getElem?_append_right (by rw [l3]; omega), l3, show (i + 1) * 3 - 3 = i * 3 by omega, show (i + 1) * 3 + 1 - 3 = i * 3 + 1 by omega, show (i + 1) * 3 + 2 - 3 = i * 3 + 2 by omega]
    exact this
theorem rwL_one (l : List Rw) : ∀ v ∈ rwL l, v.oneCell' = true := by
  intro v hv
  obtain ⟨t, _, ht⟩ := List.mem_flatMap.1 hv
  simp only [rwC, List.mem_cons, List.mem_nil_iff, or_false] at ht
  rcases ht with rfl | rfl | rfl <;> rfl
def RW (D : Nat → Prop) (w : World) (l : List Rw) (sl : Value) : Prop := ∃ p c, sl = .slice p l.length c ∧ (p = none → c = 0 ∧ l = []) ∧ (l ≠ [] → ∃ b o, p = some ⟨b, o, none⟩ ∧ D b ∧ ∀ j u, (rwL l)[j]? = some u → w.cell? ⟨b, o + j, none⟩ = some u)
theorem RW.mono {D E : Nat → Prop} {w w' : World} (hE : ∀ b, D b → E b) (hw : ∀ b, D b → b < w.heap.size → w'.heap[b]? = w.heap[b]?) {l : List Rw} {sl : Value} (h : RW D w l sl) : RW E w' l sl := by
  obtain ⟨p, c, rfl, h0, h⟩ := h
  refine ⟨p, c, rfl, h0, fun hn => ?_⟩
  obtain ⟨b, o, hp, hD, hc⟩ := h hn
  exact ⟨b, o, hp, hE b hD, fun j u hu => (cell_same (hw b hD (blk_lt (hc j u hu))) _).trans (hc j u hu)⟩
/-- Are they a text's? -/
def areP : Int → List Rw → Bool
  | left, [] => left == 0
  | left, r :: l => if r.2.1 < 1 ∨ left < r.2.1 then false else areP (left - r.2.1) l
set_option maxHeartbeats 8000000 in
theorem pieces_any {D : Nat → Prop} {w : World} {s : ByteArray} {l : List Rw} {p : Option Addr} {c : Nat} (hl : l.length ≤ 9223372036854775806) (hs : s.size ≤ 9223372036854775806) (hD : ∀ b, D b → b < w.heap.size) (h : RW D w l (.slice p l.length c)) :
    Calls Try.prog 25 #[.string s, .slice p l.length c] w fun e w' => e = .returned (.bool (areP (s.size : Nat) l)) ∧ Below w.heap.size w w' := by
  have HI := Lib.hid h
  have HD := Lib.hid hD
  clear h hD
  obtain ⟨R, hR⟩ : ∃ R, areP (s.size : Nat) l = R := ⟨_, rfl⟩
  rw [hR]
  have HR : Hid (areP (s.size : Nat) (l.drop 0) = R) := Lib.hid hR
  have HB0 := Lib.hid (Below.refl w.heap.size w)
  clear hR
  go_enter Try.func25, Try.ntmps25
  go_wp2_with fail
  go_loopw [5, 12] (fun x i wr => ∃ (j : Nat) (left : Int), x = .int .i64 left ∧ i = .int .i64 (j : Nat) ∧ j ≤ l.length ∧ 0 ≤ left ∧ left ≤ (s.size : Int) ∧ Hid (areP left (l.drop j) = R) ∧ Hid (Below w.heap.size w wr)) (fun _ i _ => l.length - (intOf i).toNat)
  case atStart => exact ⟨0, _, rfl, rfl, by omega, by omega, by omega, HR, HB0⟩
  case round =>
  clear HR HB0
  obtain ⟨j, left, rfl, rfl, hj, hl0, hl1, HR, HB⟩ := hrel
  by_cases hlt : j < l.length
  · have hltI : (j : Int) < (l.length : Int) := by omega
    have hjI : ¬ (j : Int) < 0 := by omega
    obtain ⟨p', c', he, -, hh⟩ := HI.out
    injection he with e1 e2 e3
    subst e1 e3
    obtain ⟨b, o, rfl, hDb, hc⟩ := hh (by intro e; rw [e] at hlt; simp at hlt)
    obtain ⟨g0, g1, g2⟩ := rwL_get l j hlt
    have hbk : wr.heap[b]? = w.heap[b]? := HB.out.block b (HD.out b hDb)
    have c0 : wr.cell? ⟨b, o + j * 3, none⟩ = some (.int .i64 l[j].1) := (cell_same hbk _).trans (hc _ _ g0)
    have c1 : wr.cell? ⟨b, o + j * 3 + 1, none⟩ = some (.int .i64 l[j].2.1) := (cell_same hbk _).trans (by rw [Nat.add_assoc]; exact hc _ _ g1)
    have c2 : wr.cell? ⟨b, o + j * 3 + 2, none⟩ = some (.int .i64 l[j].2.2) := (cell_same hbk _).trans (by rw [Nat.add_assoc]; exact hc _ _ g2)
    have HDR : Hid (l.drop j = l[j] :: l.drop (j + 1)) := Lib.hid (List.drop_eq_getElem_cons hlt)
    obtain ⟨⟨k, n, lk⟩, hx⟩ : ∃ x, l[j] = x := ⟨_, rfl⟩
    rw [hx] at c0 c1 c2 HDR
    simp only [] at c0 c1 c2
    have hbw : b < wr.heap.size := Nat.lt_of_lt_of_le (HD.out b hDb) HB.out.size
    have HSW := Lib.hid HB.out.size
    have HBN := Lib.hid (HB.out.alloc HSW.out (.cells #[.int .i64 k, .int .i64 n, .int .i64 lk] 38))
    clear hh hc g0 g1 g2 hbk hx
    have HA := Lib.hid HR.out
    rw [HDR.out] at HA
    unfold areP at HA
    simp only [] at HA
    clear HR HDR HB
    have hz26 := (zero_of_info (show (Try.prog.info? 38).map (fun i => (i.zero, i.size)) = some (some (.agg #[.int .i64 0, .int .i64 0, .int .i64 0]), 3) by kernel_rfl)).1
    by_cases h1 : n < 1
    · have HF : Hid (false = R) := Lib.hid (by rw [← HA.out, if_pos (.inl h1)])
      clear HA
      go_wp2_with fail
      go_ret
      exact ⟨vbool6 HF.out, HBN.out⟩
    · by_cases h2 : left < n
      · have HF : Hid (false = R) := Lib.hid (by rw [← HA.out, if_pos (.inr h2)])
        clear HA
        go_wp2_with fail
        go_ret
        exact ⟨vbool6 HF.out, HBN.out⟩
      · have HN : Hid (areP (left - n) (l.drop (j + 1)) = R) := Lib.hid (by rw [← HA.out, if_neg (fun h => h.elim h1 h2)])
        have hw : IntKind.i64.wrap (left - n) = left - n := IntWalk.i64_in (left - n) (by omega)
        clear HA
        go_wp2_with fail
        go_roundw
        case rel => exact ⟨j + 1, _, rfl, by go_num, by omega, by omega, by omega, HN, HBN⟩
        case measure => simp [intOf]; omega
  · obtain rfl : j = l.length := by omega
    have hltI : ¬ (l.length : Int) < (l.length : Int) := by omega
    have HF : Hid ((left == 0) = R) := Lib.hid (by rw [← HR.out, List.drop_length]; rfl)
    go_wp2_with fail
    go_ret
    exact ⟨vbool6 HF.out, HB.out⟩
theorem info26z : (Try.prog.info? 38).map (fun i => (i.zero, i.size, i.bytes)) = some (some (.agg #[.int .i64 0, .int .i64 0, .int .i64 0]), 3, 24) := by kernel_rfl
theorem eq_nil42 (a : Addr) (n c : Nat) (w : World) : Sem.run Try.prog (binOp BinOp.eql 22 (.slice (some a) n c) (.slice none 0 0)) w = .ok (.bool false) w := by kernel_rfl
theorem eq_nil42n (w : World) : Sem.run Try.prog (binOp BinOp.eql 22 (.slice none 0 0) (.slice none 0 0)) w = .ok (.bool true) w := by kernel_rfl
abbrev rR (v : Value) (l : List Rw) : It := .row v 38 3 l.length (rwL l)
set_option maxHeartbeats 8000000 in
theorem cloneR_any {D : Nat → Prop} {w : World} {l : List Rw} {p : Option Addr} {c : Nat} (hl : l.length ≤ 1000000) (hD : ∀ b, D b → b < w.heap.size) (h : RW D w l (.slice p l.length c)) :
    Calls Try.prog 27 #[.slice p l.length c] w fun e w' => ∃ v, e = .returned v ∧ w'.ownsRow w.heap.size 38 3 v l.length (rwL l) ∧ Below w.heap.size w w' := by
  obtain ⟨i0, hi, hz0, hz1, hz2⟩ := info_parts info26z
  obtain ⟨p', c', he, hn, hh⟩ := h
  injection he with e1 e2 e3
  subst e1 e3
  clear e2
  cases p with
  | none =>
    obtain ⟨rfl, rfl⟩ := hn rfl
    have S0 := Lib.hid (Below.refl w.heap.size w)
    clear hh hD hl hn
    go_enter Try.func27, Try.ntmps27
    go_wp2_with (rw [eq_nil42n])
    go_ret
    exact ⟨_, rfl, ⟨by simp [rwL], .inl ⟨rfl, rfl⟩⟩, S0.out⟩
  | some a =>
  have hw0 := (Below.refl w.heap.size w).alloc (Nat.le_refl _) (.cells #[] 38)
  have HO0 : Hid ((w.alloc (.cells #[] 38)).ownsRow w.heap.size 38 3 (.slice (some ⟨w.heap.size, 0, none⟩) 0 0) 0 []) := Lib.hid ⟨by simp, .inr ⟨w.heap.size, 0, #[], rfl, Nat.le_refl _, heap_alloc_new _ _, Nat.le_refl _, by simp [maxLen], by simp, by simp⟩⟩
  have S0 := Lib.hid hw0
  have HSZ : Hid ((w.alloc (.cells #[] 38)).heap.size = w.heap.size + 1) := Lib.hid (by simp)
  by_cases hne : l = []
  · subst hne
    clear hh hD hl hn hw0 HSZ
    go_enter Try.func27, Try.ntmps27
    go_wp2_with (first | rw [eq_nil42] | (at_builtin; refine wpList_append_zero _ rfl (.tmp 5) (.tmp 6) 22 rfl 38 i0 Try.underlying22 hi ⟨w.heap.size, 0, none⟩ 0 0 rfl (some a) c rfl (Nat.le_refl _) ?_))
    go_wp2_with fail
    go_ret
    exact ⟨_, rfl, HO0.out, S0.out⟩
  · obtain ⟨b, o, hp, hDb, hc⟩ := hh hne
    injection hp with hp
    subst hp
    have hbw := hD b hDb
    have HC : Hid (∀ j v, (rwL l)[j]? = some v → (w.alloc (.cells #[] 38)).cell? ((⟨b, o, none⟩ : Addr).add j) = some v) := Lib.hid fun j v hj => by
      rw [Addr.add_mid, cell_same (hw0.block b hbw)]; exact hc j v hj
    have HZL : Hid ((rwL l).length = l.length * 3) := Lib.hid (rwL_len l)
    have HL := Lib.hid hl
    clear hh hc hw0 hD hn
    go_enter Try.func27, Try.ntmps27
    go_wp2_with (first | rw [eq_nil42] | (at_builtin; refine wpList_append_own_at _ rfl (.tmp 5) (.tmp 6) 22 rfl w.heap.size 38 i0 _ 3 24 Try.underlying22 hi hz0 hz1 hz2 rfl (by decide) (.slice (some ⟨w.heap.size, 0, none⟩) 0 0) 0 [] rfl ?c0 ⟨b, o, none⟩ l.length c (rwL l) rfl HZL.out ?c1 (rwL_one l) ?c3 ?c4 ?c5 ?_))
    case c0 => exact HO0.out
    case c1 => exact HC.out
    case c3 => have := HL.out; unfold maxLen; omega
    case c4 => have := HL.out; omega
    case c5 => have := HSZ.out; omega
    intro v1 w1 hown1 hg1 _ _
    have H1 : Hid (w1.ownsRow w.heap.size 38 3 v1 l.length (rwL l)) := Lib.hid (by simpa using hown1)
    have L1 : Hid (Below w.heap.size w w1) := Lib.hid (below_grown S0.out hg1 (fun g hg => (World.ownsRow.lt HO0.out g hg).1) (by have := HSZ.out; omega))
    clear hown1 hg1 HO0 S0 HSZ HC HZL
    go_wp2_with fail
    go_ret
    exact ⟨_, rfl, H1.out, L1.out⟩
end Go.Proofs.Ytemkppjdfjoipaa.I1
