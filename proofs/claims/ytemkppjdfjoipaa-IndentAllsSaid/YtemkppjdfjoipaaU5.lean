/- Texts of package regs, one behind the other. -/
import Derived.Test.YtemkppjdfjoipaaProg
import Derived.Test.YtemkppjdfjoipaaIc
import Derived.Great.BuildSlice
import Derived.WalkKit
import Derived.Maps.OwnSet
import Derived.Maps.OwnOps
import Derived.Maps.Own
import Derived.DeepKeys5
import Derived.BigFrame
import Derived.WalkMore
import Derived.ScopeJumps
import Derived.StillTailTactics
import Derived.Stop.BytesEq
import Derived.WalkLawsBesides
import Derived.WalkSpells
import Derived.Outline
import Derived.Lib.Walk
import Derived.Lib.Hide
import Derived.Lib.Slices
import Derived.Lib.Strings
import Derived.RegionTactic
import Derived.LoopTactic
import Derived.Below
import Derived.IntWalk
import Derived.Deep.QuietTactic
import Derived.BigQuiet
import Derived.Deep.MidRow
import Derived.Maps.AppendAt
import Derived.Laws.Rows
import Derived.Laws.Tables
import Derived.Deep.WholeRow
import Derived.Deep.Cut
import Derived.Deep.CutRange
import Derived.Lib.SliceRun
import Derived.Laws.MakeOwn
import Derived.Deep.RegionLaw
import Derived.Deep.RegionLawGrows
import Derived.Deep.RegionHeld3
import Derived.RegionCalls
import Derived.Deep.RegionWith
import Derived.Deep.Light
import Derived.Laws.CopyOwn
import Derived.Laws.ResultCell
section
/- Package indent. -/
namespace Go.Proofs.Ytemkppjdfjoipaa.I1
set_option linter.unusedSimpArgs false
set_option linter.unusedVariables false
set_option maxRecDepth 100000
open Go.RowKit
/- MarkInts. -/
structure Only (g : Option Nat) (w w' : World) : Prop where
  os : w'.os = w.os
  tape : w'.tape = w.tape
  output : w'.output = w.output
  size : w'.heap.size = w.heap.size
  block : ∀ k, some k ≠ g → w'.heap[k]? = w.heap[k]?
theorem Only.refl (g : Option Nat) (w : World) : Only g w w := ⟨rfl, rfl, rfl, rfl, fun _ _ => rfl⟩
theorem Only.set {w w' : World} {g : Nat} (h : Only (some g) w w') (i : Nat) (v : Value) : Only (some g) w (w'.setCell ⟨g, i, none⟩ v) :=
  ⟨h.os, h.tape, h.output, by simpa using h.size, fun k hk => (heap_setCell_other w' _ k v (fun e => hk (by rw [e]))).trans (h.block k hk)⟩
theorem Only.below {B : Nat} {g : Option Nat} {w0 w w' : World} (h : Only g w w') (hb : Below B w0 w) (hg : ∀ k, g = some k → B ≤ k) : Below B w0 w' :=
  ⟨h.os.trans hb.os, h.tape.trans hb.tape, h.output.trans hb.output, by rw [h.size]; exact hb.size, fun k hk => (h.block k (fun e => by have := hg k e.symm; omega)).trans (hb.block k hk)⟩
def mkn (n k : Nat) : List Int := (List.range k).map fun i : Nat => (-(n : Int) - (i : Int) - 1)
theorem own_iv {B : Nat} {w : World} {l : List Int} {v : Value} (h : w.ownsRow B 3 1 v l.length (zi l)) : IV (fun b => B ≤ b ∧ b < w.heap.size ∧ some b = v.ownBlock) w l v := by
  rcases h.2 with ⟨rfl, h0⟩ | ⟨g, cap, cur, rfl, h1, h2, h3, h4, h5, h6⟩
  · have : l = [] := List.length_eq_zero_iff.1 h0
    subst this
    exact IV.nil _ _ _ _
  · refine ⟨_, _, rfl, fun _ => ⟨g, 0, rfl, ⟨h1, (Array.getElem?_eq_some_iff.1 h2).1, rfl⟩, fun i hi => ?_⟩⟩
    have := h.cells (g := g) rfl i (.int .i64 l[i]) (by simp [zi, hi])
    rwa [Addr.add_mid] at this
end Go.Proofs.Ytemkppjdfjoipaa.I1
end
section
/- Package indent. -/
namespace Go.Proofs.Ytemkppjdfjoipaa.I1
set_option linter.unusedSimpArgs false
set_option linter.unusedVariables false
set_option maxRecDepth 100000
open Go.RowKit
/- What a mark must be; where bytes lead. -/
def inB (n most : Int) : Bool := decide (0 ≤ n) && decide (n ≤ most)
theorem within_any {w : World} {n most : Int} : Calls Try.prog 83 #[.int .i64 n, .int .i64 most] w fun e w' => e = .returned (.bool (inB n most)) ∧ w' = w := by
  unfold inB
  by_cases h0 : 0 ≤ n
  · have e0 : decide (0 ≤ n) = true := by simpa using h0
    by_cases h1 : n ≤ most
    · have e1 : decide (n ≤ most) = true := by simpa using h1
      rw [e0, e1]
      go_enter Try.func83, Try.ntmps83
      go_wp2_with fail
      go_ret
      exact ⟨rfl, rfl⟩
    · have e1 : decide (n ≤ most) = false := by simpa using h1
      rw [e0, e1]
      go_enter Try.func83, Try.ntmps83
      go_wp2_with fail
      go_ret
      exact ⟨rfl, rfl⟩
  · have e0 : decide (0 ≤ n) = false := by simpa using h0
    rw [e0]
    go_enter Try.func83, Try.ntmps83
    go_wp2_with fail
    go_ret
    exact ⟨rfl, rfl⟩
/-- How columns must be. -/
structure Rise (l : List Int) : Prop where
  ne : 0 < l.length
  h0 : l.getD 0 0 = 0
  up : ∀ i, i + 1 < l.length → l.getD i 0 < l.getD (i + 1) 0
  top : l.getD (l.length - 1) 0 ≤ 4096
/-- The first k of them. -/
def Rk (l : List Int) (k : Nat) : Prop := (0 < k → l.getD 0 0 = 0) ∧ ∀ i, i + 1 < k → l.getD i 0 < l.getD (i + 1) 0
theorem Rk.zero (l : List Int) : Rk l 0 := ⟨fun h => by omega, fun i h => by omega⟩
theorem Rk.one {l : List Int} (h : l.getD 0 0 = 0) : Rk l 1 := ⟨fun _ => h, fun i hi => by omega⟩
theorem Rk.next {l : List Int} {k : Nat} (h : Rk l (k + 1)) (h2 : l.getD k 0 < l.getD (k + 1) 0) : Rk l (k + 2) :=
  ⟨fun _ => h.1 (by omega), fun i hi => by
    by_cases e : i = k
    · subst e; exact h2
    · exact h.2 i (by omega)⟩
noncomputable def riseB (l : List Int) : Bool := @decide (Rise l) (Classical.propDecidable _)
theorem riseB_t {l : List Int} (h : Rise l) : riseB l = true := by unfold riseB; exact @decide_eq_true _ (Classical.propDecidable _) h
theorem riseB_f {l : List Int} (h : ¬ Rise l) : riseB l = false := by unfold riseB; exact @decide_eq_false _ (Classical.propDecidable _) h
theorem getD_lt {l : List Int} {i : Nat} (h : i < l.length) : l.getD i 0 = l[i] := by simp [List.getD, h]
set_option maxHeartbeats 4000000 in
theorem rises_any {D : Nat → Prop} {w : World} {l : List Int} {p : Option Addr} {c : Nat} (hl : l.length ≤ 9223372036854775806) (h : IV D w l (.slice p l.length c)) :
    Calls Try.prog 82 #[.slice p l.length c] w fun e w' => e = .returned (.bool (riseB l)) ∧ w' = w := by
  have HI := Lib.hid h
  clear h
  have HR : Hid (Rk l 0) := Lib.hid (Rk.zero l)
  go_enter Try.func82, Try.ntmps82
  go_wp2_with fail
  go_loopw [7] (fun i wr => ∃ j : Nat, i = .int .i64 (j : Nat) ∧ j ≤ l.length ∧ Hid (Rk l j) ∧ wr = w) (fun i _ => l.length - (intOf i).toNat)
  case atStart => exact ⟨0, rfl, by omega, HR, rfl⟩
  case round =>
  clear HR
  obtain ⟨j, rfl, hj, HR, rfl⟩ := hrel
  by_cases hlt : j < l.length
  · have hltI : (j : Int) < (l.length : Int) := by omega
    obtain ⟨p', c', he, hh⟩ := HI.out
    injection he with e1 e2 e3
    subst e1 e3
    obtain ⟨b, o, rfl, hD, hc⟩ := hh (by intro e; rw [e] at hlt; simp at hlt)
    have cj := hc j hlt
    have hjI : ¬ (j : Int) < 0 := by omega
    obtain ⟨x, hx⟩ : ∃ x, l[j] = x := ⟨_, rfl⟩
    rw [hx] at cj
    have HX : Hid (l.getD j 0 = x) := Lib.hid (by rw [getD_lt hlt, hx])
    clear hx
    by_cases h0 : j = 0
    · subst h0
      rw [Nat.add_zero] at cj
      clear hh hc
      by_cases hx0 : x = 0
      · subst hx0
        have HR2 : Hid (Rk l 1) := Lib.hid (Rk.one HX.out)
        go_wp2_with fail
        go_roundw
        case rel => exact ⟨1, by go_num, by omega, HR2, by first | rfl | trivial⟩
        case measure => simp [intOf]; omega
      · have hxI : (x != 0) = true := by simpa using hx0
        have HF : Hid (riseB l = false) := Lib.hid (riseB_f fun h => hx0 (HX.out ▸ h.h0))
        go_wp2_with fail
        go_ret
        exact ⟨vbool6 HF.out.symm, rfl⟩
    · have cp := hc (j - 1) (by omega)
      have hlt2 : j - 1 < l.length := by omega
      obtain ⟨y, hy⟩ : ∃ y, l[j - 1]'hlt2 = y := ⟨_, rfl⟩
      rw [hy] at cp
      have HY : Hid (l.getD (j - 1) 0 = y) := Lib.hid (by rw [getD_lt hlt2, hy])
      obtain ⟨k, rfl⟩ : ∃ k, j = k + 1 := ⟨j - 1, by omega⟩
      simp only [Nat.add_sub_cancel] at cp HY
      clear hh hc hy
      have hp1 : ((k + 1 : Nat) : Int) - 1 = (k : Int) := by omega
      have hz : (((k + 1 : Nat) : Int) == 0) = false := by simp; omega
      have hpos : (0 : Int) < ((k + 1 : Nat) : Int) := by omega
      have hk0 : ¬ (k : Int) < 0 := by omega
      have hkl : (k : Int) < (l.length : Int) := by omega
      by_cases hxy : x ≤ y
      · have HF : Hid (riseB l = false) := Lib.hid (riseB_f fun h => by
          have := h.up k hlt
          rw [HX.out, HY.out] at this; omega)
        go_wp2_with fail
        go_ret
        exact ⟨vbool6 HF.out.symm, rfl⟩
      · have HR2 : Hid (Rk l (k + 2)) := Lib.hid (HR.out.next (by rw [HX.out, HY.out]; omega))
        go_wp2_with fail
        go_roundw
        case rel => exact ⟨k + 2, by go_num, by omega, HR2, by first | rfl | trivial⟩
        case measure => simp [intOf]; omega
  · obtain rfl : j = l.length := by omega
    have hltI : ¬ (l.length : Int) < (l.length : Int) := by omega
    by_cases h0 : l.length = 0
    · have HF : Hid (riseB l = false) := Lib.hid (riseB_f fun h => by have := h.ne; omega)
      have hg : ¬ (0 : Int) < (l.length : Int) := by omega
      go_wp2_with fail
      go_ret
      exact ⟨vbool6 HF.out.symm, rfl⟩
    · have hg : (0 : Int) < (l.length : Int) := by omega
      have hlt2 : l.length - 1 < l.length := by omega
      obtain ⟨p', c', he, hh⟩ := HI.out
      injection he with e1 e2 e3
      subst e1 e3
      obtain ⟨b, o, rfl, hD, hc⟩ := hh (by intro e; rw [e] at h0; simp at h0)
      have cp := hc (l.length - 1) hlt2
      obtain ⟨y, hy⟩ : ∃ y, l[l.length - 1]'hlt2 = y := ⟨_, rfl⟩
      rw [hy] at cp
      have HY : Hid (l.getD (l.length - 1) 0 = y) := Lib.hid (by rw [getD_lt hlt2, hy])
      have HB : Hid ((decide (y ≤ 4096)) = riseB l) := Lib.hid (by
        by_cases hyt : y ≤ 4096
        · rw [decide_eq_true hyt, riseB_t ⟨by omega, HR.out.1 (by omega), HR.out.2, by rw [HY.out]; exact hyt⟩]
        · rw [decide_eq_false hyt, riseB_f fun h => hyt (by rw [← HY.out]; exact h.top)])
      obtain ⟨n, hn⟩ : ∃ n, l.length = n + 1 := ⟨l.length - 1, by omega⟩
      rw [hn] at cp ⊢ HI hltI hg
      simp only [Nat.add_sub_cancel] at cp
      have hp1 : ((n + 1 : Nat) : Int) - 1 = (n : Int) := by omega
      have hk0 : ¬ (n : Int) < 0 := by omega
      have hkl : (n : Int) < ((n + 1 : Nat) : Int) := by omega
      clear hh hc hy HR hlt hlt2
      go_wp2_with fail
      go_ret
      exact ⟨vbool6 HB.out, rfl⟩
end Go.Proofs.Ytemkppjdfjoipaa.I1
end
