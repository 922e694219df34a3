/- Texts of package regs, one behind the other. -/
import Derived.Test.YtemkppjdfjoipaaProg
import Derived.Test.YtemkppjdfjoipaaXf
import Derived.Deep.SlicePairs
import Derived.Deep.Slices
import Derived.Laws.IdiomArrays
import Derived.OpenShut
import Derived.WideBlind
import Derived.Great.BuildSlice
import Derived.WalkKit
import Derived.Maps.OwnSet
import Derived.Maps.OwnOps
import Derived.Maps.Own
import Derived.DeepKeys5
import Derived.BigFrame
import Derived.WalkMore
import Derived.ScopeJumps
import Derived.StillTailTactics
import Derived.Stop.BytesEq
import Derived.WalkLawsBesides
import Derived.WalkSpells
import Derived.Outline
import Derived.Lib.Walk
import Derived.Lib.Hide
import Derived.Lib.Slices
import Derived.Lib.Strings
import Derived.RegionTactic
import Derived.LoopTactic
import Derived.Below
import Derived.IntWalk
import Derived.Deep.QuietTactic
import Derived.BigQuiet
import Derived.Deep.MidRow
import Derived.Maps.AppendAt
import Derived.Laws.Rows
import Derived.Laws.Tables
import Derived.Deep.WholeRow
import Derived.Deep.Cut
import Derived.Deep.CutRange
import Derived.Lib.SliceRun
import Derived.Laws.MakeOwn
import Derived.Deep.RegionLaw
import Derived.Deep.RegionLawGrows
import Derived.Deep.RegionHeld3
import Derived.RegionCalls
import Derived.Deep.RegionWith
import Derived.Deep.Light
import Derived.Laws.CopyOwn
import Derived.Laws.ResultCell
section
/- Package relex. -/
namespace Go.Proofs.Ytemkppjdfjoipaa.I1.X
set_option linter.unusedSimpArgs false
set_option linter.unusedVariables false
set_option maxRecDepth 100000
open Go.RowKit
/- keptPieces, begins. -/
theorem rw_get {D : Nat → Prop} {w : World} {L : List P3} {p : Option Addr} {n c : Nat} (h : RW D w (L.map tR) (.slice p n c)) {i : Nat} (hi : i < L.length) : n = L.length ∧ ∃ b o, p = some ⟨b, o, none⟩ ∧ D b ∧ w.cell? ⟨b, o + i * 3, none⟩ = some (.int .i64 L[i].1) ∧ w.cell? ⟨b, o + i * 3 + 1, none⟩ = some (.int .i64 (L[i].2.1 : Nat)) ∧ w.cell? ⟨b, o + i * 3 + 2, none⟩ = some (.int .i64 (L[i].2.2 : Nat)) := by
  obtain ⟨p', c', he, _, hh⟩ := h
  injection he with e1 e2 e3
  subst e1 e3
  have hl : (L.map tR).length = L.length := by simp
  obtain ⟨b, o, rfl, hb, hc⟩ := hh (by intro e; rw [e] at hl; simp at hl; omega)
  refine ⟨by rw [e2, hl], b, o, rfl, hb, ?_⟩
  obtain ⟨g0, g1, g2⟩ := rwL_get (L.map tR) i (by rw [hl]; exact hi)
  have e : (L.map tR)[i]'(by rw [hl]; exact hi) = tR L[i] := by simp
  rw [e] at g0 g1 g2
  exact ⟨hc _ _ g0, by rw [Nat.add_assoc]; exact hc _ _ g1, by rw [Nat.add_assoc]; exact hc _ _ g2⟩
/-- Bounds. -/
structure Sm (L : List P3) : Prop where
  one : ∀ r ∈ L, 1 ≤ r.2.1
  look : ∀ r ∈ L, r.2.2 ≤ 1000000
  all : lens L ≤ 1000000
theorem Sm.len {L : List P3} (h : Sm L) : L.length ≤ 1000000 := Nat.le_trans (fit_len L h.one) h.all
set_option maxHeartbeats 8000000 in
theorem kept_any {D : Nat → Prop} {w : World} {L : List P3} {st : Nat} {p : Option Addr} {c : Nat} (hs : Sm L) (hst : st ≤ 1000000) (hD : ∀ b, D b → b < w.heap.size) (h : RW D w (L.map tR) (.slice p L.length c)) :
    Calls Try.prog 63 #[.slice p L.length c, .int .i64 (st : Nat)] w fun e w' => ∃ k, e = .returned (.tuple #[.int .i64 (k : Nat), .int .i64 (off L k : Nat)]) ∧ Kept L st k ∧ w' = w := by
  have H := Lib.hid h
  have HS := Lib.hid hs
  have hn := hs.len
  clear h hs
  obtain ⟨n, hn1⟩ : ∃ n, L.length = n := ⟨_, rfl⟩
  have HN := Lib.hid hn1
  rw [hn1] at H hn ⊢
  clear hn1
  go_enter Try.func63, Try.ntmps63
  go_wp2_with fail
  go_loopw [4, 5] (fun i a wr => ∃ j : Nat, i = .int .i64 (j : Nat) ∧ a = .int .i64 (off L j : Nat) ∧ j ≤ n ∧ Hid (∀ k, (hk : k < L.length) → k < j → off L k + L[k].2.2 ≤ st) ∧ Hid (wr = w)) (fun i _ _ => n - (intOf i).toNat)
  case atStart => exact ⟨0, rfl, rfl, by omega, Lib.hid (fun k _ h => by omega), Lib.hid rfl⟩
  case round =>
    obtain ⟨j, rfl, rfl, hj, HA, HW⟩ := hrel
    by_cases hlt : j < n
    · have hjl : j < L.length := by rw [HN.out]; exact hlt
      obtain ⟨-, b, o, rfl, hb, g0, g1, g2⟩ := rw_get H.out hjl
      rw [← HW.out] at g1 g2
      have hsm := HS.out.look L[j] (List.getElem_mem _)
      have hso := off_succ hjl
      have hol := off_le L j
      have hol2 := off_le L (j + 1)
      have hall := HS.out.all
      have hone := HS.out.one L[j] (List.getElem_mem _)
      have HNX : Hid (off L j + L[j].2.2 ≤ st → ∀ k, (hk : k < L.length) → k < j + 1 → off L k + L[k].2.2 ≤ st) := Lib.hid fun hle k hk hk2 => by
        by_cases e : k = j
        · subst e; exact hle
        · exact HA.out k hk (by omega)
      have HEND : Hid (st < off L j + L[j].2.2 → Kept L st j) := Lib.hid fun hgt => ⟨by omega, fun k hk => HA.out k (by omega) hk, fun _ => hgt⟩
      obtain ⟨⟨x1, x2, x3⟩, hx⟩ : ∃ x, L[j] = x := ⟨_, rfl⟩
      rw [hx] at g1 g2 hsm hso hone HNX HEND
      simp only [] at g1 g2 hsm hso hone
      obtain ⟨o1, ho1⟩ : ∃ o, off L j = o := ⟨_, rfl⟩
      obtain ⟨o2, ho2⟩ : ∃ o, off L (j + 1) = o := ⟨_, rfl⟩
      rw [ho1] at HNX HEND hso hol
      rw [ho2] at hso hol2
      rw [ho1]
      have HO1 := Lib.hid ho1
      have HO2 := Lib.hid ho2
      have hjI : (j : Int) < (n : Int) := by omega
      have hj0 : ¬ (j : Int) < 0 := by omega
      have s1 : IntKind.i64.wrap ((o1 : Int) + (x3 : Nat)) = (o1 : Int) + (x3 : Nat) := IntWalk.i64_in _ (by omega)
      have s2 : IntKind.i64.wrap ((o1 : Int) + (x2 : Nat)) = ((o1 + x2 : Nat) : Int) := by rw [IntWalk.i64_in _ (by omega)]; push_cast; rfl
      have hso2 : o1 + x2 = o2 := by omega
      clear HA g0 hx hso ho1 ho2 hjl hol hol2 hall
      by_cases hle : o1 + x3 ≤ st
      · have hleI : (o1 : Int) + (x3 : Nat) ≤ (st : Int) := by omega
        have HNX2 := Lib.hid (HNX.out (show o1 + x3 ≤ st from hle))
        clear HNX HEND
        go_wp2_with fail
        go_roundw
        case rel => exact ⟨j + 1, by go_num, by rw [HO2.out, ← hso2], by omega, HNX2, HW⟩
        case measure => simp [intOf]; omega
      · have hleI : ¬ (o1 : Int) + (x3 : Nat) ≤ (st : Int) := by omega
        have HK := Lib.hid (HEND.out (show st < o1 + x3 by omega))
        clear HNX HEND
        go_wp2_with fail
        go_ret2
        exact ⟨j, (by have e := HO1.out; subst e; rfl), HK.out, HW.out⟩
    · obtain rfl : j = n := by omega
      have hjI : ¬ (j : Int) < (j : Int) := by omega
      have HK : Hid (Kept L st j) := Lib.hid ⟨by rw [HN.out]; omega, fun k hk => HA.out k (by rw [HN.out]; omega) hk, fun h => by rw [HN.out] at h; omega⟩
      go_wp2_with fail
      go_ret2
      exact ⟨j, rfl, HK.out, HW.out⟩
end Go.Proofs.Ytemkppjdfjoipaa.I1.X
end
section
/- Package relex. -/
namespace Go.Proofs.Ytemkppjdfjoipaa.I1.X
set_option linter.unusedSimpArgs false
set_option linter.unusedVariables false
set_option maxRecDepth 100000
open Go.RowKit
/- begins. -/
abbrev bxT (b : Nat) (v : Value) (n a : Nat) : It := .box b (.cells #[v, .int .i64 (n : Nat), .int .i64 (a : Nat)] 117 (0, 0))
def BegP (B bt : Nat) (w0 : World) (X : List It) (L : List P3) (v : Value) (place n0 : Nat) (e : Ending) (w' : World) : Prop :=
  ∃ k, e = .returned (.bool (decide (off L k = place))) ∧ n0 ≤ k ∧ k ≤ L.length ∧ place ≤ off L k ∧ (∀ j, j < k → off L j < place) ∧ Sep B w0 w' (bxT bt v k (off L k) :: X)
set_option maxHeartbeats 8000000 in
theorem begins_any12 {B bt : Nat} {D : Nat → Prop} {w0 w : World} {L : List P3} {place n0 : Nat} {p : Option Addr} {c : Nat} {X : List It} (hs : Sm L) (hpl : place ≤ lens L) (hn0 : n0 ≤ L.length) (hbef : ∀ j, j < n0 → off L j < place) (hD : ∀ b, D b → b < B) (h : RW D w0 (L.map tR) (.slice p L.length c)) (hsep : Sep B w0 w (bxT bt (.slice p L.length c) n0 (off L n0) :: X)) :
    Calls Try.prog 65 #[.pointer (some ⟨bt, 0, none⟩), .int .i64 (place : Nat)] w (BegP B bt w0 X L (.slice p L.length c) place n0) := by
  have H := Lib.hid h
  have HSM := Lib.hid hs
  have HD := Lib.hid hD
  have S0 := Lib.hid hsep
  have HB0 := Lib.hid hbef
  have hall := hs.all
  have HPL := Lib.hid hpl
  have hn := hs.len
  clear h hs hD hsep hbef
  obtain ⟨n, hn1⟩ : ∃ n, L.length = n := ⟨_, rfl⟩
  have HN := Lib.hid hn1
  rw [hn1] at H hn hn0 S0 ⊢
  clear hn1
  obtain ⟨vL, hvL⟩ : ∃ v, (.slice p n c : Value) = v := ⟨_, rfl⟩
  have HVL := Lib.hid hvL
  rw [hvL] at S0 ⊢
  clear hvL
  unfold BegP
  go_enter Try.func65, Try.ntmps65
  go_wp2_with fail
  go_loopw [] (fun wr => ∃ j : Nat, n0 ≤ j ∧ j ≤ n ∧ Hid (∀ k, k < j → off L k < place) ∧ Hid (Sep B w0 wr (bxT bt vL j (off L j) :: X))) (fun wr => n - (match wr.cell? ⟨bt, 1, none⟩ with | some v => (intOf v).toNat | none => 0))
  case atStart => exact ⟨n0, by omega, hn0, HB0, S0⟩
  case round =>
    clear S0 HB0
    obtain ⟨j, hj0, hj, HA, HS⟩ := hrel
    obtain ⟨wo, rfl⟩ : ∃ wo : World, wo = wr := ⟨_, rfl⟩
    have c0 : wo.cell? ⟨bt, 0, none⟩ = some vL := HS.out.boxAt 0
    have c1 : wo.cell? ⟨bt, 1, none⟩ = some (.int .i64 (j : Nat)) := HS.out.boxAt 1
    have c2 : wo.cell? ⟨bt, 2, none⟩ = some (.int .i64 (off L j : Nat)) := HS.out.boxAt 2
    have hol := off_le L j
    by_cases hlt : off L j < place
    · have hjn : j < n := by
        by_cases e : j < n
        · exact e
        · have e2 : j = L.length := by rw [HN.out]; omega
          have e3 := off_split L j
          rw [e2, List.drop_length] at e3
          have := HPL.out
          rw [e2] at hlt
          simp only [lens] at e3
          omega
      have hjl : j < L.length := by rw [HN.out]; exact hjn
      obtain ⟨-, b, o, rfl, hb, g0, g1, g2⟩ := rw_get H.out hjl
      have g1w : wo.cell? ⟨b, o + j * 3 + 1, none⟩ = some (.int .i64 (L[j].2.1 : Nat)) := (cell_same (HS.out.bel.block b (HD.out b hb)) _).trans g1
      have hso := off_succ hjl
      have hol2 := off_le L (j + 1)
      have HA2 : Hid (∀ k, k < j + 1 → off L k < place) := Lib.hid fun k hk => by
        by_cases e : k = j
        · subst e; exact hlt
        · exact HA.out k (by omega)
      have hbt : b ≠ bt := fun e => by
        have h1 := HD.out b hb
        have h2 : B ≤ bt := (It.lt HS.out.at rfl).1
        omega
      obtain ⟨⟨x1, x2, x3⟩, hx⟩ : ∃ x, L[j] = x := ⟨_, rfl⟩
      rw [hx] at g1w hso
      simp only [] at g1w hso
      obtain ⟨o1, ho1⟩ : ∃ o, off L j = o := ⟨_, rfl⟩
      obtain ⟨o2, ho2⟩ : ∃ o, off L (j + 1) = o := ⟨_, rfl⟩
      rw [ho1] at hso hol c2 hlt
      rw [ho2] at hso hol2
      rw [ho1] at HS
      have HO1 := Lib.hid ho1
      have HO2 := Lib.hid ho2
      have hjI : (o1 : Int) < (place : Int) := by omega
      have hj0I : ¬ (j : Int) < 0 := by omega
      have hjnI : (j : Int) < (n : Int) := by omega
      have s2 : IntKind.i64.wrap ((o1 : Int) + (x2 : Nat)) = ((o2 : Nat) : Int) := by rw [IntWalk.i64_in _ (by omega), hso]; push_cast; rfl
      have hv := HVL.out
      subst hv
      clear HA g0 g1 g2 hx hso ho1 ho2 hjl hol hol2 hall HVL
      go_upto_region 2 with fail
      have CW := Lib.hid c1
      go_still_tail 18, (by kernel_rfl)
      change wpList _ _ _ _ _ wo.drew
      have d1 : wo.drew.cell? ⟨bt, 1, none⟩ = some (.int .i64 (j : Nat)) := c1
      have d2 : wo.drew.cell? ⟨bt, 2, none⟩ = some (.int .i64 (o1 : Nat)) := c2
      have df2 : wo.drew.frozen? ⟨bt, 2, none⟩ = false := HS.out.drew.fz 2
      have S1 := Lib.hid (HS.out.drew.setc 2 (.int .i64 ((o2 : Nat) : Int)))
      obtain ⟨w1, hw1⟩ : ∃ w1, wo.drew = w1 := ⟨_, rfl⟩
      rw [hw1] at d1 d2 df2 S1 ⊢
      clear hw1 c0 c1 c2 g1w HS
      go_upto_region 3 with fail
      refine at_world (fun y => Sep B w0 y (bxT bt (.slice (some ⟨b, o, none⟩) n c) j o2 :: X)) S1.out fun y hy => ?_
      have c1 : y.cell? ⟨bt, 1, none⟩ = some (.int .i64 (j : Nat)) := hy.boxAt 1
      have f1 : y.frozen? ⟨bt, 1, none⟩ = false := hy.fz 1
      have S2 := Lib.hid (hy.setc 1 (.int .i64 ((j : Int) + 1)))
      clear hy S1 d1 d2 df2
      go_wp2_with fail
      go_roundw
      case rel => exact ⟨j + 1, by omega, by omega, HA2, Lib.hid (by rw [HO2.out]; exact S2.out)⟩
      case measure =>
        have e1 := S2.out.boxAt 1
        simp only [e1, CW.out]
        have e9 : (intOf (.int .i64 ((j : Int) + 1))).toNat = j + 1 := by simp only [intOf]; omega
        have e8 : (intOf (.int .i64 (j : Int))).toNat = j := by simp only [intOf]; omega
        have e7 : n - (j + 1) < n - j := by clear CW; omega
        first | (rw [← e9] at e7; simpa [intOf] using e7) | (show n - _ < n - _; simp [intOf]; exact e7) | exact e7
    · have hjI : ¬ ((off L j : Nat) : Int) < (place : Int) := by omega
      obtain ⟨o1, ho1⟩ : ∃ o, off L j = o := ⟨_, rfl⟩
      rw [ho1] at c2 hjI hlt HS
      have HO1 := Lib.hid ho1
      clear ho1 hol
      by_cases heq : o1 = place
      · have hq : (((o1 : Nat) : Int) == (place : Int)) = true := by simp [heq]
        have HR : Hid (decide (o1 = place) = true) := Lib.hid (by simp [heq])
        clear heq
        go_wp2_with fail
        go_ret
        exact ⟨j, by rw [HO1.out, HR.out]; rfl, by omega, by rw [HN.out]; omega, by rw [HO1.out]; omega, HA.out, by rw [HO1.out]; exact HS.out⟩
      · have hq : (((o1 : Nat) : Int) == (place : Int)) = false := by simp; omega
        have HR : Hid (decide (o1 = place) = false) := Lib.hid (by simp [heq])
        clear heq
        go_wp2_with fail
        go_ret
        exact ⟨j, by rw [HO1.out, HR.out]; rfl, by omega, by rw [HN.out]; omega, by rw [HO1.out]; omega, HA.out, by rw [HO1.out]; exact HS.out⟩
end Go.Proofs.Ytemkppjdfjoipaa.I1.X
end
