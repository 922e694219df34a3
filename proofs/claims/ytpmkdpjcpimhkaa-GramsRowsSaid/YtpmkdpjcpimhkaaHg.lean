/- Package grams. -/
import Derived.Test.YtpmkdpjcpimhkaaProg
import Derived.Test.YtpmkdpjcpimhkaaHf
import Derived.Deep.SlicePairs
import Derived.Deep.Slices
import Derived.Laws.IdiomArrays
import Derived.OpenShut
import Derived.WideBlind
import Derived.Great.BuildSlice
import Derived.WalkKit
import Derived.Maps.OwnSet
import Derived.Maps.OwnOps
import Derived.Maps.Own
import Derived.DeepKeys5
import Derived.BigFrame
import Derived.WalkMore
import Derived.ScopeJumps
import Derived.StillTailTactics
import Derived.Stop.BytesEq
import Derived.WalkLawsBesides
import Derived.WalkSpells
import Derived.Outline
import Derived.Lib.Walk
import Derived.Lib.Hide
import Derived.Lib.Slices
import Derived.Lib.Strings
import Derived.RegionTactic
import Derived.LoopTactic
import Derived.Below
import Derived.IntWalk
import Derived.Deep.QuietTactic
import Derived.BigQuiet
import Derived.Deep.MidRow
import Derived.Maps.AppendAt
import Derived.Laws.Rows
import Derived.Laws.Tables
import Derived.Deep.WholeRow
import Derived.Deep.Cut
import Derived.Deep.CutRange
import Derived.Lib.SliceRun
import Derived.Laws.MakeOwn
import Derived.Deep.RegionLaw
import Derived.Deep.RegionLawGrows
import Derived.Deep.RegionHeld3
import Derived.RegionCalls
import Derived.Deep.RegionWith
import Derived.Deep.Light
import Derived.Laws.CopyOwn
import Derived.Laws.ResultCell
namespace Go.Proofs.Ytpmkdpjcpimhkaa
set_option linter.unusedSimpArgs false
set_option linter.unusedVariables false
set_option maxRecDepth 100000
open Go.RowKit
/- hasTwins. -/
noncomputable def twB (l : List Pr) : Bool := @decide (Twins l) (Classical.propDecidable _)
theorem twB_f {l : List Pr} (h : ¬ Twins l) : twB l = false := @decide_eq_false _ (Classical.propDecidable _) h
theorem twB_t {l : List Pr} (h : Twins l) : twB l = true := @decide_eq_true _ (Classical.propDecidable _) h
def smP (p q : Pr) : Bool := decide (p.hd = q.hd) && decide (p.bd = q.bd)
theorem smP_iff (p q : Pr) : smP p q = true ↔ p.hd = q.hd ∧ p.bd = q.bd := by simp [smP]
theorem tw_step {l : List Pr} {j : Nat} (h : j < l.length) (ht : ¬ Twins (l.take j)) (hn : ((l.take j).any fun q => smP l[j] q) = false) : ¬ Twins (l.take (j + 1)) := by
  unfold Twins at *
  rw [Classical.not_not] at *
  rw [List.take_add_one, List.getElem?_eq_getElem h]
  refine List.pairwise_append.2 ⟨ht, by simp, fun a ha b hb => ?_⟩
  have hb : b = l[j] := by simpa using hb
  subst hb
  intro e
  rw [List.any_eq_false] at hn
  exact hn a ha ((smP_iff _ _).2 ⟨e.1.symm, e.2.symm⟩)
theorem tw_yes {l : List Pr} {j : Nat} (h : j < l.length) (hy : ((l.take j).any fun q => smP l[j] q) = true) : Twins l := by
  obtain ⟨q, hq, hs⟩ := List.any_eq_true.1 hy
  obtain ⟨i, hi, rfl⟩ := List.getElem_of_mem hq
  rw [List.getElem_take] at hs
  have hi2 : i < j := by rw [List.length_take] at hi; omega
  intro hp
  have := List.pairwise_iff_getElem.1 hp i j (by omega) h hi2
  have h2 := (smP_iff _ _).1 hs
  exact this ⟨h2.1.symm, h2.2.symm⟩
set_option maxHeartbeats 8000000 in
theorem twins_any {D : Nat → Prop} {w : World} {l : List Pr} {p : Option Addr} {c : Nat} (hg : GM D w l p) (hc : l.length ≤ c) :
    Calls Try.prog 29 #[.slice p l.length c] w fun e w' => e = .returned (.bool (twB l)) ∧ Below w.heap.size w w' := by
  have HG := Lib.hid hg
  have hnl := hg.nl
  have hz := zero38
  have hmf : ∀ (fn : Fn) (first cap : Array Value) (w : World), (Instr.makeFunc fn first cap).run Try.prog w = .ok (.func fn first cap) w := fun _ _ _ _ => rfl
  have HB0 := Lib.hid (Below.refl w.heap.size w)
  obtain ⟨R, hR⟩ : ∃ R, twB l = R := ⟨_, rfl⟩
  have HR := Lib.hid hR
  rw [hR]
  clear hR hg
  go_enter Try.func29, Try.ntmps29
  go_wp2_with fail
  go_loopw [7] (fun i wr => ∃ j : Nat, i = .int .i64 (j : Nat) ∧ j ≤ l.length ∧ Hid (¬ Twins (l.take j)) ∧ Hid (Below w.heap.size w wr)) (fun i _ => l.length - (intOf i).toNat)
  case atStart => exact ⟨0, rfl, by omega, Lib.hid (by simp [Twins]), HB0⟩
  case round =>
  clear HB0
  obtain ⟨j, rfl, hj, HA, HB⟩ := hrel
  obtain ⟨wo, rfl⟩ : ∃ wo : World, wo = wr := ⟨_, rfl⟩
  have hsz := HB.out.size
  by_cases hlt : j < l.length
  · have hltI : (j : Int) < (l.length : Int) := by omega
    have hjI : ¬ (j : Int) < 0 := by omega
    have hjc : ¬ (c : Int) < (j : Int) := by omega
    have hjc2 : (j : Int) ≤ (c : Int) := by omega
    have hj0 : (0 : Int) ≤ (j : Int) := by omega
    have hGw := HG.out.up HB.out
    obtain ⟨bb, o, q, d, rfl, hbb, c0, c1, c2, hiv, hbdl, hmem⟩ := hGw.at hlt
    have HGT := hGw.take j
    have htl : (l.take j).length = j := by rw [List.length_take]; omega
    have hst := tw_step hlt HA.out
    have hys := tw_yes hlt
    obtain ⟨x, hxx⟩ : ∃ x, l[j] = x := ⟨_, rfl⟩
    rw [hxx] at c0 c1 c2 hst hys hiv hbdl hmem
    obtain ⟨d0, d1, d2⟩ := box_cells wo (.int .i64 x.hd) (.slice q x.bd.length d) (.bool x.rt) 38
    have hwb := (Below.refl wo.heap.size wo).alloc (Nat.le_refl _) (.cells #[.int .i64 x.hd, .slice q x.bd.length d, .bool x.rt] 38)
    have HB2 := Lib.hid (HB.out.trans (hwb.mono hsz))
    have hsz2 : (wo.alloc (.cells #[.int .i64 x.hd, .slice q x.bd.length d, .bool x.rt] 38)).heap.size = wo.heap.size + 1 := by simp
    have HC := Lib.hid (contains30_57 (c := c) (b := wo.heap.size) (f := fun q => smP x q) (HGT.up hwb) (fun z y a e hz hy hyv => by
      refine (clo57 (D := D) (fun b hb => ?_) (cell_up d0 hz (by rw [hsz2]; omega)) (cell_up d1 hz (by rw [hsz2]; omega)) ((hiv.mono (fun _ h => h) (fun b _ h => hwb.block b h)).mono (fun _ h => h) (fun b _ h => hz.block b h)) hyv hbdl)
      have h1 := hGw.lt b hb
      have h2 := hz.size
      omega))
    rw [htl] at HC
    obtain ⟨o2, ho2⟩ : ∃ o, ((l.take j).any fun q => smP x q) = o := ⟨_, rfl⟩
    rw [ho2] at HC hst hys
    have HST := Lib.hid hst
    have HYS := Lib.hid hys
    generalize x.hd = hd at c0 d0 HB2 HC hsz2 ⊢
    generalize x.bd.length = n at c1 d1 HB2 HC hsz2 ⊢
    generalize x.rt = rt at c2 d2 HB2 HC hsz2 ⊢
    clear hiv hbdl hmem ho2 hst hys hwb HA hxx HGT hGw hsz2 htl
    go_wp2_with fail
    refine HC.out.mono ?_
    rintro _ w1 ⟨rfl, hb1⟩
    have HB3 := Lib.hid (HB2.out.trans (hb1.mono HB2.out.size))
    clear hb1 HB2 HC
    cases o2 with
    | true =>
      have hR : R = true := by rw [← HR.out]; exact twB_t (HYS.out (by trivial))
      subst hR
      go_wp2_with fail
      go_ret
      exact ⟨rfl, HB3.out⟩
    | false =>
      go_wp2_with fail
      go_roundw
      case rel => exact ⟨j + 1, by go_num, by omega, Lib.hid (HST.out (by trivial)), HB3⟩
      case measure => simp [intOf]; omega
  · obtain rfl : j = l.length := by omega
    have hltI : ¬ (l.length : Int) < (l.length : Int) := by omega
    have hA := HA.out
    rw [List.take_length] at hA
    have hR : R = false := by rw [← HR.out]; exact twB_f hA
    subst hR
    clear hA hlt
    go_wp2_with fail
    go_ret
    exact ⟨rfl, HB.out⟩
end Go.Proofs.Ytpmkdpjcpimhkaa
