/- Package grams. -/
import Derived.Test.YtpmkdpjcpimhkaaProg
import Derived.Test.YtpmkdpjcpimhkaaIh
import Derived.Deep.SlicePairs
import Derived.Deep.Slices
import Derived.Laws.IdiomArrays
import Derived.OpenShut
import Derived.WideBlind
import Derived.Great.BuildSlice
import Derived.WalkKit
import Derived.Maps.OwnSet
import Derived.Maps.OwnOps
import Derived.Maps.Own
import Derived.DeepKeys5
import Derived.BigFrame
import Derived.WalkMore
import Derived.ScopeJumps
import Derived.StillTailTactics
import Derived.Stop.BytesEq
import Derived.WalkLawsBesides
import Derived.WalkSpells
import Derived.Outline
import Derived.Lib.Walk
import Derived.Lib.Hide
import Derived.Lib.Slices
import Derived.Lib.Strings
import Derived.RegionTactic
import Derived.LoopTactic
import Derived.Below
import Derived.IntWalk
import Derived.Deep.QuietTactic
import Derived.BigQuiet
import Derived.Deep.MidRow
import Derived.Maps.AppendAt
import Derived.Laws.Rows
import Derived.Laws.Tables
import Derived.Deep.WholeRow
import Derived.Deep.Cut
import Derived.Deep.CutRange
import Derived.Lib.SliceRun
import Derived.Laws.MakeOwn
import Derived.Deep.RegionLaw
import Derived.Deep.RegionLawGrows
import Derived.Deep.RegionHeld3
import Derived.RegionCalls
import Derived.Deep.RegionWith
import Derived.Deep.Light
import Derived.Laws.CopyOwn
import Derived.Laws.ResultCell
namespace Go.Proofs.Ytpmkdpjcpimhkaa
set_option linter.unusedSimpArgs false
set_option linter.unusedVariables false
set_option maxRecDepth 100000
open Go.RowKit
/- Follow. -/
open Go.Maps
noncomputable def folL (g : Gr) (sym : Int) : List Int := if askV g sym 0 = 0 then mW (wd fun k => Fol g sym k) 64 else []
set_option maxHeartbeats 8000000 in
theorem follow_any {D : Nat → Prop} {w : World} {g : Gr} {p : Option Addr} {c : Nat} (sym : Int) (hg : GM D w g.ps p) (hc : g.ps.length ≤ c) :
    Calls Try.prog 24 #[.agg #[.int .i64 g.t, .int .i64 g.s, .int .i64 g.st, .slice p g.ps.length c], .int .i64 sym] w (NumP w (askV g sym 0) (folL g sym)) := by
  have hw0 := (Below.refl w.heap.size w).alloc (Nat.le_refl _) (.cells (gC g p c) 24)
  obtain ⟨k0, k1, k2, k3⟩ := gC_at (GB.new (w := w) (g := g) (p := p) (c := c))
  have hlt : w.heap.size < (w.alloc (.cells (gC g p c) 24)).heap.size := by simp
  have HC := Lib.hid (asked_any (c := c) sym 0 (hg.up hw0) hc)
  have HW := Lib.hid hw0
  have hok : askV g sym 0 = 0 → GrOk g ∧ 0 ≤ sym ∧ sym < 64 := fun h => by
    unfold askV at h
    split at h
    · rename_i h2; exact absurd h h2
    · rename_i h2
      have h3 := (chk_ok g).1 (Classical.not_not.1 h2)
      have h4 := h3.nm.s2
      split at h
      · exact ⟨h3, by omega, by omega⟩
      · simp at h
  have HOK := Lib.hid hok
  have HG := Lib.hid hg
  have hR : folL g sym = if askV g sym 0 = 0 then mW (wd fun k => Fol g sym k) 64 else [] := rfl
  obtain ⟨R, hRR⟩ : ∃ R, folL g sym = R := ⟨_, rfl⟩
  rw [hRR] at hR ⊢
  have HR := Lib.hid hR
  obtain ⟨b, hb⟩ : ∃ b, w.heap.size = b := ⟨_, rfl⟩
  rw [hb] at k0 k1 k2 k3 hlt
  have HU := Lib.hid (hg.up hw0)
  obtain ⟨Y, hY⟩ : ∃ Y, w.alloc (.cells (gC g p c) 24) = Y := ⟨_, rfl⟩
  rw [hY] at k0 k1 k2 k3 HC HW hlt HU
  have K0 := Lib.hid k0
  have K1 := Lib.hid k1
  have K2 := Lib.hid k2
  have K3 := Lib.hid k3
  have HLT := Lib.hid hlt
  unfold gC at hY
  generalize askV g sym 0 = ck at HC HR HOK ⊢
  clear hR hRR hw0 hlt hg hc hok
  go_enter Try.func24, Try.ntmps24
  go_upto_region 1 with fail
  refine at_world (fun v => v = Y) (by first | exact hY | rfl) fun y hy => ?_
  subst hy
  clear hY hb
  go_wp2_with fail
  refine HC.out.mono ?_
  rintro _ w1 ⟨rfl, hb1⟩
  have HB1 := Lib.hid hb1
  have HB := Lib.hid (HW.out.trans (hb1.mono HW.out.size))
  have j0 := cell_up K0.out hb1 HLT.out
  have j1 := cell_up K1.out hb1 HLT.out
  have j2 := cell_up K2.out hb1 HLT.out
  have j3 := cell_up K3.out hb1 HLT.out
  clear hb1 k0 k1 k2 k3 HC
  by_cases h0 : ck = 0
  · subst h0
    obtain ⟨hGr, hs1, hs2⟩ := HOK.out rfl
    obtain ⟨sn, rfl⟩ : ∃ n : Nat, (n : Int) = sym := ⟨sym.toNat, by omega⟩
    have hR2 : R = mW (wd fun k => Fol g (sn : Int) k) 64 := HR.out.trans (if_pos rfl)
    have HBG := Lib.hid (follows_any (c := c) (HU.out.up HB1.out) hGr.nm hGr.ne hGr.lg)
    have hix := fun x => run_index_T (tbW (fun s x => Fol g s x)) (k := sn) (tbW_len _) (by omega) x
    rw [tbW_get _ (by omega : sn < 64)] at hix
    have HWL := Lib.hid (wd_lt fun k => Fol g (sn : Int) k)
    have HM := Lib.hid (fun w => members_any HWL.out w)
    rw [← hR2] at HM
    generalize (wd fun k => Fol g (sn : Int) k) = W1 at hix HM HWL
    generalize tbW (fun s x => Fol g s x) = T1 at hix HBG
    clear hR2 HR HOK hGr
    go_wp2_with fail
    refine HBG.out.mono ?_
    rintro _ w2 ⟨rfl, hb2⟩
    have HB2 := Lib.hid (HB.out.trans (hb2.mono HB.out.size))
    clear hb2 j0 j1 j2 j3 HBG
    go_wp2_with fail
    refine (HM.out w2).mono ?_
    rintro _ w3 ⟨v, rfl, hown, hb3⟩
    have HF := Lib.hid (⟨v, rfl, row_base hown HB2.out.size, HB2.out.trans (hb3.mono HB2.out.size)⟩ : NumP w 0 R (.returned (.tuple #[v, .int .i64 0])) w3)
    clear hown hb3
    go_wp2_with fail
    refine bodyPost_ret (v := .tuple #[v, .int .i64 0]) (by simp [results, Try.results24, go_sem]) rfl ?_
    exact HF.out
  · have hR2 : R = [] := HR.out.trans (if_neg h0)
    subst hR2
    have h0I : (ck != 0) = true := by rw [bne_iff_ne]; exact h0
    clear h0 HR HOK j0 j1 j2 j3
    go_wp2_with fail
    refine bodyPost_ret (v := .tuple #[.slice none 0 0, .int .i64 ck]) (by simp [results, Try.results24, go_sem]) rfl ?_
    exact ⟨_, rfl, ⟨rfl, .inl ⟨rfl, rfl⟩⟩, HB.out⟩
end Go.Proofs.Ytpmkdpjcpimhkaa
