/- Package grams. -/
import Derived.Test.YtpmkdpjcpimhkaaProg
import Derived.Test.YtpmkdpjcpimhkaaIf
import Derived.Deep.SlicePairs
import Derived.Deep.Slices
import Derived.Laws.IdiomArrays
import Derived.OpenShut
import Derived.WideBlind
import Derived.Great.BuildSlice
import Derived.WalkKit
import Derived.Maps.OwnSet
import Derived.Maps.OwnOps
import Derived.Maps.Own
import Derived.DeepKeys5
import Derived.BigFrame
import Derived.WalkMore
import Derived.ScopeJumps
import Derived.StillTailTactics
import Derived.Stop.BytesEq
import Derived.WalkLawsBesides
import Derived.WalkSpells
import Derived.Outline
import Derived.Lib.Walk
import Derived.Lib.Hide
import Derived.Lib.Slices
import Derived.Lib.Strings
import Derived.RegionTactic
import Derived.LoopTactic
import Derived.Below
import Derived.IntWalk
import Derived.Deep.QuietTactic
import Derived.BigQuiet
import Derived.Deep.MidRow
import Derived.Maps.AppendAt
import Derived.Laws.Rows
import Derived.Laws.Tables
import Derived.Deep.WholeRow
import Derived.Deep.Cut
import Derived.Deep.CutRange
import Derived.Lib.SliceRun
import Derived.Laws.MakeOwn
import Derived.Deep.RegionLaw
import Derived.Deep.RegionLawGrows
import Derived.Deep.RegionHeld3
import Derived.RegionCalls
import Derived.Deep.RegionWith
import Derived.Deep.Light
import Derived.Laws.CopyOwn
import Derived.Laws.ResultCell
namespace Go.Proofs.Ytpmkdpjcpimhkaa
set_option linter.unusedSimpArgs false
set_option linter.unusedVariables false
set_option maxRecDepth 100000
open Go.RowKit
/- asked, Of, First. -/
open Go.Maps
noncomputable def askV (g : Gr) (sym from_ : Int) : Int := if chk g ≠ 0 then chk g else if from_ ≤ sym ∧ sym < g.s then 0 else 2
set_option maxHeartbeats 4000000 in
theorem asked_any {D : Nat → Prop} {w : World} {g : Gr} {p : Option Addr} {c : Nat} (sym fr : Int) (hg : GM D w g.ps p) (hc : g.ps.length ≤ c) :
    Calls Try.prog 45 #[.agg #[.int .i64 g.t, .int .i64 g.s, .int .i64 g.st, .slice p g.ps.length c], .int .i64 sym, .int .i64 fr] w fun e w' => e = .returned (.int .i64 (askV g sym fr)) ∧ Below w.heap.size w w' := by
  have hw0 := (Below.refl w.heap.size w).alloc (Nat.le_refl _) (.cells (gC g p c) 24)
  obtain ⟨k0, k1, k2, k3⟩ := gC_at (GB.new (w := w) (g := g) (p := p) (c := c))
  have hlt : w.heap.size < (w.alloc (.cells (gC g p c) 24)).heap.size := by simp
  have HC := Lib.hid (check_any (c := c) (hg.up hw0) hc)
  have HI := Lib.hid isFrom_any
  have hnot : ∀ (x : Bool) (w : World), (Op.unary .not (.bool x)).run Try.prog w = .ok (.bool (!x)) w := fun _ _ => rfl
  have HW := Lib.hid hw0
  have hA : askV g sym fr = if chk g ≠ 0 then chk g else if fr ≤ sym ∧ sym < g.s then 0 else 2 := rfl
  obtain ⟨R, hR⟩ : ∃ R, askV g sym fr = R := ⟨_, rfl⟩
  rw [hR] at hA ⊢
  have HA := Lib.hid hA
  obtain ⟨b, hb⟩ : ∃ b, w.heap.size = b := ⟨_, rfl⟩
  rw [hb] at k0 k1 k2 k3 hlt
  obtain ⟨Y, hY⟩ : ∃ Y, w.alloc (.cells (gC g p c) 24) = Y := ⟨_, rfl⟩
  rw [hY] at k0 k1 k2 k3 HC HW hlt
  have K1 := Lib.hid k1
  have HLT := Lib.hid hlt
  unfold gC at hY
  generalize chk g = ck at HC HA
  generalize g.ps.length = n at *
  generalize g.t = t at *
  generalize g.s = s at *
  generalize g.st = st at *
  clear hA hR hw0 hlt hg hc
  go_enter Try.func45, Try.ntmps45
  go_upto_region 1 with fail
  refine at_world (fun v => v = Y) (by first | exact hY | rfl) fun y hy => ?_
  subst hy
  clear hY hb
  go_wp2_with fail
  refine HC.out.mono ?_
  rintro _ w1 ⟨rfl, hb1⟩
  have HB := Lib.hid (HW.out.trans (hb1.mono HW.out.size))
  have j1 := cell_up K1.out hb1 HLT.out
  clear hb1 k0 k1 k2 k3 HC
  by_cases h0 : ck = 0
  · subst h0
    have hA2 : R = if fr ≤ sym ∧ sym < s then 0 else 2 := HA.out.trans (if_neg (by simp))
    have HA2 := Lib.hid hA2
    clear hA2 HA
    go_wp2_with fail
    refine (HI.out _ _ _ _).mono ?_
    rintro _ w2 ⟨rfl, rfl⟩
    by_cases h1 : fr ≤ sym ∧ sym < s
    · have e1 : (decide (fr ≤ sym) && decide (sym < s)) = true := by simp [h1]
      rw [e1]
      have hR : R = 0 := HA2.out.trans (if_pos h1)
      subst hR
      clear e1 h1
      go_wp2_with fail
      go_ret
      exact ⟨rfl, HB.out⟩
    · have e1 : (decide (fr ≤ sym) && decide (sym < s)) = false := by rw [Bool.and_eq_false_iff, decide_eq_false_iff_not, decide_eq_false_iff_not]; omega
      rw [e1]
      have hR : R = 2 := HA2.out.trans (if_neg h1)
      subst hR
      clear e1 h1
      go_wp2_with fail
      go_ret
      exact ⟨rfl, HB.out⟩
  · have hR : R = ck := HA.out.trans (if_pos h0)
    subst hR
    have h0I : (R != 0) = true := by rw [bne_iff_ne]; exact h0
    clear h0 HA
    go_wp2_with fail
    go_ret
    exact ⟨rfl, HB.out⟩
/-- Where a head's productions stand. -/
def idK (h : Int) (l : List Pr) : Nat → List Int
  | 0 => []
  | k + 1 => if (l[k]?.map fun p => p.hd) = some h then idK h l k ++ [(k : Int)] else idK h l k
theorem idK_len (h : Int) (l : List Pr) : ∀ k, (idK h l k).length ≤ k
  | 0 => Nat.le_refl _
  | k + 1 => by
    have := idK_len h l k
    rw [idK]
    split
    · rw [List.length_append, List.length_singleton]; omega
    · omega
/-- What comes of a call that tells numbers: a list of one's own, and whether. -/
def NumP (w : World) (E : Int) (L : List Int) (e : Ending) (w' : World) : Prop := ∃ v, e = .returned (.tuple #[v, .int .i64 E]) ∧ w'.ownsRow w.heap.size 3 1 v L.length (zi L) ∧ Below w.heap.size w w'
noncomputable def ofL (g : Gr) (h : Int) : List Int := if askV g h g.t = 0 then idK h g.ps g.ps.length else []
set_option maxHeartbeats 8000000 in
theorem of18_any {D : Nat → Prop} {w : World} {g : Gr} {p : Option Addr} {c : Nat} (sym : Int) (hg : GM D w g.ps p) (hc : g.ps.length ≤ c) :
    Calls Try.prog 18 #[.agg #[.int .i64 g.t, .int .i64 g.s, .int .i64 g.st, .slice p g.ps.length c], .int .i64 sym] w (NumP w (askV g sym g.t) (ofL g sym)) := by
  obtain ⟨i0, hi, hz0, hz1, hz2⟩ := info_parts info3b
  have hz := zero38
  have hw0 := (Below.refl w.heap.size w).alloc (Nat.le_refl _) (.cells (gC g p c) 24)
  obtain ⟨k0, k1, k2, k3⟩ := gC_at (GB.new (w := w) (g := g) (p := p) (c := c))
  have hlt : w.heap.size < (w.alloc (.cells (gC g p c) 24)).heap.size := by simp
  have HC := Lib.hid (asked_any (c := c) sym g.t (hg.up hw0) hc)
  have HW := Lib.hid hw0
  have hnl : askV g sym g.t = 0 → g.ps.length ≤ 64 := fun h => by
    unfold askV at h
    split at h
    · rename_i h2; exact absurd h h2
    · rename_i h2
      exact ((chk_ok g).1 (Classical.not_not.1 h2)).nm.n2
  have HNL := Lib.hid hnl
  have HG := Lib.hid hg
  have hR : ofL g sym = if askV g sym g.t = 0 then idK sym g.ps g.ps.length else [] := rfl
  obtain ⟨R, hRR⟩ : ∃ R, ofL g sym = R := ⟨_, rfl⟩
  rw [hRR] at hR ⊢
  have HR := Lib.hid hR
  obtain ⟨b, hb⟩ : ∃ b, w.heap.size = b := ⟨_, rfl⟩
  have HBE := Lib.hid hb
  rw [hb] at k0 k1 k2 k3 hlt
  obtain ⟨Y, hY⟩ : ∃ Y, w.alloc (.cells (gC g p c) 24) = Y := ⟨_, rfl⟩
  rw [hY] at k0 k1 k2 k3 HC HW hlt
  have K3 := Lib.hid k3
  have HLT := Lib.hid hlt
  unfold gC at hY
  generalize askV g sym g.t = ck at HC HR HNL ⊢
  obtain ⟨l, hl⟩ : ∃ l, g.ps = l := ⟨_, rfl⟩
  rw [hl] at HG HC HR HNL K3 k3 hY hc ⊢
  generalize g.t = t at *
  generalize g.s = s at *
  generalize g.st = st at *
  have HCC := Lib.hid hc
  clear hR hRR hw0 hlt hg hc hnl hl
  go_enter Try.func18, Try.ntmps18
  go_upto_region 1 with fail
  refine at_world (fun v => v = Y) (by first | exact hY | rfl) fun y hy => ?_
  subst hy
  clear hY hb
  go_wp2_with fail
  refine HC.out.mono ?_
  rintro _ w1 ⟨rfl, hb1⟩
  have HB := Lib.hid (HW.out.trans (hb1.mono HW.out.size))
  have j3 := cell_up K3.out hb1 HLT.out
  clear hb1 k0 k1 k2 k3 HC
  by_cases h0 : ck = 0
  · subst h0
    have hR2 : R = idK sym l l.length := HR.out.trans (if_pos rfl)
    subst hR2
    have hnl := HNL.out rfl
    clear HR HNL
    go_upto_region 6 with fail
    clear j3
    go_loopw [7, 21] (fun v i wr => ∃ (k : Nat), i = .int .i64 (k : Nat) ∧ k ≤ l.length ∧ Hid (wr.ownsRow w.heap.size 3 1 v (idK sym l k).length (zi (idK sym l k))) ∧ Hid (Below w.heap.size w wr)) (fun _ i _ => l.length - (intOf i).toNat)
    case atStart => exact ⟨0, rfl, by omega, Lib.hid ⟨rfl, .inl ⟨rfl, rfl⟩⟩, HB⟩
    case round =>
    clear HB
    obtain ⟨k, rfl, hk, HO, HB⟩ := hrel
    obtain ⟨wo, rfl⟩ : ∃ wo : World, wo = wr := ⟨_, rfl⟩
    obtain ⟨pv, cv, hv⟩ := rowF_ HO.out
    subst hv
    by_cases hlt : k < l.length
    · have hltI : (k : Int) < (l.length : Int) := by omega
      have hkI : ¬ (k : Int) < 0 := by omega
      obtain ⟨bb, o, q, d, rfl, hbb, c0, c1, c2, hiv, hbdl, hmem⟩ := (HG.out.up HB.out).at hlt
      have hst : idK sym l (k + 1) = if l[k].hd = sym then idK sym l k ++ [(k : Int)] else idK sym l k := by
        rw [idK]
        simp only [List.getElem?_eq_getElem hlt, Option.map_some, Option.some.injEq]
      have hle := idK_len sym l k
      obtain ⟨x, hxx⟩ : ∃ x, l[k] = x := ⟨_, rfl⟩
      rw [hxx] at c0 c1 c2 hst
      have hsz := HB.out.size
      obtain ⟨d0, d1, d2⟩ := box_cells wo (.int .i64 x.hd) (.slice q x.bd.length d) (.bool x.rt) 38
      have hwb := (Below.refl wo.heap.size wo).alloc (Nat.le_refl _) (.cells #[.int .i64 x.hd, .slice q x.bd.length d, .bool x.rt] 38)
      have HB2 := Lib.hid (HB.out.trans (hwb.mono hsz))
      have HO1 := Lib.hid (World.ownsRow.alloc HO.out (.cells #[.int .i64 x.hd, .slice q x.bd.length d, .bool x.rt] 38))
      obtain ⟨L, hL⟩ : ∃ L, idK sym l k = L := ⟨_, rfl⟩
      rw [hL] at HO HO1 hle hst ⊢
      generalize x.hd = hd at c0 d0 d1 d2 HB2 HO1 hst
      generalize x.bd.length = n at c1 d0 d1 d2 HB2 HO1
      generalize x.rt = rt at c2 d0 d1 d2 HB2 HO1
      clear hiv hbdl hmem hxx hwb hL
      obtain ⟨n9, hn9⟩ : ∃ n, L.length = n := ⟨_, rfl⟩
      have HN9 := Lib.hid hn9
      rw [hn9] at HO HO1 hle ⊢
      clear hn9 HO
      by_cases he : hd = sym
      · rw [if_pos he] at hst
        have HST := Lib.hid hst
        have heI : (hd == sym) = true := by simp [he]
        clear hst he
        obtain ⟨W, hW⟩ : ∃ W, wo.alloc (.cells #[.int .i64 hd, .slice q n d, .bool rt] 38) = W := ⟨_, rfl⟩
        simp only [hW] at d0 d1 d2 HB2 HO1
        go_upto_region 8 with fail
        refine at_world (fun v => v = W) (by first | exact hW | rfl) fun y2 hy2 => ?_
        subst hy2
        clear hW
        have HO2 := Lib.hid (World.ownsRow.alloc HO1.out (.cells #[.int .i64 (k : Nat)] 3))
        have HSZ2 : Hid ((y2.alloc (.cells #[.int .i64 (k : Nat)] 3)).heap.size = y2.heap.size + 1) := Lib.hid (by simp)
        have HSW := Lib.hid HB2.out.size
        have HB3 := Lib.hid (HB2.out.alloc HSW.out (.cells #[.int .i64 (k : Nat)] 3))
        go_wp2_with (at_builtin; refine wpList_append_own_at _ rfl (.tmp 30) (.tmp 32) 31 rfl w.heap.size 3 i0 (.int .i64 0) 1 8 Try.underlying31 hi hz0 hz1 hz2 rfl (by decide) _ n9 (zi L) rfl ?c0 ⟨y2.heap.size, 0, none⟩ 1 1 [.int .i64 (k : Nat)] rfl rfl ?c1 ?c2 ?c3 ?c4 ?c5 ?_)
        case c0 => exact HO2.out
        case c2 => simp [Value.oneCell']
        case c3 => unfold maxLen; omega
        case c4 => omega
        case c5 => have := HSW.out; have := HSZ2.out; omega
        intro v2 w2 hown2 hg2 _ _
        have HOE : Hid (w2.ownsRow w.heap.size 3 1 v2 (idK sym l (k + 1)).length (zi (idK sym l (k + 1)))) := Lib.hid (by
          rw [HST.out, zi_app, List.length_append, HN9.out]; exact hown2)
        have HBE2 : Hid (Below w.heap.size w w2) := Lib.hid (below_grown HB3.out hg2 (fun g hg => (World.ownsRow.lt HO2.out g hg).1) (by have := HSW.out; have := HSZ2.out; omega))
        clear hown2 hg2 HO2 HSZ2 HB3 HSW HO1 HB2 HB
        go_wp2_with fail
        go_roundw
        case rel => exact ⟨k + 1, by go_num, by omega, HOE, HBE2⟩
        case measure => simp [intOf]; omega
      · rw [if_neg he] at hst
        have heI : (hd == sym) = false := by simp [he]
        have HOE : Hid ((wo.alloc (.cells #[.int .i64 hd, .slice q n d, .bool rt] 38)).ownsRow w.heap.size 3 1 (.slice pv n9 cv) (idK sym l (k + 1)).length (zi (idK sym l (k + 1)))) := Lib.hid (by
          rw [hst, HN9.out]; exact HO1.out)
        clear hst he HO1
        go_wp2_with fail
        go_roundw
        case rel => exact ⟨k + 1, by go_num, by omega, HOE, HB2⟩
        case measure => simp [intOf]; omega
    · obtain rfl : k = l.length := by omega
      have hltI : ¬ (l.length : Int) < (l.length : Int) := by omega
      obtain ⟨LL, hLL⟩ : ∃ L, idK sym l l.length = L := ⟨_, rfl⟩
      rw [hLL] at HO ⊢
      obtain ⟨n9, hn9⟩ : ∃ n, LL.length = n := ⟨_, rfl⟩
      have HO2 : Hid (NumP w 0 LL (.returned (.tuple #[.slice pv n9 cv, .int .i64 0])) wo) := Lib.hid (by rw [← hn9]; exact ⟨_, rfl, HO.out, HB.out⟩)
      rw [hn9]
      have HLL := Lib.hid hLL
      clear hLL
      clear hlt HO HB hn9
      go_wp2_with fail
      refine bodyPost_ret (v := .tuple #[.slice pv n9 cv, .int .i64 0]) (by simp [results, Try.results18, go_sem]) rfl ?_
      rw [HLL.out]
      exact HO2.out
  · have hR2 : R = [] := HR.out.trans (if_neg h0)
    subst hR2
    have h0I : (ck != 0) = true := by rw [bne_iff_ne]; exact h0
    clear h0 HR HNL j3
    go_wp2_with fail
    refine bodyPost_ret (v := .tuple #[.slice none 0 0, .int .i64 ck]) (by simp [results, Try.results18, go_sem]) rfl ?_
    exact ⟨_, rfl, ⟨rfl, .inl ⟨rfl, rfl⟩⟩, HB.out⟩
noncomputable def firL (g : Gr) (sym : Int) : List Int := if askV g sym 0 = 0 then mW (wd fun k => Beg g sym k) 64 else []
set_option maxHeartbeats 8000000 in
theorem first_any {D : Nat → Prop} {w : World} {g : Gr} {p : Option Addr} {c : Nat} (sym : Int) (hg : GM D w g.ps p) (hc : g.ps.length ≤ c) :
    Calls Try.prog 22 #[.agg #[.int .i64 g.t, .int .i64 g.s, .int .i64 g.st, .slice p g.ps.length c], .int .i64 sym] w (NumP w (askV g sym 0) (firL g sym)) := by
  have hw0 := (Below.refl w.heap.size w).alloc (Nat.le_refl _) (.cells (gC g p c) 24)
  obtain ⟨k0, k1, k2, k3⟩ := gC_at (GB.new (w := w) (g := g) (p := p) (c := c))
  have hlt : w.heap.size < (w.alloc (.cells (gC g p c) 24)).heap.size := by simp
  have HC := Lib.hid (asked_any (c := c) sym 0 (hg.up hw0) hc)
  have HW := Lib.hid hw0
  have hok : askV g sym 0 = 0 → GrOk g ∧ 0 ≤ sym ∧ sym < 64 := fun h => by
    unfold askV at h
    split at h
    · rename_i h2; exact absurd h h2
    · rename_i h2
      have h3 := (chk_ok g).1 (Classical.not_not.1 h2)
      have h4 := h3.nm.s2
      split at h
      · exact ⟨h3, by omega, by omega⟩
      · simp at h
  have HOK := Lib.hid hok
  have HG := Lib.hid hg
  have hR : firL g sym = if askV g sym 0 = 0 then mW (wd fun k => Beg g sym k) 64 else [] := rfl
  obtain ⟨R, hRR⟩ : ∃ R, firL g sym = R := ⟨_, rfl⟩
  rw [hRR] at hR ⊢
  have HR := Lib.hid hR
  obtain ⟨b, hb⟩ : ∃ b, w.heap.size = b := ⟨_, rfl⟩
  rw [hb] at k0 k1 k2 k3 hlt
  have HU := Lib.hid (hg.up hw0)
  obtain ⟨Y, hY⟩ : ∃ Y, w.alloc (.cells (gC g p c) 24) = Y := ⟨_, rfl⟩
  rw [hY] at k0 k1 k2 k3 HC HW hlt HU
  have K0 := Lib.hid k0
  have K1 := Lib.hid k1
  have K2 := Lib.hid k2
  have K3 := Lib.hid k3
  have HLT := Lib.hid hlt
  unfold gC at hY
  generalize askV g sym 0 = ck at HC HR HOK ⊢
  clear hR hRR hw0 hlt hg hc hok
  go_enter Try.func22, Try.ntmps22
  go_upto_region 1 with fail
  refine at_world (fun v => v = Y) (by first | exact hY | rfl) fun y hy => ?_
  subst hy
  clear hY hb
  go_wp2_with fail
  refine HC.out.mono ?_
  rintro _ w1 ⟨rfl, hb1⟩
  have HB1 := Lib.hid hb1
  have HB := Lib.hid (HW.out.trans (hb1.mono HW.out.size))
  have j0 := cell_up K0.out hb1 HLT.out
  have j1 := cell_up K1.out hb1 HLT.out
  have j2 := cell_up K2.out hb1 HLT.out
  have j3 := cell_up K3.out hb1 HLT.out
  clear hb1 k0 k1 k2 k3 HC
  by_cases h0 : ck = 0
  · subst h0
    obtain ⟨hGr, hs1, hs2⟩ := HOK.out rfl
    obtain ⟨sn, rfl⟩ : ∃ n : Nat, (n : Int) = sym := ⟨sym.toNat, by omega⟩
    have hR2 : R = mW (wd fun k => Beg g (sn : Int) k) 64 := HR.out.trans (if_pos rfl)
    have HBG := Lib.hid (begins_any (c := c) (HU.out.up HB1.out) hGr.nm hGr.ne)
    have hix := fun x => run_index_T (tbW (fun s x => Beg g s x)) (k := sn) (tbW_len _) (by omega) x
    rw [tbW_get _ (by omega : sn < 64)] at hix
    have HWL := Lib.hid (wd_lt fun k => Beg g (sn : Int) k)
    have HM := Lib.hid (fun w => members_any HWL.out w)
    rw [← hR2] at HM
    generalize (wd fun k => Beg g (sn : Int) k) = W1 at hix HM HWL
    generalize tbW (fun s x => Beg g s x) = T1 at hix HBG
    clear hR2 HR HOK hGr
    go_wp2_with fail
    refine HBG.out.mono ?_
    rintro _ w2 ⟨rfl, hb2⟩
    have HB2 := Lib.hid (HB.out.trans (hb2.mono HB.out.size))
    clear hb2 j0 j1 j2 j3 HBG
    go_wp2_with fail
    refine (HM.out w2).mono ?_
    rintro _ w3 ⟨v, rfl, hown, hb3⟩
    have HF := Lib.hid (⟨v, rfl, row_base hown HB2.out.size, HB2.out.trans (hb3.mono HB2.out.size)⟩ : NumP w 0 R (.returned (.tuple #[v, .int .i64 0])) w3)
    clear hown hb3
    go_wp2_with fail
    refine bodyPost_ret (v := .tuple #[v, .int .i64 0]) (by simp [results, Try.results22, go_sem]) rfl ?_
    exact HF.out
  · have hR2 : R = [] := HR.out.trans (if_neg h0)
    subst hR2
    have h0I : (ck != 0) = true := by rw [bne_iff_ne]; exact h0
    clear h0 HR HOK j0 j1 j2 j3
    go_wp2_with fail
    refine bodyPost_ret (v := .tuple #[.slice none 0 0, .int .i64 ck]) (by simp [results, Try.results22, go_sem]) rfl ?_
    exact ⟨_, rfl, ⟨rfl, .inl ⟨rfl, rfl⟩⟩, HB.out⟩
end Go.Proofs.Ytpmkdpjcpimhkaa
