/- Texts of package regs, one behind the other. -/
import Derived.Test.YthglciccejholaaDoorProg
import Derived.Test.YthglciccejholaaDoorV26
import Derived.Great.BuildSlice
import Derived.WalkKit
import Derived.Maps.OwnSet
import Derived.Maps.OwnOps
import Derived.Maps.Own
import Derived.DeepKeys5
import Derived.BigFrame
import Derived.WalkMore
import Derived.ScopeJumps
import Derived.StillTailTactics
import Derived.Stop.BytesEq
import Derived.WalkLawsBesides
import Derived.WalkSpells
import Derived.Outline
import Derived.Lib.Walk
import Derived.Lib.Hide
import Derived.Lib.Slices
import Derived.Lib.Strings
import Derived.RegionTactic
import Derived.LoopTactic
import Derived.Below
import Derived.IntWalk
import Derived.Deep.QuietTactic
import Derived.BigQuiet
import Derived.Deep.MidRow
import Derived.Maps.AppendAt
import Derived.Laws.Rows
import Derived.Laws.Tables
import Derived.Deep.WholeRow
import Derived.Deep.Cut
import Derived.Deep.CutRange
import Derived.Lib.SliceRun
import Derived.Laws.MakeOwn
import Derived.Deep.RegionLaw
import Derived.Deep.RegionLawGrows
import Derived.Deep.RegionHeld3
import Derived.RegionCalls
import Derived.Deep.RegionWith
import Derived.Deep.Light
import Derived.Laws.CopyOwn
import Derived.Laws.ResultCell
import Derived.Test.YthglciccejholaaDoorRg
import Derived.Test.YthglciccejholaaDoorV4
import Derived.Test.YthglciccejholaaDoorV2
section
/- Package dfa. -/
namespace Go.Proofs.YthglciccejholaaDoor
set_option linter.unusedSimpArgs false
set_option linter.unusedVariables false
set_option maxRecDepth 100000
open Go.RowKit
/- find. -/
open Go.Maps
/-- The sets that are found, one by one. -/
def fnF (ss : List Nst) (lv : Nat → Bool) (bys : List (Nat → Bool)) : Nat → Nat → List (List Nat) → List (List Int) → Bool × List (List Nat) × List (List Int)
  | 0, _, sets, nums => (true, sets, nums)
  | q + 1, at_, sets, nums => match sets[at_]? with
    | none => (true, sets, nums)
    | some l => if 2048 < sets.length then (false, sets, nums) else fnF ss lv bys q (at_ + 1) (onF ss lv bys (mb l) bys.length sets).1 (nums ++ [(onF ss lv bys (mb l) bys.length sets).2])
section
variable {K : BK} {X : List It} {sets : List (List Nat)} {zs : List (List Int × Nat)} {M : Nat} {la l : List Nat} {R R0 : Array Value} {sl sv rv : Value} {mo : Obj} {y z : World} {ss : List Nst} {fc : List Value}
theorem reach_bs (h : BS K X sets zs M l l R R0 sl sv rv mo y) {s : Nat} (hs : s < 4096) (hl : l.length ≤ 4096) :
    Calls Tryd.prog 95 #[.pointer (some ⟨K.bb, 326, none⟩), .int .i64 (s : Nat)] y fun e y' => e = .returned (.tuple #[]) ∧ ∃ R' sl', BS K X sets zs M (rch l s) (rch l s) R' R0 sl' sv rv mo y' := by
  refine (reachS_any h.fs hs hl).mono ?_
  rintro e y' ⟨rfl, sl', h2⟩
  obtain ⟨R', h3⟩ := h.back h2
  exact ⟨rfl, _, _, h3⟩
theorem spread_bs (hh : BH K ss fc) (h : BS K X sets zs M l l R R0 sl sv rv mo y) (hnd : l.Nodup) (hl : ∀ s ∈ l, s < ss.length) :
    Calls Tryd.prog 96 #[.pointer (some ⟨K.bb, 326, none⟩), K.fsl] y fun e y' => e = .returned (.tuple #[]) ∧ ∃ R' sl', BS K X sets zs M (goF ss (ss.length + 1) 0 l) (goF ss (ss.length + 1) 0 l) R' R0 sl' sv rv mo y' := by
  refine (spread_any h.fs hh.n rfl (hh.free h) hh.inb hh.fl hnd hl).mono ?_
  rintro e y' ⟨rfl, sl', h2⟩
  obtain ⟨R', h3⟩ := h.back h2
  exact ⟨rfl, _, _, h3⟩
set_option maxHeartbeats 16000000 in
theorem find_bs (hh : BH K ss fc) (h : BS K X [] [] M [] [] R R0 sl sv rv mo y) {st : Nat} (hst : st < ss.length) :
    Calls Tryd.prog 56 #[.pointer (some ⟨K.bb, 0, none⟩), .int .i64 (st : Nat)] y fun e y' => e = .returned (.bool (fnF ss K.lv K.bys 2050 0 [goF ss (ss.length + 1) 0 [st]] []).1) ∧
      ∃ zs' l' R' R0' sl' sv' rv' mo', zs'.map (·.1) = (fnF ss K.lv K.bys 2050 0 [goF ss (ss.length + 1) 0 [st]] []).2.2 ∧ BS K X (fnF ss K.lv K.bys 2050 0 [goF ss (ss.length + 1) 0 [st]] []).2.1 zs' M l' l' R' R0' sl' sv' rv' mo' y' := by
  obtain ⟨l0, hl0⟩ : ∃ l0, goF ss (ss.length + 1) 0 [st] = l0 := ⟨_, rfl⟩
  obtain ⟨ans, hans⟩ : ∃ ans, fnF ss K.lv K.bys 2050 0 [l0] [] = ans := ⟨_, rfl⟩
  rw [hl0, hans]
  have HH := Lib.hid hh
  have hn := hh.n
  have HC := Lib.hid (reach_bs h (s := st) (by omega) (by simp))
  have er : rch [] st = [st] := by simp [rch]
  rw [er] at HC
  have HANS := Lib.hid hans
  have HL0 := Lib.hid hl0
  clear h hh er hl0 hans
  go_enter Tryd.func56, Tryd.ntmps56
  go_upto_region 1 with fail
  go_wp2_with fail
  refine HC.out.mono ?_
  rintro _ y2 ⟨rfl, R2, sl2, h2⟩
  have c1 : y2.drew.cell? ⟨K.bb, 1, none⟩ = some K.fsl := (h2.cell (by omega)).trans h2.c1
  obtain ⟨p1, m1, k1, hfsl⟩ : ∃ p m k, K.fsl = .slice p m k := by
    obtain ⟨q, c, e, _⟩ := HH.out.free h2
    exact ⟨_, _, _, e⟩
  have HSP := Lib.hid (spread_bs HH.out (h2.up (Below.refl _ _).drew) (by simp) (by simpa using hst))
  rw [HL0.out] at HSP
  rw [hfsl] at HSP c1
  have HC1 := Lib.hid c1
  clear HC h2 c1
  go_upto_region 2 with fail
  refine wp_region_held_drew (S := fun v => v.cell? ⟨K.bb, 1, none⟩ = some (.slice p1 m1 k1)) (by kernel_rfl) HC1.out (fun hHeld => ?_)
  refine wpAnyH_take (i := 0) (v := (.pointer (some ⟨K.bb, 0, none⟩))) rfl (by kernel_rfl) (by kernel_rfl) (by kernel_rfl) (fun _ _ _ h => h) (Or.inl ⟨by rfl, by (intro w hSw; (try dsimp only at hSw); go_simp)⟩) hHeld ?_
  (try simp only [Act.put, List.getElem_toArray, List.getElem_cons_zero, List.getElem_cons_succ, List.setIfInBounds_toArray, List.set_cons_zero, List.set_cons_succ])
  refine wpAnyH_take (i := 1) (v := (.pointer (some ⟨K.bb, 0, none⟩))) rfl (by kernel_rfl) (by kernel_rfl) (by kernel_rfl) (fun _ _ _ h => h) (Or.inl ⟨by rfl, by (intro w hSw; (try dsimp only at hSw); go_simp)⟩) hHeld ?_
  (try simp only [Act.put, List.getElem_toArray, List.getElem_cons_zero, List.getElem_cons_succ, List.setIfInBounds_toArray, List.set_cons_zero, List.set_cons_succ])
  refine wpAnyH_take (i := 2) (v := (.pointer (some ⟨K.bb, 326, none⟩))) rfl (by kernel_rfl) (by kernel_rfl) (by kernel_rfl) (fun _ _ _ h => h) (Or.inl ⟨by rfl, by (intro w hSw; (try dsimp only at hSw); go_simp)⟩) hHeld ?_
  (try simp only [Act.put, List.getElem_toArray, List.getElem_cons_zero, List.getElem_cons_succ, List.setIfInBounds_toArray, List.set_cons_zero, List.set_cons_succ])
  refine wpAnyH_take (i := 3) (v := (.pointer (some ⟨K.bb, 0, none⟩))) rfl (by kernel_rfl) (by kernel_rfl) (by kernel_rfl) (fun _ _ _ h => h) (Or.inl ⟨by rfl, by (intro w hSw; (try dsimp only at hSw); go_simp)⟩) hHeld ?_
  (try simp only [Act.put, List.getElem_toArray, List.getElem_cons_zero, List.getElem_cons_succ, List.setIfInBounds_toArray, List.set_cons_zero, List.set_cons_succ])
  refine wpAnyH_take (i := 4) (v := (.pointer (some ⟨K.bb, 0, none⟩))) rfl (by kernel_rfl) (by kernel_rfl) (by kernel_rfl) (fun _ _ _ h => h) (Or.inl ⟨by rfl, by (intro w hSw; (try dsimp only at hSw); go_simp)⟩) hHeld ?_
  (try simp only [Act.put, List.getElem_toArray, List.getElem_cons_zero, List.getElem_cons_succ, List.setIfInBounds_toArray, List.set_cons_zero, List.set_cons_succ])
  refine wpAnyH_take (i := 5) (v := (.pointer (some ⟨K.bb, 1, none⟩))) rfl (by kernel_rfl) (by kernel_rfl) (by kernel_rfl) (fun _ _ _ h => h) (Or.inl ⟨by rfl, by (intro w hSw; (try dsimp only at hSw); go_simp)⟩) hHeld ?_
  (try simp only [Act.put, List.getElem_toArray, List.getElem_cons_zero, List.getElem_cons_succ, List.setIfInBounds_toArray, List.set_cons_zero, List.set_cons_succ])
  refine wpAnyH_take (i := 6) (v := (.slice p1 m1 k1)) rfl (by kernel_rfl) (by kernel_rfl) (by kernel_rfl) (fun _ _ _ h => h) (Or.inl ⟨by rfl, by (intro w hSw; (try dsimp only at hSw); go_simp)⟩) hHeld ?_
  (try simp only [Act.put, List.getElem_toArray, List.getElem_cons_zero, List.getElem_cons_succ, List.setIfInBounds_toArray, List.set_cons_zero, List.set_cons_succ])
  refine wpAnyH_ready (rs := [7]) (by kernel_rfl) (by simp) ?_
  refine AllReadyH.cons rfl (fun K9 hK => ?_) (AllReadyH.nil)
  rw [if_pos (by rfl)]
  go_wp2_with fail
  refine HSP.out.mono ?_
  rintro _ y3 ⟨rfl, R3, sl3, h3⟩
  refine hK.out _ _ (by rw [h3.cell (by omega), h3.c1, hfsl]) (fun hHeld2 => ?_)
  clear hHeld hK
  have hHeld := hHeld2
  clear hHeld2
  (try simp only [Act.put, List.getElem_toArray, List.getElem_cons_zero, List.getElem_cons_succ, List.setIfInBounds_toArray, List.set_cons_zero, List.set_cons_succ])
  have HADD := Lib.hid (add_bs h3 (by simp) (by simp))
  clear h3 HSP HC1
  refine wpAnyH_done (by kernel_rfl) ?_ _
  go_wp2_with fail
  refine HADD.out.mono ?_
  rintro _ y4 ⟨rfl, R4, R04, sv4, mo4, h4⟩
  have H4 := Lib.hid h4
  clear h4 HADD
  go_wp2_with fail
  have hnb := HH.out.nb
  go_loopw [5] (fun i wr => ∃ (at_ q : Nat) (sets : List (List Nat)) (zs : List (List Int × Nat)), i = .int .i64 (at_ : Nat) ∧ at_ + q = 2050 ∧ at_ ≤ 2048 ∧ zs.length = at_ ∧ at_ ≤ sets.length ∧ sets.length ≤ 2304 ∧ Hid (fnF ss K.lv K.bys q at_ sets (zs.map (·.1)) = ans) ∧ Hid (∃ l R R0 sl sv rv mo, BS K X sets zs M l l R R0 sl sv rv mo wr)) (fun i _ => 2050 - (intOf i).toNat)
  case atStart => exact ⟨0, 2050, [l0], [], rfl, rfl, by omega, rfl, by simp, by simp, HANS, Lib.hid ⟨_, _, _, _, _, _, _, H4.out⟩⟩
  case round =>
    clear H4 HANS
    obtain ⟨at_, q, sets, zs, rfl, hq, hat, hzl, hal, hsl, HANS, HB⟩ := hrel
    obtain ⟨wo, rfl⟩ : ∃ wo : World, wo = wr := ⟨_, rfl⟩
    obtain ⟨q, rfl⟩ : ∃ q', q = q' + 1 := ⟨q - 1, by omega⟩
    obtain ⟨l, R, R0, sl, sv, rv, mo, hb⟩ := HB.out
    obtain ⟨ps, cs, rfl⟩ := rowF_ hb.setsR
    have c323 : wo.cell? ⟨K.bb, 323, none⟩ = some (.slice ps sets.length cs) := (hb.cell (by omega)).trans hb.c323
    have HBS := Lib.hid hb
    clear hb HB
    by_cases hlt : at_ < sets.length
    · have hltI : (at_ : Int) < (sets.length : Int) := by omega
      by_cases hbig : 2048 < sets.length
      · have hbigI : (2048 : Int) < (sets.length : Int) := by omega
        have he : ans = (false, sets, zs.map (·.1)) := by
          rw [← HANS.out, fnF, List.getElem?_eq_getElem hlt]
          simp only [hbig, if_true]
        go_wp2_with fail
        go_ret
        rw [he]
        exact ⟨rfl, zs, _, _, _, _, _, _, _, rfl, HBS.out⟩
      · have hbigI : ¬ (2048 : Int) < (sets.length : Int) := by omega
        have he : fnF ss K.lv K.bys q (at_ + 1) (onF ss K.lv K.bys (mb sets[at_]) K.bys.length sets).1 (zs.map (·.1) ++ [(onF ss K.lv K.bys (mb sets[at_]) K.bys.length sets).2]) = ans := by
          rw [← HANS.out, fnF, List.getElem?_eq_getElem hlt]
          simp only [hbig, if_false]
        have HE := Lib.hid he
        have HG := Lib.hid (goOn_bs HH.out HBS.out (at_ := at_) hlt (by omega) (by omega))
        obtain ⟨t, ht, htl⟩ := onF_pre ss K.lv K.bys (mb sets[at_]) sets K.bys.length
        have hl1 : at_ + 1 ≤ (onF ss K.lv K.bys (mb sets[at_]) K.bys.length sets).1.length := by rw [ht, List.length_append]; omega
        have hl2 : (onF ss K.lv K.bys (mb sets[at_]) K.bys.length sets).1.length ≤ 2304 := by rw [ht, List.length_append]; omega
        obtain ⟨pp, hpp⟩ : ∃ pp, onF ss K.lv K.bys (mb sets[at_]) K.bys.length sets = pp := ⟨_, rfl⟩
        rw [hpp] at HE HG hl1 hl2
        clear he ht htl hpp HANS HBS
        go_wp2_with fail
        refine HG.out.mono ?_
        rintro _ y5 ⟨rfl, l5, R5, R05, sl5, sv5, rv5, mo5, rb5, h5⟩
        have H5 := Lib.hid h5
        clear h5 HG
        go_wp2_with fail
        go_roundw
        case rel => exact ⟨at_ + 1, q, pp.1, zs ++ [(pp.2, rb5)], by go_num, by omega, by omega, by simp [hzl], hl1, hl2, by rw [List.map_append]; exact HE, Lib.hid ⟨_, _, _, _, _, _, _, H5.out⟩⟩
        case measure => simp [intOf]; omega
    · have hltI : ¬ (at_ : Int) < (sets.length : Int) := by omega
      have he : ans = (true, sets, zs.map (·.1)) := by
        rw [← HANS.out, fnF, List.getElem?_eq_none (by omega)]
      go_wp2_with fail
      go_ret
      (try rw [he])
      exact ⟨rfl, zs, rfl, _, _, _, _, _, _, _, HBS.out⟩
end
end Go.Proofs.YthglciccejholaaDoor
end
section
/- Package dfa. -/
namespace Go.Proofs.YthglciccejholaaDoor
set_option linter.unusedSimpArgs false
set_option linter.unusedVariables false
set_option maxRecDepth 100000
open Go.RowKit
/- Sorts of bytes. -/
open Go.Maps
def byF (ss : List Nst) (c x : Nat) : Bool := match ss[x]? with
  | some s => decide (0 ≤ s.to) && hasU s.u (UInt8.ofNat c)
  | none => false
def byK (ss : List Nst) (c : Nat) : List UInt8 := kS (byF ss c)
def byL (ss : List Nst) : Nat → List (Nat → Bool)
  | 0 => []
  | c + 1 => if byK ss c ∈ seen (byK ss) c then byL ss c else byL ss c ++ [byF ss c]
theorem byL_keys (ss : List Nst) : ∀ c, (byL ss c).map kS = seen (byK ss) c
  | 0 => rfl
  | c + 1 => by
    rw [byL]
    by_cases h : byK ss c ∈ seen (byK ss) c
    · rw [if_pos h, seen_in h]; exact byL_keys ss c
    · rw [if_neg h, seen_out h, List.map_append, byL_keys ss c]; rfl
theorem byL_len (ss : List Nst) (c : Nat) : (byL ss c).length = (seen (byK ss) c).length := by rw [← byL_keys, List.length_map]
theorem byL_mem (ss : List Nst) : ∀ c, ∀ f ∈ byL ss c, ∃ j, j < c ∧ f = byF ss j
  | 0, f, h => by simp [byL] at h
  | c + 1, f, h => by
    rw [byL] at h
    split at h
    · obtain ⟨j, h1, h2⟩ := byL_mem ss c f h
      exact ⟨j, by omega, h2⟩
    · rcases List.mem_append.1 h with h | h
      · obtain ⟨j, h1, h2⟩ := byL_mem ss c f h
        exact ⟨j, by omega, h2⟩
      · simp at h; exact ⟨c, by omega, h⟩
/-- A byte's sort. -/
def soF (ss : List Nst) (c : Nat) : Nat := idx (seen (byK ss) 256) (byK ss c)
theorem soF_lt (ss : List Nst) {c : Nat} (h : c < 256) : soF ss c < (seen (byK ss) 256).length := idx_lt (seen_mem (byK ss) 256 c h)
def setF (ls : List (Nat → Bool)) : List Value := ls.flatMap fun f => (sA f).toList
theorem setF_app (ls : List (Nat → Bool)) (f : Nat → Bool) : setF (ls ++ [f]) = setF ls ++ (sA f).toList := by simp [setF]
theorem setF_get : ∀ (ls : List (Nat → Bool)) (k : Nat) (h : k < ls.length) (i : Nat), i < 64 → (setF ls)[k * 64 + i]? = some (.int .u64 (W ls[k] i))
  | l :: ls, 0, h, i, hi => by
    show ((sA l).toList ++ setF ls)[0 * 64 + i]? = _
    rw [List.getElem?_append_left (by simp [sA_size]; omega)]
    simpa using sA_get l hi
  | l :: ls, k + 1, h, i, hi => by
    have := setF_get ls k (by simpa using h) i hi
    show ((sA l).toList ++ setF ls)[(k + 1) * 64 + i]? = _
    rw [List.getElem?_append_right (by simp [sA_size]; omega), Array.length_toList, sA_size, show (k + 1) * 64 + i - 64 = k * 64 + i by omega]
    simpa using this
theorem sA_put (f : Nat → Bool) {s : Nat} (hs : s < 4096) : (sA f).setIfInBounds (s / 64) (.int .u64 (W (fun x => f x || x == s) (s / 64))) = sA (fun x => f x || x == s) := by
  apply Array.ext_getElem?
  intro i
  by_cases hi : i < 64
  · rw [sA_get _ hi, Array.getElem?_setIfInBounds]
    split
    · rename_i e
      subst e
      rw [if_pos (by rw [sA_size]; omega)]
    · rename_i e
      rw [sA_get _ hi, W_skip f i s (fun k hk => by omega)]
  · rw [Array.getElem?_eq_none (by simp [sA_size]; omega), Array.getElem?_eq_none (by rw [sA_size]; omega)]
/-- The states with a way by the byte c among the first k. -/
def byP (ss : List Nst) (c k x : Nat) : Bool := decide (x < k) && byF ss c x
theorem byP_zero (ss : List Nst) (c : Nat) : byP ss c 0 = noS := by funext x; simp [byP, noS]
theorem byP_no (ss : List Nst) (c k : Nat) (h : byF ss c k = false) : byP ss c (k + 1) = byP ss c k := by
  funext x
  unfold byP
  by_cases e : x = k
  · subst e; simp [h]
  · have : decide (x < k + 1) = decide (x < k) := by rw [Bool.eq_iff_iff]; simp; omega
    rw [this]
theorem byP_yes (ss : List Nst) (c k : Nat) (h : byF ss c k = true) : (fun x => byP ss c k x || x == k) = byP ss c (k + 1) := by
  funext x
  unfold byP
  by_cases e : x = k
  · subst e; simp [h]
  · have h1 : decide (x < k + 1) = decide (x < k) := by rw [Bool.eq_iff_iff]; simp; omega
    rw [h1]; simp [e]
theorem byP_all (ss : List Nst) (c : Nat) : byP ss c ss.length = byF ss c := by
  funext x
  unfold byP
  by_cases e : x < ss.length
  · simp [e]
  · have : byF ss c x = false := by unfold byF; rw [List.getElem?_eq_none (by omega)]
    simp [e, this]
/-- A map that numbers these keys by bytes. -/
abbrev MJ8 (E : DataW Unit) (L : List (List UInt8)) : Prop := MK Lit.string (fun _ => True) .u8 E L
def MpJ (M : Nat) (mo : Obj) (m : Nat) (L : List (List UInt8)) : Prop := ∀ w : World, w.heap[M]? = some mo → ∃ E n, n ≤ m ∧ w.ownsMap Tryd.prog 139 (plainElem (H := Unit) Tryd.prog 5) M n E ∧ MJ8 E L
theorem mpj_of {w : World} {M n m : Nat} {E : DataW Unit} {mo : Obj} {L : List (List UInt8)} (h : w.ownsMap Tryd.prog 139 (plainElem (H := Unit) Tryd.prog 5) M n E) (hm : w.heap[M]? = some mo) (hn : n ≤ m) (hk : MJ8 E L) : MpJ M mo m L := fun z hz => by
  obtain ⟨es, clock, h1, h2⟩ := h
  rw [hm] at h1
  cases h1
  exact ⟨E, n, hn, ⟨es, clock, hz, h2⟩, hk⟩
/-- A builder's cells, with the first c sorts. -/
structure RS (ss : List Nst) (R0 R : Array Value) (c : Nat) (bv : Value) : Prop where
  sz : R.size = R0.size
  out : ∀ j, j < 66 ∨ 323 ≤ j → R[j]? = R0[j]?
  bv : R[322]? = some bv
  so : ∀ i, i < c → R[66 + i]? = some (.int .u8 (soF ss i : Nat))
theorem RS.put {ss : List Nst} {R0 R : Array Value} {c : Nat} {bv : Value} (h : RS ss R0 R c bv) (hz : R0.size = 391) (hc : c < 256) : RS ss R0 (R.setIfInBounds (66 + c) (.int .u8 (soF ss c : Nat))) (c + 1) bv := by
  have hs := h.sz
  refine ⟨by simpa using h.sz, fun j hj => ?_, ?_, fun i hi => ?_⟩
  · rw [Array.getElem?_setIfInBounds_ne (by omega)]; exact h.out j hj
  · rw [Array.getElem?_setIfInBounds_ne (by omega)]; exact h.bv
  · by_cases e : i = c
    · subst e
      rw [Array.getElem?_setIfInBounds]; simp; omega
    · rw [Array.getElem?_setIfInBounds_ne (by omega)]; exact h.so i (by omega)
theorem RS.by_ {ss : List Nst} {R0 R : Array Value} {c : Nat} {bv : Value} (h : RS ss R0 R c bv) (hz : R0.size = 391) (hc : c ≤ 256) (bv' : Value) : RS ss R0 (R.setIfInBounds 322 bv') c bv' := by
  have hs := h.sz
  refine ⟨by simpa using h.sz, fun j hj => ?_, ?_, fun i hi => ?_⟩
  · rw [Array.getElem?_setIfInBounds_ne (by omega)]; exact h.out j hj
  · rw [Array.getElem?_setIfInBounds]; simp; omega
  · rw [Array.getElem?_setIfInBounds_ne (by omega)]; exact h.so i hi
/-- What findSorts holds. -/
structure SS (B : Nat) (w0 y : World) (bb M : Nat) (ss : List Nst) (R0 R : Array Value) (c : Nat) (bv : Value) (mo : Obj) (P X : List It) : Prop where
  rs : RS ss R0 R c bv
  mp : MpJ M mo c (seen (byK ss) c)
  sep : Sep B w0 y (P ++ (.box bb (.cells R 144) :: .row bv 139 64 (byL ss c).length (setF (byL ss c)) :: .box M mo :: X))
section
variable {B : Nat} {w0 y z : World} {bb M : Nat} {ss : List Nst} {R0 R : Array Value} {c : Nat} {bv : Value} {mo : Obj} {P X : List It}
theorem SS.up (h : SS B w0 y bb M ss R0 R c bv mo P X) (hb : Below y.heap.size y z) : SS B w0 z bb M ss R0 R c bv mo P X := ⟨h.rs, h.mp, h.sep.up hb⟩
theorem SS.xin (h : SS B w0 y bb M ss R0 R c bv mo P X) (o : Obj) : SS B w0 (y.alloc o) bb M ss R0 R c bv mo (.box y.heap.size o :: P) X := ⟨h.rs, h.mp, h.sep.alloc o⟩
theorem SS.xout {x : It} (h : SS B w0 y bb M ss R0 R c bv mo (x :: P) X) : SS B w0 y bb M ss R0 R c bv mo P X := ⟨h.rs, h.mp, Sep.tl (x := x) h.sep⟩
theorem SS.xat {b : Nat} {o : Obj} (h : SS B w0 y bb M ss R0 R c bv mo (.box b o :: P) X) : y.heap[b]? = some o := (h.sep.li (.box b o) (by simp)).2
theorem SS.put {b : Nat} {o o' : Obj} (h : SS B w0 y bb M ss R0 R c bv mo (.box b o :: P) X) (hg : y.grownBy z (some b)) (hb : z.heap[b]? = some o') : SS B w0 z bb M ss R0 R c bv mo (.box b o' :: P) X := ⟨h.rs, h.mp, Sep.put h.sep hg hb⟩
theorem SS.box (h : SS B w0 y bb M ss R0 R c bv mo P X) : y.heap[bb]? = some (.cells R 144) := (h.sep.li (.box bb (.cells R 144)) (by simp)).2
theorem SS.cell (h : SS B w0 y bb M ss R0 R c bv mo P X) (j : Nat) : y.cell? ⟨bb, j, none⟩ = R[j]? := cell_of_row y bb j R 144 (0, 0) h.box
theorem SS.row (h : SS B w0 y bb M ss R0 R c bv mo P X) : y.ownsRow B 139 64 bv (byL ss c).length (setF (byL ss c)) := h.sep.li (.row bv 139 64 (byL ss c).length (setF (byL ss c))) (by simp)
theorem SS.map (h : SS B w0 y bb M ss R0 R c bv mo P X) : ∃ E n, n ≤ c ∧ y.ownsMap Tryd.prog 139 (plainElem (H := Unit) Tryd.prog 5) M n E ∧ MJ8 E (seen (byK ss) c) := h.mp y (h.sep.li (.box M mo) (by simp)).2
end
end Go.Proofs.YthglciccejholaaDoor
end
