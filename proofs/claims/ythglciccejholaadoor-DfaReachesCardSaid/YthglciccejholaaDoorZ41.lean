/- Texts of package regs, one behind the other. -/
import Derived.Test.YthglciccejholaaDoorProg
import Derived.Test.YthglciccejholaaDoorZ40
import Derived.WalkKit
import Derived.BigFrame
import Derived.Stop.BytesEq
import Derived.WalkLawsBesides
import Derived.WalkSpells
import Derived.Outline
import Derived.Lib.Walk
import Derived.Lib.Hide
import Derived.Lib.Slices
import Derived.Lib.Strings
import Derived.RegionTactic
import Derived.LoopTactic
import Derived.Below
import Derived.IntWalk
import Derived.Deep.QuietTactic
import Derived.BigQuiet
import Derived.Deep.MidRow
import Derived.Maps.AppendAt
import Derived.Laws.Rows
import Derived.Laws.Tables
import Derived.Deep.WholeRow
import Derived.Deep.Cut
import Derived.Deep.CutRange
import Derived.Lib.SliceRun
import Derived.Laws.MakeOwn
import Derived.Deep.RegionLaw
import Derived.Deep.RegionLawGrows
import Derived.Deep.RegionHeld3
import Derived.RegionCalls
import Derived.Deep.RegionWith
import Derived.Deep.Light
import Derived.Laws.CopyOwn
import Derived.Laws.ResultCell
import Derived.Test.YthglciccejholaaDoorZ37
import Derived.Test.YthglciccejholaaDoorFl
import Derived.Test.YthglciccejholaaDoorZ23
import Derived.Test.YthglciccejholaaDoorZ32
import Derived.Test.YthglciccejholaaDoorZ26
import Derived.RangeFuncNested
import Derived.RangeFuncBound
import Derived.RangeFuncCalls
import Derived.RangeFuncLeaves
import Derived.RangeFuncBox
import Derived.Shelf.Abstract
import Derived.Shelf.RegionOpen
import Derived.OwnWalkIn
import Derived.TacticsInMore
import Derived.LoopNIn
import Derived.LoopIn
import Derived.Test.YthglciccejholaaDoorZ36
import Derived.Test.YthglciccejholaaDoorZ29
section
/- Packages dfa, mini, munch. -/
namespace Go.Proofs.YthglciccejholaaDoor
set_option linter.unusedSimpArgs false
set_option linter.unusedVariables false
set_option maxRecDepth 100000
open Go.RowKit
/- TwinDfa. -/
def TwD (w : World) (d : Df) (e : Ending) (w' : World) : Prop := ∃ ds' g cap zs ms q f, e = .returned (.agg ds') ∧ DC d ds' (some ⟨g, 0, none⟩) q cap f ∧ zs.map (fun z : Ni => z.1) = d.nx ∧ (∀ z ∈ zs, z.2.1 = mk7 3) ∧ ms.map (fun z : Ni => z.1) = mks 3 ∧
  TN w.heap.size (zs ++ ms) (.slice (some ⟨g, 0, none⟩) (d.nx.length + 3) cap) w' ∧ TI w.heap.size w' d.rl (.slice q d.rl.length f) ∧ Below w.heap.size w w'
theorem tr_of_ti {B : Nat} {w : World} {l : List Int} {g cap : Nat} (h : w.ownsRow B 3 1 (.slice (some ⟨g, 0, none⟩) (l.length + 3) cap) (l.length + 3) (zi (l ++ mk7 3))) : TR B w (tw l g cap) := by
  unfold TR tw
  simp only [List.length_append, mk7_len]
  exact h
theorem tr_mark {w : World} {B : Nat} (k : Nat) (h : B ≤ w.heap.size) : TR B (w.alloc (.cells #[.int .i64 (-7000 - (k : Int))] 3)) (mkr k w.heap.size 1) :=
  ⟨by simp [mkr, zi], .inr ⟨w.heap.size, 1, _, rfl, h, heap_alloc_new _ _, by simp [mkr], by simp [maxLen], by simp, by simp [mkr, zi]⟩⟩
theorem nV_one (z : Ni) : ∀ v ∈ [d7_nV z], v.oneCell' = true := by
  intro v hv; simp at hv; subst hv; rfl
set_option maxHeartbeats 16000000 in
theorem twin_dfa {D : Nat → Prop} {w : World} {d : Df} {ds : Array Value} {p q : Option Addr} {c f : Nat} (hd : DC d ds p q c f) (hm : DM D w d p q c f) (hl1 : d.nx.length ≤ 1000000) (hl2 : d.rl.length ≤ 1000000) (hl3 : ∀ r ∈ d.nx, r.length ≤ 1000000) :
    Calls Tryd.prog 20 #[.agg ds] w (TwD w d) := by
  obtain ⟨i0, hi, hz0, hz1, hz2⟩ := info_parts info24b
  have hz := (zero_of_info info26r).1
  have hs0 := ((Sb.start w).alloc (.cells ds 48)).alloc (.cells zero26 48)
  have hs1 : (w.alloc (.cells ds 48)).heap.size = w.heap.size + 1 := by simp
  rw [hs1] at hs0
  have S0 := Lib.hid hs0
  have HGE : Hid (w.heap.size + 2 ≤ ((w.alloc (.cells ds 48)).alloc (.cells zero26 48)).heap.size) := Lib.hid (by simp)
  have HNV := Lib.hid hm.nx
  have HM := Lib.hid hm
  have HLT := Lib.hid hm.lt
  have HL3 := Lib.hid hl3
  have HL2 := Lib.hid hl2
  have HDC := Lib.hid hd
  have A1 := Lib.hid hd.nx
  have A2 := Lib.hid hd.rl
  obtain ⟨n, hn⟩ : ∃ n, d.nx.length = n := ⟨_, rfl⟩
  rw [hn] at A1 hl1
  have HN := Lib.hid hn
  clear hd hm hs0 hs1 hl2 hl3 hn
  go_enter Tryd.func20, Tryd.ntmps20
  go_wp2_with fail
  go_loopw [3, 4] (fun sl i wr => ∃ (j : Nat) (zs : List Ni), i = .int .i64 (j : Nat) ∧ j ≤ n ∧ Hid (zs.map (fun z : Ni => z.1) = d.nx.take j ∧ ∀ z ∈ zs, z.2.1 = mk7 3) ∧ Hid (TN (w.heap.size + 2) zs sl wr) ∧ Hid (Sb w wr [(w.heap.size + 1, .cells zero26 48), (w.heap.size, .cells ds 48)])) (fun _ i _ => n - (intOf i).toNat)
  case atStart => exact ⟨0, [], rfl, by omega, Lib.hid (by simp), Lib.hid (TN.nil _ _), S0⟩
  case round =>
  clear S0 HGE hz
  obtain ⟨j, zs, rfl, hj, HZ, HT, HS⟩ := hrel
  have cq : wr.cell? ⟨w.heap.size, 257, none⟩ = some (.slice p n c) := (HS.out.tl.cell 257).trans A1.out
  have hzl : zs.length = j := by
    have := congrArg List.length HZ.out.1
    have h2 := HN.out
    simp at this
    omega
  obtain ⟨pz, cz, hsl⟩ := HT.out.form
  rw [hzl] at hsl
  subst hsl
  have HZL := Lib.hid hzl
  clear hzl
  by_cases hlt : j < n
  · have hlt2 : j < d.nx.length := by rw [HN.out]; exact hlt
    obtain ⟨p', c', he, hh⟩ := HNV.out
    injection he with e1 e2 e3
    subst e1 e3
    obtain ⟨b, o, rfl, hb, hc⟩ := hh (by intro e; rw [e] at hlt2; simp at hlt2)
    obtain ⟨qf, ff, hiv, hcj⟩ := hc j hlt2
    have hbw := HLT.out b hb
    have cx : wr.cell? ⟨b, o + j, none⟩ = some (.slice qf d.nx[j].length ff) := (cell_same (HS.out.1.block b hbw) _).trans hcj
    have HSJ : Hid (d.nx.take (j + 1) = d.nx.take j ++ [d.nx[j]]) := Lib.hid (by rw [List.take_add_one, List.getElem?_eq_getElem hlt2]; rfl)
    have HFN := Lib.hid (HL3.out d.nx[j] (List.getElem_mem hlt2))
    clear hh hc hcj e2
    generalize d.nx[j] = r at *
    have HCC : Hid (Calls Tryd.prog 53 #[.slice qf r.length ff] wr (TwI wr r)) := Lib.hid (twin_ints HFN.out (fun b hb => Nat.lt_of_lt_of_le (HLT.out b hb) HS.out.1.size) (hiv.mono (fun b h => h) (fun b hb _ => HS.out.1.block b (HLT.out b hb))))
    have hltI : (j : Int) < (n : Int) := by omega
    have hjI : ¬ (j : Int) < 0 := by omega
    clear hiv hb hbw hlt2
    go_wp2_with fail
    refine HCC.out.mono ?_
    rintro _ w7 ⟨_, rfl, ⟨g, cap, rfl, hrow⟩, hb⟩
    have hglt := hrow.lt g rfl
    have HS4 := Lib.hid (HS.out.up hb)
    have HT4 := Lib.hid (HT.out.up hb)
    have HTL := Lib.hid fun g (hg : (Value.slice pz j cz).ownBlock = some g) => World.ownsRow.lt HT.out.2 g hg
    have HWO := Lib.hid HS.out.lt
    have HR4 : Hid (TR (w.heap.size + 2) w7 (tw r g cap)) := Lib.hid (row_base (tr_of_ti hrow) (by have := HWO.out; omega))
    have HGL := Lib.hid hglt
    clear hrow hb hglt HCC HS HT cq cx
    have HB0 := Lib.hid ((Below.refl w7.heap.size w7).alloc (Nat.le_refl _) (.cells #[.slice (some ⟨g, 0, none⟩) r.length cap] 39))
    have HT7 := Lib.hid (HT4.out.up HB0.out)
    have HS7 := Lib.hid (HS4.out.alloc (.cells #[.slice (some ⟨g, 0, none⟩) r.length cap] 39)).tl
    have HR7 : Hid (TR (w.heap.size + 2) (w7.alloc (.cells #[.slice (some ⟨g, 0, none⟩) r.length cap] 39)) (tw r g cap)) := Lib.hid (World.ownsRow.alloc HR4.out _)
    have HX4 : Hid ((w7.alloc (.cells #[.slice (some ⟨g, 0, none⟩) r.length cap] 39)).ownsRow (w.heap.size + 2) 39 1 (.slice pz j cz) j (zs.map d7_nV)) := Lib.hid (by
      have h := HT7.out.2
      rw [HZL.out] at h
      exact h)
    have HC0 : Hid (∀ j' v, [d7_nV (tw r g cap)][j']? = some v → (w7.alloc (.cells #[.slice (some ⟨g, 0, none⟩) r.length cap] 39)).cell? ((⟨w7.heap.size, 0, none⟩ : Addr).add j') = some v) := Lib.hid fun j' v hj => by
      rw [Addr.add_mid, cell_of_row _ w7.heap.size (0 + j') _ 39 (0, 0) (heap_alloc_last w7 _), Nat.zero_add, ← hj]
      cases j' <;> rfl
    have HY1 : Hid ((w7.alloc (.cells #[.slice (some ⟨g, 0, none⟩) r.length cap] 39)).heap.size = w7.heap.size + 1) := Lib.hid (by simp)
    have HYS := Lib.hid (show w.heap.size + 2 ≤ (w7.alloc (.cells #[.slice (some ⟨g, 0, none⟩) r.length cap] 39)).heap.size by have := HWO.out; have := HY1.out; have := HGL.out; omega)
    clear HS4 HT4 HR4 HB0
    go_wp2_with (at_builtin; refine wpList_append_own_at _ rfl (.tmp 13) (.tmp 20) 46 rfl (w.heap.size + 2) 39 i0 _ 1 24 Tryd.underlying46 hi hz0 hz1 hz2 rfl (by decide) (.slice pz j cz) j (zs.map d7_nV) rfl ?c0 ⟨w7.heap.size, 0, none⟩ 1 1 [d7_nV (tw r g cap)] rfl rfl ?c1 (nV_one _) ?c3 ?c4 ?c5 ?_)
    case c0 => exact HX4.out
    case c1 => exact HC0.out
    case c3 => unfold maxLen; omega
    case c4 => omega
    case c5 => exact HYS.out
    intro v8 w8 hown8 hg8 _ hat8
    have HTA : Hid (TN (w.heap.size + 2) (zs ++ [tw r g cap]) v8 w8) := Lib.hid (HT7.out.app HR7.out (fun e => by
      have h1 := HTL.out g e.symm
      have h2 := HGL.out.1
      omega) (by rw [HZL.out]; exact hown8) hg8 (by rw [HY1.out]; exact hat8))
    have HSA : Hid (Sb w w8 [(w.heap.size + 1, .cells zero26 48), (w.heap.size, .cells ds 48)]) := Lib.hid (HS7.out.grown hg8 (fun g' e => by
      have h1 := World.ownsRow.lt HX4.out g' e
      refine ⟨by omega, fun x hx => ?_⟩
      simp only [List.mem_cons, List.mem_nil_iff, or_false] at hx
      rcases hx with rfl | rfl
      · show w.heap.size + 1 ≠ g'; omega
      · show w.heap.size ≠ g'; omega))
    have HZA : Hid ((zs ++ [tw r g cap]).map (fun z : Ni => z.1) = d.nx.take (j + 1) ∧ ∀ z ∈ zs ++ [tw r g cap], z.2.1 = mk7 3) := Lib.hid ⟨by rw [HSJ.out, List.map_append, HZ.out.1]; rfl, fun z hz => by
      rcases List.mem_append.1 hz with h | h
      · exact HZ.out.2 z h
      · simp at h; subst h; rfl⟩
    clear hown8 hg8 hat8 HX4 HC0 HYS HS7 HT7 HR7 HTL
    go_wp2_with fail
    go_roundw
    case rel => exact ⟨j + 1, _, by go_num, by omega, HZA, HTA, HSA⟩
    case measure => simp [intOf]; omega
  · obtain rfl : j = n := by omega
    have hltI : ¬ (j : Int) < (j : Int) := by omega
    have HZ2 : Hid (zs.map (fun z : Ni => z.1) = d.nx ∧ ∀ z ∈ zs, z.2.1 = mk7 3) := Lib.hid ⟨by have := HZ.out.1; rwa [List.take_of_length_le (by rw [HN.out]; omega)] at this, HZ.out.2⟩
    have HT0 : Hid (TN (w.heap.size + 2) (zs ++ []) (.slice pz j cz) wr) := Lib.hid (by rw [List.append_nil]; exact HT.out)
    clear HT HZ
    go_wp2_with fail
    clear cq
    go_loopw [3, 5] (fun sl i wr => ∃ (m : Nat) (ms : List Ni), i = .int .i64 (m : Nat) ∧ m ≤ 3 ∧ Hid (ms.map (fun z : Ni => z.1) = mks m) ∧ Hid (TN (w.heap.size + 2) (zs ++ ms) sl wr) ∧ Hid (Sb w wr [(w.heap.size + 1, .cells zero26 48), (w.heap.size, .cells ds 48)])) (fun _ i _ => 3 - (intOf i).toNat)
    case atStart => exact ⟨0, [], rfl, by omega, Lib.hid rfl, HT0, HS⟩
    case round =>
    clear HT0 HS
    obtain ⟨m, ms, rfl, hm, HMS, HT, HS⟩ := hrel
    obtain ⟨pm, cm, hsl⟩ := HT.out.form
    have hzm : (zs ++ ms).length = j + m := by
      have := congrArg List.length HMS.out
      rw [List.length_map, mks_len] at this
      rw [List.length_append, HZL.out, this]
    rw [hzm] at hsl
    subst hsl
    have HZM := Lib.hid hzm
    clear hzm
    by_cases hm3 : m < 3
    · have hm3I : (m : Int) < 3 := by omega
      have HWO := Lib.hid HS.out.lt
      have HTL := Lib.hid fun g (hg : (Value.slice pm (j + m) cm).ownBlock = some g) => World.ownsRow.lt HT.out.2 g hg
      have hy1 : (wr.alloc (.cells #[.int .i64 (-7000 - (m : Int))] 3)).heap.size = wr.heap.size + 1 := by simp
      have HR1 : Hid (TR (w.heap.size + 2) (wr.alloc (.cells #[.int .i64 (-7000 - (m : Int))] 3)) (mkr m wr.heap.size 1)) := Lib.hid (tr_mark m (by have := HWO.out; omega))
      have HT1 := Lib.hid (HT.out.up ((Below.refl wr.heap.size wr).alloc (Nat.le_refl _) (.cells #[.int .i64 (-7000 - (m : Int))] 3)))
      have HS1 := Lib.hid (HS.out.alloc (.cells #[.int .i64 (-7000 - (m : Int))] 3)).tl
      have HV : Hid (d7_nV (mkr m wr.heap.size 1) = .slice (some ⟨wr.heap.size, 0, none⟩) 1 1) := Lib.hid rfl
      have HT7 := Lib.hid (HT1.out.up ((Below.refl _ (wr.alloc (.cells #[.int .i64 (-7000 - (m : Int))] 3))).alloc (Nat.le_refl _) (.cells #[.slice (some ⟨wr.heap.size, 0, none⟩) 1 1] 39)))
      have HS7 := Lib.hid (HS1.out.alloc (.cells #[.slice (some ⟨wr.heap.size, 0, none⟩) 1 1] 39)).tl
      have HR7 : Hid (TR (w.heap.size + 2) ((wr.alloc (.cells #[.int .i64 (-7000 - (m : Int))] 3)).alloc (.cells #[.slice (some ⟨wr.heap.size, 0, none⟩) 1 1] 39)) (mkr m wr.heap.size 1)) := Lib.hid (World.ownsRow.alloc HR1.out _)
      have HX4 : Hid (((wr.alloc (.cells #[.int .i64 (-7000 - (m : Int))] 3)).alloc (.cells #[.slice (some ⟨wr.heap.size, 0, none⟩) 1 1] 39)).ownsRow (w.heap.size + 2) 39 1 (.slice pm (j + m) cm) (j + m) ((zs ++ ms).map d7_nV)) := Lib.hid (by
        have h := HT7.out.2
        rw [HZM.out] at h
        exact h)
      have HC0 : Hid (∀ j' v, [d7_nV (mkr m wr.heap.size 1)][j']? = some v → ((wr.alloc (.cells #[.int .i64 (-7000 - (m : Int))] 3)).alloc (.cells #[.slice (some ⟨wr.heap.size, 0, none⟩) 1 1] 39)).cell? ((⟨wr.heap.size + 1, 0, none⟩ : Addr).add j') = some v) := Lib.hid fun j' v hj => by
        have hl := heap_alloc_last (wr.alloc (.cells #[.int .i64 (-7000 - (m : Int))] 3)) (.cells #[.slice (some ⟨wr.heap.size, 0, none⟩) 1 1] 39)
        rw [hy1] at hl
        rw [Addr.add_mid, cell_of_row _ (wr.heap.size + 1) (0 + j') _ 39 (0, 0) hl, Nat.zero_add, ← hj]
        cases j' <;> rfl
      have HY1 : Hid (((wr.alloc (.cells #[.int .i64 (-7000 - (m : Int))] 3)).alloc (.cells #[.slice (some ⟨wr.heap.size, 0, none⟩) 1 1] 39)).heap.size = wr.heap.size + 2) := Lib.hid (by simp)
      clear HS HT HT1 HS1 HR1 hy1
      go_wp2_with (at_builtin; refine wpList_append_own_at _ rfl (.tmp 26) (.tmp 30) 46 rfl (w.heap.size + 2) 39 i0 _ 1 24 Tryd.underlying46 hi hz0 hz1 hz2 rfl (by decide) (.slice pm (j + m) cm) (j + m) ((zs ++ ms).map d7_nV) rfl ?c0 ⟨wr.heap.size + 1, 0, none⟩ 1 1 [d7_nV (mkr m wr.heap.size 1)] rfl rfl ?c1 (nV_one _) ?c3 ?c4 ?c5 ?_)
      case c0 => exact HX4.out
      case c1 => exact HC0.out
      case c3 => unfold maxLen; omega
      case c4 => omega
      case c5 => have := HY1.out; have := HWO.out; omega
      intro v8 w8 hown8 hg8 _ hat8
      have HTA : Hid (TN (w.heap.size + 2) (zs ++ (ms ++ [mkr m wr.heap.size 1])) v8 w8) := Lib.hid (by
        rw [← List.append_assoc]
        exact HT7.out.app HR7.out (fun e => by
          have h1 := HTL.out _ e.symm
          have h2 : (mkr m wr.heap.size 1).2.2.1 = wr.heap.size := rfl
          omega) (by rw [HZM.out, List.map_append, List.append_assoc]; exact hown8) hg8 (by rw [HY1.out]; exact hat8))
      have HSA : Hid (Sb w w8 [(w.heap.size + 1, .cells zero26 48), (w.heap.size, .cells ds 48)]) := Lib.hid (HS7.out.grown hg8 (fun g' e => by
        have h1 := World.ownsRow.lt HX4.out g' e
        refine ⟨by omega, fun x hx => ?_⟩
        simp only [List.mem_cons, List.mem_nil_iff, or_false] at hx
        rcases hx with rfl | rfl
        · show w.heap.size + 1 ≠ g'; omega
        · show w.heap.size ≠ g'; omega))
      have HMA : Hid ((ms ++ [mkr m wr.heap.size 1]).map (fun z : Ni => z.1) = mks (m + 1)) := Lib.hid (by rw [mks_succ, List.map_append, HMS.out]; rfl)
      clear hown8 hg8 hat8 HX4 HC0 HS7 HT7 HR7 HTL HY1
      go_wp2_with fail
      go_roundw
      case rel => exact ⟨m + 1, _, by go_num, by omega, HMA, HTA, HSA⟩
      case measure => simp [intOf]; omega
    · obtain rfl : m = 3 := by omega
      rw [show ((3 : Nat) : Int) = 3 from rfl]
      obtain ⟨g, cap, hsl, hcap⟩ := row_own HT.out.2 (by rw [HZM.out]; omega)
      rw [HZM.out] at hcap
      have ha : pm = some ⟨g, 0, none⟩ ∧ cm = cap := by
        injection hsl with e1 e2 e3
        exact ⟨e1, e3⟩
      obtain ⟨rfl, rfl⟩ := ha
      have HT9 := Lib.hid HT.out
      have HGB := Lib.hid (World.ownsRow.lt HT.out.2 g rfl)
      have HSX : Sb w wr [(w.heap.size, .cells ds 48), (w.heap.size + 1, .cells zero26 48)] := ⟨HS.out.1, fun x hx => HS.out.2 x (by
        simp only [List.mem_cons, List.mem_nil_iff, or_false] at hx ⊢
        exact hx.symm)⟩
      have c257 : wr.cell? ⟨w.heap.size, 257, none⟩ = some (.slice p j c) := (HSX.cell 257).trans A1.out
      have z257 : wr.frozen? ⟨w.heap.size, 257, none⟩ = false := HSX.free 257
      have hsb1 := HSX.set (i := 257) (.slice (some ⟨g, 0, none⟩) j cm) (by simp)
      have SB1 := Lib.hid hsb1
      have k258 : (wr.setCell ⟨w.heap.size, 257, none⟩ (.slice (some ⟨g, 0, none⟩) j cm)).cell? ⟨w.heap.size, 258, none⟩ = some (.slice q d.rl.length f) := by
        rw [hsb1.cell 258, Array.getElem?_setIfInBounds_ne (by decide)]; exact A2.out
      have HGR1 := Lib.hid (d7_set_grown wr w.heap.size 257 (.slice (some ⟨g, 0, none⟩) j cm))
      have HT10 : Hid (TN (w.heap.size + 2) (zs ++ ms) (.slice (some ⟨g, 0, none⟩) (j + 3) cm) (wr.setCell ⟨w.heap.size, 257, none⟩ (.slice (some ⟨g, 0, none⟩) j cm))) := Lib.hid (TN.other HT9.out HGR1.out (fun z hz => by have := (HT9.out.1 z hz).1.lt.1; omega) (fun e => by
        have e2 : g = w.heap.size := by simpa [Value.ownBlock] using e
        have := HGB.out.1; omega))
      have HCC : Hid (Calls Tryd.prog 53 #[.slice q d.rl.length f] (wr.setCell ⟨w.heap.size, 257, none⟩ (.slice (some ⟨g, 0, none⟩) j cm)) (TwI (wr.setCell ⟨w.heap.size, 257, none⟩ (.slice (some ⟨g, 0, none⟩) j cm)) d.rl)) := Lib.hid (twin_ints HL2.out (HM.out.up hsb1.1).lt (HM.out.up hsb1.1).rl)
      have i1 : ((j : Nat) : Int) ≤ (cm : Int) := by omega
      have i0' : (0 : Int) ≤ ((j : Nat) : Int) := by omega
      have HWS : Hid (w.heap.size + 2 ≤ (wr.setCell ⟨w.heap.size, 257, none⟩ (.slice (some ⟨g, 0, none⟩) j cm)).heap.size) := Lib.hid (by have := HGB.out; simp; omega)
      clear hsl HT HS HSX hcap hsb1
      go_wp2_with fail
      refine HCC.out.mono ?_
      rintro _ w7 ⟨_, rfl, ⟨g2, cap2, rfl, hrow⟩, hb⟩
      have hsb2 := SB1.out.up hb
      have HT11 := Lib.hid (HT10.out.up hb)
      have HR := Lib.hid (row_base hrow HWS.out)
      have z258 : w7.frozen? ⟨w.heap.size, 258, none⟩ = false := hsb2.free 258
      have c258 : w7.cell? ⟨w.heap.size, 258, none⟩ = some (.slice q d.rl.length f) := by
        rw [hsb2.cell 258, Array.getElem?_setIfInBounds_ne (by decide)]; exact A2.out
      have hsb3 := hsb2.set (i := 258) (.slice (some ⟨g2, 0, none⟩) d.rl.length cap2) (by simp)
      have HGR2 := Lib.hid (d7_set_grown w7 w.heap.size 258 (.slice (some ⟨g2, 0, none⟩) d.rl.length cap2))
      obtain ⟨ds', hds⟩ : ∃ ds', (ds.setIfInBounds 257 (.slice (some ⟨g, 0, none⟩) j cm)).setIfInBounds 258 (.slice (some ⟨g2, 0, none⟩) d.rl.length cap2) = ds' := ⟨_, rfl⟩
      rw [hds] at hsb3
      have HB3 : Hid (BX (w7.setCell ⟨w.heap.size, 258, none⟩ (.slice (some ⟨g2, 0, none⟩) d.rl.length cap2)) w.heap.size ds') := Lib.hid hsb3.heap
      have hsb4 := hsb3.sub (M := [(w.heap.size + 1, .cells zero26 48)]) (by simp)
      have HY2 := Lib.hid hsb4.heap
      have SB3 := Lib.hid (hsb4.setRow (cs' := ds') (by simp))
      have hdc : DC d ds' (some ⟨g, 0, none⟩) (some ⟨g2, 0, none⟩) cm cap2 := by
        have h0 := HDC.out
        have hs := h0.sz
        subst hds
        refine ⟨by simp [hs], fun v hv => ?_, ?_, fun i hi => ?_, ?_, ?_⟩
        · rw [Array.mem_iff_getElem] at hv
          obtain ⟨i, hi, rfl⟩ := hv
          rw [Array.getElem_setIfInBounds (by simpa using hi)]
          split
          · rfl
          · rw [Array.getElem_setIfInBounds (by simpa using hi)]
            split
            · rfl
            · exact h0.one _ (Array.getElem_mem _)
        · rw [Array.getElem?_setIfInBounds_ne (by decide), Array.getElem?_setIfInBounds_ne (by decide)]; exact h0.st
        · rw [Array.getElem?_setIfInBounds_ne (by omega), Array.getElem?_setIfInBounds_ne (by omega)]; exact h0.cl i hi
        · rw [Array.getElem?_setIfInBounds_ne (by decide), Array.getElem?_setIfInBounds_self_of_lt (by rw [hs]; decide), HN.out]
        · rw [Array.getElem?_setIfInBounds_self_of_lt (by simp [hs])]
      have HDC2 := Lib.hid hdc
      clear hb hrow hsb2 hsb3 hsb4 hds hdc k258 c257 z257 HCC SB1 HT10
      go_wp2_with (first | (refine wpList_load_Dg _ rfl w.heap.size ds' rfl HB3.out HDC2.out.sz rfl ?_) | (refine wpList_store_row rfl 48 (.tmp 2) (.tmp 42) rfl (w.heap.size + 1) ds' rfl rfl 48 _ HY2.out (by rw [info26, HDC2.out.sz]) (by rw [zero26_size, HDC2.out.sz]) ?one ?_))
      case one => exact Array.all_eq_true_iff_forall_mem.2 HDC2.out.one
      refine bodyPost_ret (v := .agg ds') (results_cell_row rfl _ _ (w.heap.size + 1) 48 _ (0, 0) _ rfl (setRow_heap _ (w.heap.size + 1) _ _ 48 (0, 0) HY2.out) Tryd.underlying48 rfl (by rw [info26, HDC2.out.sz])) rfl ⟨ds', g, cm, zs, ms, some ⟨g2, 0, none⟩, cap2, rfl, HDC2.out, HZ2.out.1, HZ2.out.2, HMS.out, ?_, ?_, SB3.out.1⟩
      · have hG := HGB.out.1
        rw [HN.out]
        refine TN.base (B := w.heap.size + 2) ?_ (by omega)
        refine TN.other (b := w.heap.size + 1) (TN.other (b := w.heap.size) HT11.out HGR2.out (fun z hz => by have := (HT11.out.1 z hz).1.lt.1; omega) (fun e => absurd (show g = w.heap.size by simpa [Value.ownBlock] using e) (by omega))) (row_grown _ _ _) (fun z hz => by have := (HT11.out.1 z hz).1.lt.1; omega) ?_
        intro e
        have : g = w.heap.size + 1 := by simpa [Value.ownBlock] using e
        omega
      · have hG := (HR.out.lt g2 rfl).1
        refine ⟨g2, cap2, rfl, row_base (B := w.heap.size + 2) ?_ (by omega)⟩
        refine World.ownsRow.kept (World.ownsRow.kept HR.out HGR2.out (.inr (fun e => ?_))) (row_grown _ _ _) (.inr (fun e => ?_))
        · have : g2 = w.heap.size := by simpa [Value.ownBlock] using e
          omega
        · have : g2 = w.heap.size + 1 := by simpa [Value.ownBlock] using e
          omega
end Go.Proofs.YthglciccejholaaDoor
end
section
/- Package dfa. -/
namespace Go.Proofs.YthglciccejholaaDoor
set_option linter.unusedSimpArgs false
set_option linter.unusedVariables false
set_option maxRecDepth 100000
open Go.RowKit Go.Shelf
/- Own things side by side; what automaton makes, plain. -/
open Go.Maps
theorem Sep.at {B : Nat} {w0 w : World} {x : It} {L : List It} (h : Sep B w0 w (x :: L)) : x.lies B w := h.li x (List.mem_cons_self ..)
theorem Sep.swap {B : Nat} {w0 w : World} {L : List It} {x y : It} (h : Sep B w0 w (x :: y :: L)) : Sep B w0 w (y :: x :: L) := h.perm (List.Perm.swap _ _ _)
theorem Sep.boxAt {B b : Nat} {w0 w : World} {L : List It} {cs : Array Value} {t : TypeId} (h : Sep B w0 w (.box b (.cells cs t (0, 0)) :: L)) (j : Nat) : w.cell? ⟨b, j, none⟩ = cs[j]? := cell_of_row w b j cs t (0, 0) h.at.2
theorem Sep.fz {B b : Nat} {w0 w : World} {L : List It} {cs : Array Value} {t : TypeId} (h : Sep B w0 w (.box b (.cells cs t (0, 0)) :: L)) (j : Nat) : w.frozen? ⟨b, j, none⟩ = false := frozen_of_row w b j cs t h.at.2
theorem Sep.setc {B b : Nat} {w0 w : World} {L : List It} {cs : Array Value} {t : TypeId} (h : Sep B w0 w (.box b (.cells cs t (0, 0)) :: L)) (i : Nat) (v : Value) : Sep B w0 (w.setCell ⟨b, i, none⟩ v) (.box b (.cells (cs.setIfInBounds i v) t (0, 0)) :: L) :=
  h.put ⟨rfl, rfl, rfl, by simp, fun k hk hne => heap_setCell_other w _ k _ (fun e => hne (by rw [e]))⟩ (heap_setCell_same w b i cs t v h.at.2)
theorem Sep.to {B : Nat} {w0 w : World} {L : List It} (k : Nat) (h : Sep B w0 w L) (hk : k < L.length) : Sep B w0 w (L[k] :: L.eraseIdx k) := by
  refine h.perm ?_
  have h1 := List.take_append_drop k L
  have e : L.drop k = L[k] :: L.drop (k + 1) := List.drop_eq_getElem_cons hk
  rw [List.eraseIdx_eq_take_drop_succ]
  have h2 : List.Perm (L.take k ++ L[k] :: L.drop (k + 1)) (L[k] :: (L.take k ++ L.drop (k + 1))) := List.perm_middle
  rw [← e, h1] at h2
  exact h2
theorem Sep.setAt {B b : Nat} {w0 w : World} (L1 : List It) {L2 : List It} {cs : Array Value} {t : TypeId} (h : Sep B w0 w (L1 ++ .box b (.cells cs t (0, 0)) :: L2)) (i : Nat) (v : Value) : Sep B w0 (w.setCell ⟨b, i, none⟩ v) (L1 ++ .box b (.cells (cs.setIfInBounds i v) t (0, 0)) :: L2) :=
  ((h.perm List.perm_middle).setc i v).perm List.perm_middle.symm
theorem Sep.sub {B : Nat} {w0 w : World} {L L' : List It} (h : Sep B w0 w L) (hs : List.Sublist L' L) : Sep B w0 w L' :=
  ⟨h.bel, h.sz, fun y hy => h.li y (hs.subset hy), h.ap.sublist hs⟩
theorem Sep.allocAt {B b : Nat} {w0 w : World} {L : List It} (h : Sep B w0 w L) (hb : w.heap.size = b) (o : Obj) : Sep B w0 (w.alloc o) (.box b o :: L) := hb ▸ h.alloc o
theorem Sep.putRow {B b : Nat} {w0 w : World} {L : List It} {cs : Array Value} {t : TypeId} (h : Sep B w0 w (.box b (.cells cs t (0, 0)) :: L)) (cs' : Array Value) : Sep B w0 (w.setRow b cs') (.box b (.cells cs' t (0, 0)) :: L) :=
  h.put ⟨rfl, rfl, rfl, by simp [World.setRow], fun k hk hne => setRow_other w b k _ (fun e => hne (by rw [e]))⟩ (setRow_heap w b _ _ t (0, 0) h.at.2)
theorem Sep.full {cs : Array Value} {e : TypeId} {size n : Nat} {B b : Nat} {w0 w : World} {L : List It} (h : Sep B w0 w (.box b (.cells cs e (0, 0)) :: L)) (hn : cs.size = n * size) (hm : n ≤ maxLen) : Sep B w0 w (.row (.slice (some ⟨b, 0, none⟩) n n) e size n cs.toList :: L) :=
  h.same ⟨by simpa using hn, .inr ⟨b, n, cs, rfl, h.at.1, h.at.2, Nat.le_refl _, hm, hn, by rw [← hn, ← Array.length_toList, List.take_length]⟩⟩ rfl
/-- A row by classes. -/
def nxF (cl so : Nat → Nat) (row : List Int) (m k : Nat) : List Int := (List.range k).foldl (fun a i => a.set (cl i) (row.getD (so i) 0)) (List.replicate m 0)
theorem nxF_succ (cl so : Nat → Nat) (row : List Int) (m k : Nat) : nxF cl so row m (k + 1) = (nxF cl so row m k).set (cl k) (row.getD (so k) 0) := by
  unfold nxF; rw [List.range_succ, List.foldl_append]; rfl
theorem nxF_len (cl so : Nat → Nat) (row : List Int) (m : Nat) : ∀ k, (nxF cl so row m k).length = m
  | 0 => by simp [nxF]
  | k + 1 => by rw [nxF_succ, List.length_set, nxF_len]
theorem zA_set (l : List Int) (k : Nat) (x : Int) : (zA l).setIfInBounds k (.int .i64 x) = zA (l.set k x) := by
  unfold zA
  rw [List.setIfInBounds_toArray, List.map_set]
theorem zA_get (l : List Int) (k : Nat) (h : k < l.length) : (zA l)[k]? = some (.int .i64 (l.getD k 0)) := by
  unfold zA
  rw [List.getElem?_toArray, List.getElem?_map, List.getElem?_eq_getElem h]
  simp [List.getD, h]
theorem clsS_cnt (so cl : Nat → Nat) (row : List Int) {i : Nat} (hi : i < 256) : clsS so cl row i < cntS so cl row := by
  have h1 := seen_mem (keyC so cl row) 256 i hi
  have h2 := idx_lt h1
  unfold clsS cntS
  omega
theorem cntS_le (so cl : Nat → Nat) (row : List Int) : cntS so cl row ≤ 256 := by
  have := seen_len (keyC so cl row) 256
  unfold cntS; omega
theorem clsG_lt (so : Nat → Nat) : ∀ (rows : List (List Int)) (row : List Int) (s : (Nat → Nat) × Nat), ((∀ i, i < 256 → (clsG so (row :: rows) s).1 i < (clsG so (row :: rows) s).2) ∧ (clsG so (row :: rows) s).2 ≤ 256)
  | [], row, s => by
    rw [clsG, clsG]
    have h1 : ∀ i, i < 256 → _ := fun i (hi : i < 256) => clsS_cnt so s.1 row hi
    have h2 := cntS_le so s.1 row
    generalize clsS so s.1 row = a at *
    generalize cntS so s.1 row = b at *
    exact ⟨h1, h2⟩
  | r :: rs, row, s => by
    rw [clsG]
    exact clsG_lt so rs r _
/-- The automaton of sets and their rows. -/
def autX (so : Nat → Nat) (ss : List Nst) (sets : List (List Nat)) (rows : List (List Int)) : Df :=
  ⟨0, (clsG so rows (fun _ => 0, 0)).1, rows.map fun r => nxF (clsG so rows (fun _ => 0, 0)).1 so r (clsG so rows (fun _ => 0, 0)).2 256, sets.map fun l => lstR ss ((List.range 4096).filter (mb l))⟩
/-- An automaton that was made: its rows each for itself. -/
def AutP (B : Nat) (w0 : World) (X : Df) (L : List It) (e : Ending) (w' : World) : Prop := ∃ (ds : Array Value) (p : Option Addr) (c : Nat) (q : Option Addr) (f : Nat) (zs : List (List Int × Nat)), e = .returned (.agg ds) ∧ DC X ds p q c f ∧ zs.map (fun z => z.1) = X.nx ∧
  Sep B w0 w' (.row (.slice p X.nx.length c) 39 1 zs.length (zs.map zV) :: .row (.slice q X.rl.length f) 3 1 X.rl.length (zi X.rl) :: (zs.map zI ++ L))
end Go.Proofs.YthglciccejholaaDoor
end
section
/- Package dfa. -/
namespace Go.Proofs.YthglciccejholaaDoor
set_option linter.unusedSimpArgs false
set_option linter.unusedVariables false
set_option maxRecDepth 100000
open Go.RowKit Go.Shelf
/- A new automaton's cells. -/
open Go.Maps
theorem zip_put (off : Nat) : ∀ (l : List Value) (k : Nat) (cs : Array Value), (l.zipIdx k).foldl (fun cs (x : Value × Nat) => cs.setIfInBounds (off + x.2) x.1) cs = putA cs (off + k) l
  | [], _, _ => rfl
  | v :: l, k, cs => by
    rw [List.zipIdx_cons, List.foldl_cons, zip_put off l (k + 1)]
    rfl
def dA (f : Nat → Nat) : Array Value := putA zero26 1 (cA f).toList
theorem built48 (parts : List (Nat × Value)) : Tryd.prog.built 48 parts = Instr.fill (fun i => ([(0, 1), (1, 256), (257, 1), (258, 1)] : List (Nat × Nat)).toArray[i]?) zero26 parts := by kernel_rfl
theorem built48c (f : Nat → Nat) : Tryd.prog.built 48 [(1, .agg (cA f))] = some (dA f) := by
  rw [built48]
  have hc : (Value.agg (cA f)).cells = cA f := rfl
  have h1 : (List.toArray [((0 : Nat), (1 : Nat)), (1, 256), (257, 1), (258, 1)])[1]? = some (1, 256) := rfl
  have h2 : (decide (256 ≠ 256) || decide (1 + 256 > zero26.size)) = false := by rw [zero26_size]; rfl
  unfold Instr.fill
  simp only [h1, hc, cA_size]
  rw [h2, if_neg (by decide)]
  unfold Instr.fill dA
  rw [← Array.foldl_toList, Array.toList_zipIdx]
  exact congrArg some (zip_put 1 (cA f).toList 0 zero26)
theorem dA_size (f : Nat → Nat) : (dA f).size = 259 := by unfold dA; rw [putA_size]; exact zero26_size
theorem dA_get (f : Nat → Nat) {i : Nat} (h : i < 256) : (dA f)[1 + i]? = some (.int .u8 (f i : Nat)) := by
  unfold dA
  rw [putA_get _ _ _ _ (by rw [zero26_size, Array.length_toList, cA_size]; omega), if_pos (by rw [Array.length_toList, cA_size]; omega), show 1 + i - 1 = i by omega, Array.getElem?_toList]
  exact cA_get f h
theorem dA_out (f : Nat → Nat) {j : Nat} (h : j = 0 ∨ 257 ≤ j) : (dA f)[j]? = zero26[j]? := by
  unfold dA
  rw [putA_get _ _ _ _ (by rw [zero26_size, Array.length_toList, cA_size]; omega), if_neg (by rw [Array.length_toList, cA_size]; omega)]
theorem zero26_one : ∀ v ∈ zero26, v.oneCell' = true := by
  have h : (zero26.all (·.oneCell')) = true := by kernel_rfl
  intro v hv
  obtain ⟨i, hi, rfl⟩ := Array.getElem_of_mem hv
  exact Array.all_eq_true.1 h i hi
theorem putA_one : ∀ (vs : List Value) (cs : Array Value) (o : Nat), (∀ v ∈ cs, v.oneCell' = true) → (∀ v ∈ vs, v.oneCell' = true) → ∀ v ∈ putA cs o vs, v.oneCell' = true
  | [], cs, o, h, _ => h
  | x :: vs, cs, o, h, h2 => putA_one vs _ (o + 1) (fun v hv => by
      rcases Array.mem_or_eq_of_mem_setIfInBounds hv with h3 | h3
      · exact h v h3
      · rw [h3]; exact h2 x (List.mem_cons_self ..)) (fun v hv => h2 v (List.mem_cons_of_mem _ hv))
theorem dA_one (f : Nat → Nat) : ∀ v ∈ dA f, v.oneCell' = true := putA_one _ _ _ zero26_one (fun v hv => by
  have h := cA_one f
  obtain ⟨i, hi, rfl⟩ := Array.getElem_of_mem (Array.mem_toList_iff.1 hv)
  exact Array.all_eq_true.1 h i hi)
theorem wpList_build48 {ops : Array Oper} {rest : List Oper} {o : Oper} {a : Act} {w : World} {Q : Exit → Act → World → Prop} (hg : o.guard = none) (x : Operand) (ho : o.op = .build 48 #[(1, x)]) (f : Nat → Nat) (hx : a.eval x = .agg (cA f))
    (h : wpList Tryd.prog ops Q rest (a.put o.dst (.agg (dA f))) w) : wpList Tryd.prog ops Q (o :: rest) a w := by
  have e : ((#[(1, x)] : Array (Nat × Operand)).map fun (i, x) => (i, a.eval x)).toList = [(1, .agg (cA f))] := by simp [hx]
  refine wpList_build hg 48 _ ho ?_ ?_
  · rw [e, built48c, Option.isSome_some]
  · rw [e, built48c, Option.getD_some]; exact h
theorem info45z : (Tryd.prog.info? 45).map (fun i => (i.zero, i.size)) = some (some (.agg (Array.replicate 256 (.int .u8 0))), 256) := by kernel_rfl
end Go.Proofs.YthglciccejholaaDoor
end
