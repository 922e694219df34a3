/- Packages dfa, mini, munch. -/
import Derived.Test.YtbdbnjbafampaaaProg
import Derived.Test.YtbdbnjbafampaaaDk
import Derived.WalkKit
import Derived.BigFrame
import Derived.Stop.BytesEq
import Derived.WalkLawsBesides
import Derived.WalkSpells
import Derived.Outline
import Derived.Lib.Walk
import Derived.Lib.Hide
import Derived.Lib.Slices
import Derived.Lib.Strings
import Derived.RegionTactic
import Derived.LoopTactic
import Derived.Below
import Derived.IntWalk
import Derived.Deep.QuietTactic
import Derived.BigQuiet
import Derived.Deep.MidRow
import Derived.Maps.AppendAt
import Derived.Laws.Rows
import Derived.Laws.Tables
import Derived.Deep.WholeRow
import Derived.Deep.Cut
import Derived.Deep.CutRange
import Derived.Lib.SliceRun
import Derived.Laws.MakeOwn
import Derived.Deep.RegionLaw
import Derived.Deep.RegionLawGrows
import Derived.Deep.RegionHeld3
import Derived.RegionCalls
import Derived.Deep.RegionWith
import Derived.Deep.Light
import Derived.Laws.CopyOwn
import Derived.Laws.ResultCell
namespace Go.Proofs.Ytbdbnjbafampaaa
set_option linter.unusedSimpArgs false
set_option linter.unusedVariables false
set_option maxRecDepth 100000
open Go.RowKit
/- TwinDfa. -/
def TwD (w : World) (d : Df) (e : Ending) (w' : World) : Prop := ∃ ds' g cap zs ms q f, e = .returned (.agg ds') ∧ DC d ds' (some ⟨g, 0, none⟩) q cap f ∧ zs.map (fun z : Ni => z.1) = d.nx ∧ (∀ z ∈ zs, z.2.1 = mk7 3) ∧ ms.map (fun z : Ni => z.1) = mks 3 ∧
  TN w.heap.size (zs ++ ms) (.slice (some ⟨g, 0, none⟩) (d.nx.length + 3) cap) w' ∧ TI w.heap.size w' d.rl (.slice q d.rl.length f) ∧ Below w.heap.size w w'
theorem tr_of_ti {B : Nat} {w : World} {l : List Int} {g cap : Nat} (h : w.ownsRow B 3 1 (.slice (some ⟨g, 0, none⟩) (l.length + 3) cap) (l.length + 3) (zi (l ++ mk7 3))) : TR B w (tw l g cap) := by
  unfold TR tw
  simp only [List.length_append, mk7_len]
  exact h
theorem tr_mark {w : World} {B : Nat} (k : Nat) (h : B ≤ w.heap.size) : TR B (w.alloc (.cells #[.int .i64 (-7000 - (k : Int))] 3)) (mkr k w.heap.size 1) :=
  ⟨by simp [mkr, zi], .inr ⟨w.heap.size, 1, _, rfl, h, heap_alloc_new _ _, by simp [mkr], by simp [maxLen], by simp, by simp [mkr, zi]⟩⟩
theorem nV_one (z : Ni) : ∀ v ∈ [nV z], v.oneCell' = true := by
  intro v hv; simp at hv; subst hv; rfl
set_option maxHeartbeats 16000000 in
theorem twin_dfa {D : Nat → Prop} {w : World} {d : Df} {ds : Array Value} {p q : Option Addr} {c f : Nat} (hd : DC d ds p q c f) (hm : DM D w d p q c f) (hl1 : d.nx.length ≤ 1000000) (hl2 : d.rl.length ≤ 1000000) (hl3 : ∀ r ∈ d.nx, r.length ≤ 1000000) :
    Calls Try.prog 16 #[.agg ds] w (TwD w d) := by
  obtain ⟨i0, hi, hz0, hz1, hz2⟩ := info_parts info24b
  have hz := (zero_of_info info26r).1
  have hs0 := ((Sb.start w).alloc (.cells ds 26)).alloc (.cells zero26 26)
  have hs1 : (w.alloc (.cells ds 26)).heap.size = w.heap.size + 1 := by simp
  rw [hs1] at hs0
  have S0 := Lib.hid hs0
  have HGE : Hid (w.heap.size + 2 ≤ ((w.alloc (.cells ds 26)).alloc (.cells zero26 26)).heap.size) := Lib.hid (by simp)
  have HNV := Lib.hid hm.nx
  have HM := Lib.hid hm
  have HLT := Lib.hid hm.lt
  have HL3 := Lib.hid hl3
  have HL2 := Lib.hid hl2
  have HDC := Lib.hid hd
  have A1 := Lib.hid hd.nx
  have A2 := Lib.hid hd.rl
  obtain ⟨n, hn⟩ : ∃ n, d.nx.length = n := ⟨_, rfl⟩
  rw [hn] at A1 hl1
  have HN := Lib.hid hn
  clear hd hm hs0 hs1 hl2 hl3 hn
  go_enter Try.func16, Try.ntmps16
  go_wp2_with fail
  go_loopw [3, 4] (fun sl i wr => ∃ (j : Nat) (zs : List Ni), i = .int .i64 (j : Nat) ∧ j ≤ n ∧ Hid (zs.map (fun z : Ni => z.1) = d.nx.take j ∧ ∀ z ∈ zs, z.2.1 = mk7 3) ∧ Hid (TN (w.heap.size + 2) zs sl wr) ∧ Hid (Sb w wr [(w.heap.size + 1, .cells zero26 26), (w.heap.size, .cells ds 26)])) (fun _ i _ => n - (intOf i).toNat)
  case atStart => exact ⟨0, [], rfl, by omega, Lib.hid (by simp), Lib.hid (TN.nil _ _), S0⟩
  case round =>
  clear S0 HGE hz
  obtain ⟨j, zs, rfl, hj, HZ, HT, HS⟩ := hrel
  have cq : wr.cell? ⟨w.heap.size, 257, none⟩ = some (.slice p n c) := (HS.out.tl.cell 257).trans A1.out
  have hzl : zs.length = j := by
    have := congrArg List.length HZ.out.1
    have h2 := HN.out
    simp at this
    omega
  obtain ⟨pz, cz, hsl⟩ := HT.out.form
  rw [hzl] at hsl
  subst hsl
  have HZL := Lib.hid hzl
  clear hzl
  by_cases hlt : j < n
  · have hlt2 : j < d.nx.length := by rw [HN.out]; exact hlt
    obtain ⟨p', c', he, hh⟩ := HNV.out
    injection he with e1 e2 e3
    subst e1 e3
    obtain ⟨b, o, rfl, hb, hc⟩ := hh (by intro e; rw [e] at hlt2; simp at hlt2)
    obtain ⟨qf, ff, hiv, hcj⟩ := hc j hlt2
    have hbw := HLT.out b hb
    have cx : wr.cell? ⟨b, o + j, none⟩ = some (.slice qf d.nx[j].length ff) := (cell_same (HS.out.1.block b hbw) _).trans hcj
    have HSJ : Hid (d.nx.take (j + 1) = d.nx.take j ++ [d.nx[j]]) := Lib.hid (by rw [List.take_add_one, List.getElem?_eq_getElem hlt2]; rfl)
    have HFN := Lib.hid (HL3.out d.nx[j] (List.getElem_mem hlt2))
    clear hh hc hcj e2
    generalize d.nx[j] = r at *
    have HCC : Hid (Calls Try.prog 41 #[.slice qf r.length ff] wr (TwI wr r)) := Lib.hid (twin_ints HFN.out (fun b hb => Nat.lt_of_lt_of_le (HLT.out b hb) HS.out.1.size) (hiv.mono (fun b h => h) (fun b hb _ => HS.out.1.block b (HLT.out b hb))))
    have hltI : (j : Int) < (n : Int) := by omega
    have hjI : ¬ (j : Int) < 0 := by omega
    clear hiv hb hbw hlt2
    go_wp2_with fail
    refine HCC.out.mono ?_
    rintro _ w7 ⟨_, rfl, ⟨g, cap, rfl, hrow⟩, hb⟩
    have hglt := hrow.lt g rfl
    have HS4 := Lib.hid (HS.out.up hb)
    have HT4 := Lib.hid (HT.out.up hb)
    have HTL := Lib.hid fun g (hg : (Value.slice pz j cz).ownBlock = some g) => World.ownsRow.lt HT.out.2 g hg
    have HWO := Lib.hid HS.out.lt
    have HR4 : Hid (TR (w.heap.size + 2) w7 (tw r g cap)) := Lib.hid (row_base (tr_of_ti hrow) (by have := HWO.out; omega))
    have HGL := Lib.hid hglt
    clear hrow hb hglt HCC HS HT cq cx
    have HB0 := Lib.hid ((Below.refl w7.heap.size w7).alloc (Nat.le_refl _) (.cells #[.slice (some ⟨g, 0, none⟩) r.length cap] 24))
    have HT7 := Lib.hid (HT4.out.up HB0.out)
    have HS7 := Lib.hid (HS4.out.alloc (.cells #[.slice (some ⟨g, 0, none⟩) r.length cap] 24)).tl
    have HR7 : Hid (TR (w.heap.size + 2) (w7.alloc (.cells #[.slice (some ⟨g, 0, none⟩) r.length cap] 24)) (tw r g cap)) := Lib.hid (World.ownsRow.alloc HR4.out _)
    have HX4 : Hid ((w7.alloc (.cells #[.slice (some ⟨g, 0, none⟩) r.length cap] 24)).ownsRow (w.heap.size + 2) 24 1 (.slice pz j cz) j (zs.map nV)) := Lib.hid (by
      have h := HT7.out.2
      rw [HZL.out] at h
      exact h)
    have HC0 : Hid (∀ j' v, [nV (tw r g cap)][j']? = some v → (w7.alloc (.cells #[.slice (some ⟨g, 0, none⟩) r.length cap] 24)).cell? ((⟨w7.heap.size, 0, none⟩ : Addr).add j') = some v) := Lib.hid fun j' v hj => by
      rw [Addr.add_mid, cell_of_row _ w7.heap.size (0 + j') _ 24 (0, 0) (heap_alloc_last w7 _), Nat.zero_add, ← hj]
      cases j' <;> rfl
    have HY1 : Hid ((w7.alloc (.cells #[.slice (some ⟨g, 0, none⟩) r.length cap] 24)).heap.size = w7.heap.size + 1) := Lib.hid (by simp)
    have HYS := Lib.hid (show w.heap.size + 2 ≤ (w7.alloc (.cells #[.slice (some ⟨g, 0, none⟩) r.length cap] 24)).heap.size by have := HWO.out; have := HY1.out; have := HGL.out; omega)
    clear HS4 HT4 HR4 HB0
    go_wp2_with (at_builtin; refine wpList_append_own_at _ rfl (.tmp 13) (.tmp 20) 23 rfl (w.heap.size + 2) 24 i0 _ 1 24 Try.underlying23 hi hz0 hz1 hz2 rfl (by decide) (.slice pz j cz) j (zs.map nV) rfl ?c0 ⟨w7.heap.size, 0, none⟩ 1 1 [nV (tw r g cap)] rfl rfl ?c1 (nV_one _) ?c3 ?c4 ?c5 ?_)
    case c0 => exact HX4.out
    case c1 => exact HC0.out
    case c3 => unfold maxLen; omega
    case c4 => omega
    case c5 => exact HYS.out
    intro v8 w8 hown8 hg8 _ hat8
    have HTA : Hid (TN (w.heap.size + 2) (zs ++ [tw r g cap]) v8 w8) := Lib.hid (HT7.out.app HR7.out (fun e => by
      have h1 := HTL.out g e.symm
      have h2 := HGL.out.1
      omega) (by rw [HZL.out]; exact hown8) hg8 (by rw [HY1.out]; exact hat8))
    have HSA : Hid (Sb w w8 [(w.heap.size + 1, .cells zero26 26), (w.heap.size, .cells ds 26)]) := Lib.hid (HS7.out.grown hg8 (fun g' e => by
      have h1 := World.ownsRow.lt HX4.out g' e
      refine ⟨by omega, fun x hx => ?_⟩
      simp only [List.mem_cons, List.mem_nil_iff, or_false] at hx
      rcases hx with rfl | rfl
      · show w.heap.size + 1 ≠ g'; omega
      · show w.heap.size ≠ g'; omega))
    have HZA : Hid ((zs ++ [tw r g cap]).map (fun z : Ni => z.1) = d.nx.take (j + 1) ∧ ∀ z ∈ zs ++ [tw r g cap], z.2.1 = mk7 3) := Lib.hid ⟨by rw [HSJ.out, List.map_append, HZ.out.1]; rfl, fun z hz => by
      rcases List.mem_append.1 hz with h | h
      · exact HZ.out.2 z h
      · simp at h; subst h; rfl⟩
    clear hown8 hg8 hat8 HX4 HC0 HYS HS7 HT7 HR7 HTL
    go_wp2_with fail
    go_roundw
    case rel => exact ⟨j + 1, _, by go_num, by omega, HZA, HTA, HSA⟩
    case measure => simp [intOf]; omega
  · obtain rfl : j = n := by omega
    have hltI : ¬ (j : Int) < (j : Int) := by omega
    have HZ2 : Hid (zs.map (fun z : Ni => z.1) = d.nx ∧ ∀ z ∈ zs, z.2.1 = mk7 3) := Lib.hid ⟨by have := HZ.out.1; rwa [List.take_of_length_le (by rw [HN.out]; omega)] at this, HZ.out.2⟩
    have HT0 : Hid (TN (w.heap.size + 2) (zs ++ []) (.slice pz j cz) wr) := Lib.hid (by rw [List.append_nil]; exact HT.out)
    clear HT HZ
    go_wp2_with fail
    clear cq
    go_loopw [3, 5] (fun sl i wr => ∃ (m : Nat) (ms : List Ni), i = .int .i64 (m : Nat) ∧ m ≤ 3 ∧ Hid (ms.map (fun z : Ni => z.1) = mks m) ∧ Hid (TN (w.heap.size + 2) (zs ++ ms) sl wr) ∧ Hid (Sb w wr [(w.heap.size + 1, .cells zero26 26), (w.heap.size, .cells ds 26)])) (fun _ i _ => 3 - (intOf i).toNat)
    case atStart => exact ⟨0, [], rfl, by omega, Lib.hid rfl, HT0, HS⟩
    case round =>
    clear HT0 HS
    obtain ⟨m, ms, rfl, hm, HMS, HT, HS⟩ := hrel
    obtain ⟨pm, cm, hsl⟩ := HT.out.form
    have hzm : (zs ++ ms).length = j + m := by
      have := congrArg List.length HMS.out
      rw [List.length_map, mks_len] at this
      rw [List.length_append, HZL.out, this]
    rw [hzm] at hsl
    subst hsl
    have HZM := Lib.hid hzm
    clear hzm
    by_cases hm3 : m < 3
    · have hm3I : (m : Int) < 3 := by omega
      have HWO := Lib.hid HS.out.lt
      have HTL := Lib.hid fun g (hg : (Value.slice pm (j + m) cm).ownBlock = some g) => World.ownsRow.lt HT.out.2 g hg
      have hy1 : (wr.alloc (.cells #[.int .i64 (-7000 - (m : Int))] 3)).heap.size = wr.heap.size + 1 := by simp
      have HR1 : Hid (TR (w.heap.size + 2) (wr.alloc (.cells #[.int .i64 (-7000 - (m : Int))] 3)) (mkr m wr.heap.size 1)) := Lib.hid (tr_mark m (by have := HWO.out; omega))
      have HT1 := Lib.hid (HT.out.up ((Below.refl wr.heap.size wr).alloc (Nat.le_refl _) (.cells #[.int .i64 (-7000 - (m : Int))] 3)))
      have HS1 := Lib.hid (HS.out.alloc (.cells #[.int .i64 (-7000 - (m : Int))] 3)).tl
      have HV : Hid (nV (mkr m wr.heap.size 1) = .slice (some ⟨wr.heap.size, 0, none⟩) 1 1) := Lib.hid rfl
      have HT7 := Lib.hid (HT1.out.up ((Below.refl _ (wr.alloc (.cells #[.int .i64 (-7000 - (m : Int))] 3))).alloc (Nat.le_refl _) (.cells #[.slice (some ⟨wr.heap.size, 0, none⟩) 1 1] 24)))
      have HS7 := Lib.hid (HS1.out.alloc (.cells #[.slice (some ⟨wr.heap.size, 0, none⟩) 1 1] 24)).tl
      have HR7 : Hid (TR (w.heap.size + 2) ((wr.alloc (.cells #[.int .i64 (-7000 - (m : Int))] 3)).alloc (.cells #[.slice (some ⟨wr.heap.size, 0, none⟩) 1 1] 24)) (mkr m wr.heap.size 1)) := Lib.hid (World.ownsRow.alloc HR1.out _)
      have HX4 : Hid (((wr.alloc (.cells #[.int .i64 (-7000 - (m : Int))] 3)).alloc (.cells #[.slice (some ⟨wr.heap.size, 0, none⟩) 1 1] 24)).ownsRow (w.heap.size + 2) 24 1 (.slice pm (j + m) cm) (j + m) ((zs ++ ms).map nV)) := Lib.hid (by
        have h := HT7.out.2
        rw [HZM.out] at h
        exact h)
      have HC0 : Hid (∀ j' v, [nV (mkr m wr.heap.size 1)][j']? = some v → ((wr.alloc (.cells #[.int .i64 (-7000 - (m : Int))] 3)).alloc (.cells #[.slice (some ⟨wr.heap.size, 0, none⟩) 1 1] 24)).cell? ((⟨wr.heap.size + 1, 0, none⟩ : Addr).add j') = some v) := Lib.hid fun j' v hj => by
        have hl := heap_alloc_last (wr.alloc (.cells #[.int .i64 (-7000 - (m : Int))] 3)) (.cells #[.slice (some ⟨wr.heap.size, 0, none⟩) 1 1] 24)
        rw [hy1] at hl
        rw [Addr.add_mid, cell_of_row _ (wr.heap.size + 1) (0 + j') _ 24 (0, 0) hl, Nat.zero_add, ← hj]
        cases j' <;> rfl
      have HY1 : Hid (((wr.alloc (.cells #[.int .i64 (-7000 - (m : Int))] 3)).alloc (.cells #[.slice (some ⟨wr.heap.size, 0, none⟩) 1 1] 24)).heap.size = wr.heap.size + 2) := Lib.hid (by simp)
      clear HS HT HT1 HS1 HR1 hy1
      go_wp2_with (at_builtin; refine wpList_append_own_at _ rfl (.tmp 26) (.tmp 30) 23 rfl (w.heap.size + 2) 24 i0 _ 1 24 Try.underlying23 hi hz0 hz1 hz2 rfl (by decide) (.slice pm (j + m) cm) (j + m) ((zs ++ ms).map nV) rfl ?c0 ⟨wr.heap.size + 1, 0, none⟩ 1 1 [nV (mkr m wr.heap.size 1)] rfl rfl ?c1 (nV_one _) ?c3 ?c4 ?c5 ?_)
      case c0 => exact HX4.out
      case c1 => exact HC0.out
      case c3 => unfold maxLen; omega
      case c4 => omega
      case c5 => have := HY1.out; have := HWO.out; omega
      intro v8 w8 hown8 hg8 _ hat8
      have HTA : Hid (TN (w.heap.size + 2) (zs ++ (ms ++ [mkr m wr.heap.size 1])) v8 w8) := Lib.hid (by
        rw [← List.append_assoc]
        exact HT7.out.app HR7.out (fun e => by
          have h1 := HTL.out _ e.symm
          have h2 : (mkr m wr.heap.size 1).2.2.1 = wr.heap.size := rfl
          omega) (by rw [HZM.out, List.map_append, List.append_assoc]; exact hown8) hg8 (by rw [HY1.out]; exact hat8))
      have HSA : Hid (Sb w w8 [(w.heap.size + 1, .cells zero26 26), (w.heap.size, .cells ds 26)]) := Lib.hid (HS7.out.grown hg8 (fun g' e => by
        have h1 := World.ownsRow.lt HX4.out g' e
        refine ⟨by omega, fun x hx => ?_⟩
        simp only [List.mem_cons, List.mem_nil_iff, or_false] at hx
        rcases hx with rfl | rfl
        · show w.heap.size + 1 ≠ g'; omega
        · show w.heap.size ≠ g'; omega))
      have HMA : Hid ((ms ++ [mkr m wr.heap.size 1]).map (fun z : Ni => z.1) = mks (m + 1)) := Lib.hid (by rw [mks_succ, List.map_append, HMS.out]; rfl)
      clear hown8 hg8 hat8 HX4 HC0 HS7 HT7 HR7 HTL HY1
      go_wp2_with fail
      go_roundw
      case rel => exact ⟨m + 1, _, by go_num, by omega, HMA, HTA, HSA⟩
      case measure => simp [intOf]; omega
    · obtain rfl : m = 3 := by omega
      rw [show ((3 : Nat) : Int) = 3 from rfl]
      obtain ⟨g, cap, hsl, hcap⟩ := row_own HT.out.2 (by rw [HZM.out]; omega)
      rw [HZM.out] at hcap
      have ha : pm = some ⟨g, 0, none⟩ ∧ cm = cap := by
        injection hsl with e1 e2 e3
        exact ⟨e1, e3⟩
      obtain ⟨rfl, rfl⟩ := ha
      have HT9 := Lib.hid HT.out
      have HGB := Lib.hid (World.ownsRow.lt HT.out.2 g rfl)
      have HSX : Sb w wr [(w.heap.size, .cells ds 26), (w.heap.size + 1, .cells zero26 26)] := ⟨HS.out.1, fun x hx => HS.out.2 x (by
        simp only [List.mem_cons, List.mem_nil_iff, or_false] at hx ⊢
        exact hx.symm)⟩
      have c257 : wr.cell? ⟨w.heap.size, 257, none⟩ = some (.slice p j c) := (HSX.cell 257).trans A1.out
      have z257 : wr.frozen? ⟨w.heap.size, 257, none⟩ = false := HSX.free 257
      have hsb1 := HSX.set (i := 257) (.slice (some ⟨g, 0, none⟩) j cm) (by simp)
      have SB1 := Lib.hid hsb1
      have k258 : (wr.setCell ⟨w.heap.size, 257, none⟩ (.slice (some ⟨g, 0, none⟩) j cm)).cell? ⟨w.heap.size, 258, none⟩ = some (.slice q d.rl.length f) := by
        rw [hsb1.cell 258, Array.getElem?_setIfInBounds_ne (by decide)]; exact A2.out
      have HGR1 := Lib.hid (set_grown wr w.heap.size 257 (.slice (some ⟨g, 0, none⟩) j cm))
      have HT10 : Hid (TN (w.heap.size + 2) (zs ++ ms) (.slice (some ⟨g, 0, none⟩) (j + 3) cm) (wr.setCell ⟨w.heap.size, 257, none⟩ (.slice (some ⟨g, 0, none⟩) j cm))) := Lib.hid (TN.other HT9.out HGR1.out (fun z hz => by have := (HT9.out.1 z hz).1.lt.1; omega) (fun e => by
        have e2 : g = w.heap.size := by simpa [Value.ownBlock] using e
        have := HGB.out.1; omega))
      have HCC : Hid (Calls Try.prog 41 #[.slice q d.rl.length f] (wr.setCell ⟨w.heap.size, 257, none⟩ (.slice (some ⟨g, 0, none⟩) j cm)) (TwI (wr.setCell ⟨w.heap.size, 257, none⟩ (.slice (some ⟨g, 0, none⟩) j cm)) d.rl)) := Lib.hid (twin_ints HL2.out (HM.out.up hsb1.1).lt (HM.out.up hsb1.1).rl)
      have i1 : ((j : Nat) : Int) ≤ (cm : Int) := by omega
      have i0' : (0 : Int) ≤ ((j : Nat) : Int) := by omega
      have HWS : Hid (w.heap.size + 2 ≤ (wr.setCell ⟨w.heap.size, 257, none⟩ (.slice (some ⟨g, 0, none⟩) j cm)).heap.size) := Lib.hid (by have := HGB.out; simp; omega)
      clear hsl HT HS HSX hcap hsb1
      go_wp2_with fail
      refine HCC.out.mono ?_
      rintro _ w7 ⟨_, rfl, ⟨g2, cap2, rfl, hrow⟩, hb⟩
      have hsb2 := SB1.out.up hb
      have HT11 := Lib.hid (HT10.out.up hb)
      have HR := Lib.hid (row_base hrow HWS.out)
      have z258 : w7.frozen? ⟨w.heap.size, 258, none⟩ = false := hsb2.free 258
      have c258 : w7.cell? ⟨w.heap.size, 258, none⟩ = some (.slice q d.rl.length f) := by
        rw [hsb2.cell 258, Array.getElem?_setIfInBounds_ne (by decide)]; exact A2.out
      have hsb3 := hsb2.set (i := 258) (.slice (some ⟨g2, 0, none⟩) d.rl.length cap2) (by simp)
      have HGR2 := Lib.hid (set_grown w7 w.heap.size 258 (.slice (some ⟨g2, 0, none⟩) d.rl.length cap2))
      obtain ⟨ds', hds⟩ : ∃ ds', (ds.setIfInBounds 257 (.slice (some ⟨g, 0, none⟩) j cm)).setIfInBounds 258 (.slice (some ⟨g2, 0, none⟩) d.rl.length cap2) = ds' := ⟨_, rfl⟩
      rw [hds] at hsb3
      have HB3 : Hid (BX (w7.setCell ⟨w.heap.size, 258, none⟩ (.slice (some ⟨g2, 0, none⟩) d.rl.length cap2)) w.heap.size ds') := Lib.hid hsb3.heap
      have hsb4 := hsb3.sub (M := [(w.heap.size + 1, .cells zero26 26)]) (by simp)
      have HY2 := Lib.hid hsb4.heap
      have SB3 := Lib.hid (hsb4.setRow (cs' := ds') (by simp))
      have hdc : DC d ds' (some ⟨g, 0, none⟩) (some ⟨g2, 0, none⟩) cm cap2 := by
        have h0 := HDC.out
        have hs := h0.sz
        subst hds
        refine ⟨by simp [hs], fun v hv => ?_, ?_, fun i hi => ?_, ?_, ?_⟩
        · rw [Array.mem_iff_getElem] at hv
          obtain ⟨i, hi, rfl⟩ := hv
          rw [Array.getElem_setIfInBounds (by simpa using hi)]
          split
          · rfl
          · rw [Array.getElem_setIfInBounds (by simpa using hi)]
            split
            · rfl
            · exact h0.one _ (Array.getElem_mem _)
        · rw [Array.getElem?_setIfInBounds_ne (by decide), Array.getElem?_setIfInBounds_ne (by decide)]; exact h0.st
        · rw [Array.getElem?_setIfInBounds_ne (by omega), Array.getElem?_setIfInBounds_ne (by omega)]; exact h0.cl i hi
        · rw [Array.getElem?_setIfInBounds_ne (by decide), Array.getElem?_setIfInBounds_self_of_lt (by rw [hs]; decide), HN.out]
        · rw [Array.getElem?_setIfInBounds_self_of_lt (by simp [hs])]
      have HDC2 := Lib.hid hdc
      clear hb hrow hsb2 hsb3 hsb4 hds hdc k258 c257 z257 HCC SB1 HT10
      go_wp2_with (first | (refine wpList_load_Dg _ rfl w.heap.size ds' rfl HB3.out HDC2.out.sz rfl ?_) | (refine wpList_store_row rfl 26 (.tmp 2) (.tmp 42) rfl (w.heap.size + 1) ds' rfl rfl 26 _ HY2.out (by rw [info26, HDC2.out.sz]) (by rw [zero26_size, HDC2.out.sz]) ?one ?_))
      case one => exact Array.all_eq_true_iff_forall_mem.2 HDC2.out.one
      refine bodyPost_ret (v := .agg ds') (results_cell_row rfl _ _ (w.heap.size + 1) 26 _ (0, 0) _ rfl (setRow_heap _ (w.heap.size + 1) _ _ 26 (0, 0) HY2.out) Try.underlying26 rfl (by rw [info26, HDC2.out.sz])) rfl ⟨ds', g, cm, zs, ms, some ⟨g2, 0, none⟩, cap2, rfl, HDC2.out, HZ2.out.1, HZ2.out.2, HMS.out, ?_, ?_, SB3.out.1⟩
      · have hG := HGB.out.1
        rw [HN.out]
        refine TN.base (B := w.heap.size + 2) ?_ (by omega)
        refine TN.other (b := w.heap.size + 1) (TN.other (b := w.heap.size) HT11.out HGR2.out (fun z hz => by have := (HT11.out.1 z hz).1.lt.1; omega) (fun e => absurd (show g = w.heap.size by simpa [Value.ownBlock] using e) (by omega))) (row_grown _ _ _) (fun z hz => by have := (HT11.out.1 z hz).1.lt.1; omega) ?_
        intro e
        have : g = w.heap.size + 1 := by simpa [Value.ownBlock] using e
        omega
      · have hG := (HR.out.lt g2 rfl).1
        refine ⟨g2, cap2, rfl, row_base (B := w.heap.size + 2) ?_ (by omega)⟩
        refine World.ownsRow.kept (World.ownsRow.kept HR.out HGR2.out (.inr (fun e => ?_))) (row_grown _ _ _) (.inr (fun e => ?_))
        · have : g2 = w.heap.size := by simpa [Value.ownBlock] using e
          omega
        · have : g2 = w.heap.size + 1 := by simpa [Value.ownBlock] using e
          omega
end Go.Proofs.Ytbdbnjbafampaaa
