/- Package grams. -/
import Derived.Test.YtpmkdpjcpimhkaaProg
import Derived.Test.YtpmkdpjcpimhkaaIs0
import Derived.Deep.SlicePairs
import Derived.Deep.Slices
import Derived.Laws.IdiomArrays
import Derived.OpenShut
import Derived.WideBlind
import Derived.Great.BuildSlice
import Derived.WalkKit
import Derived.Maps.OwnSet
import Derived.Maps.OwnOps
import Derived.Maps.Own
import Derived.DeepKeys5
import Derived.BigFrame
import Derived.WalkMore
import Derived.ScopeJumps
import Derived.StillTailTactics
import Derived.Stop.BytesEq
import Derived.WalkLawsBesides
import Derived.WalkSpells
import Derived.Outline
import Derived.Lib.Walk
import Derived.Lib.Hide
import Derived.Lib.Slices
import Derived.Lib.Strings
import Derived.RegionTactic
import Derived.LoopTactic
import Derived.Below
import Derived.IntWalk
import Derived.Deep.QuietTactic
import Derived.BigQuiet
import Derived.Deep.MidRow
import Derived.Maps.AppendAt
import Derived.Laws.Rows
import Derived.Laws.Tables
import Derived.Deep.WholeRow
import Derived.Deep.Cut
import Derived.Deep.CutRange
import Derived.Lib.SliceRun
import Derived.Laws.MakeOwn
import Derived.Deep.RegionLaw
import Derived.Deep.RegionLawGrows
import Derived.Deep.RegionHeld3
import Derived.RegionCalls
import Derived.Deep.RegionWith
import Derived.Deep.Light
import Derived.Laws.CopyOwn
import Derived.Laws.ResultCell
namespace Go.Proofs.Ytpmkdpjcpimhkaa
set_option linter.unusedSimpArgs false
set_option linter.unusedVariables false
set_option maxRecDepth 100000
open Go.RowKit
/- GramsTurned. -/
open Go.Maps
theorem same_self {D E : Nat → Prop} {w : World} {l : List Int} {pa pb : Option Addr} {ca cb : Nat} (hla : l.length ≤ 9223372036854775806) (hD : ∀ b, D b → b < w.heap.size) (hE : ∀ b, E b → b < w.heap.size) (ha : IV D w l (.slice pa l.length ca)) (hb : IV E w l (.slice pb l.length cb)) :
    Calls Try.prog 20 #[.slice pa l.length ca, .slice pb l.length cb] w fun e w' => e = .returned (.bool true) ∧ Below w.heap.size w w' :=
  (same_any hla hD hE ha hb).mono fun e w' h => ⟨by rw [h.1, decide_eq_true rfl], h.2⟩
set_option maxHeartbeats 16000000 in
theorem turned_any {D : Nat → Prop} {w : World} {g : Gr} {p : Option Addr} {c : Nat} (sym : Int) (hg : GM D w g.ps p) (hc : g.ps.length ≤ c) :
    Calls Try.prog 9 #[.agg #[.int .i64 g.t, .int .i64 g.s, .int .i64 g.st, .slice p g.ps.length c], .int .i64 sym] w fun e w' => e = .returned (.bool true) ∧ Below w.heap.size w w' := by
  obtain ⟨i0, hi, hiz0, hiz1, hiz2⟩ := info_parts info38b
  have HG := Lib.hid hg
  have hz3 := zero38
  have hz2 := zero24
  obtain ⟨b1, hb1⟩ : ∃ b, w.heap.size = b := ⟨_, rfl⟩
  have HBE := Lib.hid hb1
  have S0 := Lib.hid ((Sep.start w).allocAt hb1 (.cells (gC g p c) 24))
  have HBG := Lib.hid (fun (z : World) (hz : Below w.heap.size w z) => big_any (c := c) (hg.up hz))
  have HCK := Lib.hid (fun (z : World) (hz : Below w.heap.size w z) => check_any (c := c) (hg.up hz) hc)
  have HFO := Lib.hid (fun (z : World) (hz : Below w.heap.size w z) => follow_any (c := c) sym (hg.up hz) hc)
  have HFI := Lib.hid (fun (z : World) (hz : Below w.heap.size w z) => first_any (c := c) sym (hg.up hz) hc)
  have HAL := Lib.hid alive_any
  have hnot : ∀ (x : Bool) (w : World), (Op.unary .not (.bool x)).run Try.prog w = .ok (.bool (!x)) w := fun _ _ => rfl
  have HTB : Hid (decide (100000 < tot g.ps) = false → g.ps.length ≤ 100000) := Lib.hid (fun h => by have := of_decide_eq_false h; unfold tot at this; omega)
  unfold gC at S0
  clear hg hc
  go_enter Try.func9, Try.ntmps9
  go_upto_region 1 with fail
  refine at_world (fun v => Sep b1 w v [.box b1 (.cells #[.int .i64 g.t, .int .i64 g.s, .int .i64 g.st, .slice p g.ps.length c] 24 (0, 0))]) (HBE.out ▸ S0.out) fun y1 hy1 => ?_
  have S1 := Lib.hid hy1
  clear hy1 S0 hb1
  have k0 := (S1.out.boxAt 0).trans rfl
  have k1 := (S1.out.boxAt 1).trans rfl
  have k2 := (S1.out.boxAt 2).trans rfl
  have k3 := (S1.out.boxAt 3).trans rfl
  have H1 := Lib.hid (HBG.out y1 (HBE.out ▸ S1.out.bel))
  obtain ⟨tb, htb⟩ : ∃ b, decide (100000 < tot g.ps) = b := ⟨_, rfl⟩
  rw [htb] at H1 HTB
  clear htb
  go_wp2_with fail
  refine H1.out.mono ?_
  rintro _ y2 ⟨rfl, hb2⟩
  have S2 := Lib.hid (S1.out.up hb2)
  clear hb2 k0 k1 k2 k3 S1 H1 HBG
  cases tb with
  | true =>
    go_wp2_with fail
    go_ret
    exact ⟨rfl, by rw [HBE.out]; exact S2.out.bel⟩
  | false =>
    have hlen := HTB.out rfl
    have k0 := (S2.out.boxAt 0).trans rfl
    have k1 := (S2.out.boxAt 1).trans rfl
    have k2 := (S2.out.boxAt 2).trans rfl
    have k3 := (S2.out.boxAt 3).trans rfl
    obtain ⟨b5, hb5⟩ : ∃ b, y2.heap.size = b := ⟨_, rfl⟩
    have S3 := Lib.hid (S2.out.allocAt hb5 (.cells #[.int .i64 g.t, .int .i64 g.s, .int .i64 g.st, .slice p g.ps.length c] 24))
    go_upto_region 4 with fail
    refine at_world (fun v => Sep b1 w v [.box b5 (.cells #[.int .i64 g.t, .int .i64 g.s, .int .i64 g.st, .slice p g.ps.length c] 24 (0, 0)), .box b1 (.cells #[.int .i64 g.t, .int .i64 g.s, .int .i64 g.st, .slice p g.ps.length c] 24 (0, 0))]) S3.out fun y3 hy3 => ?_
    have f3 := hy3.fz 3
    have j3 := (hy3.boxAt 3).trans rfl
    have S4 : Hid (Sep b1 w _ [.box b5 (.cells #[.int .i64 g.t, .int .i64 g.s, .int .i64 g.st, .slice none 0 0] 24 (0, 0)), .box b1 (.cells #[.int .i64 g.t, .int .i64 g.s, .int .i64 g.st, .slice p g.ps.length c] 24 (0, 0))]) := Lib.hid (hy3.setc 3 (.slice none 0 0))
    clear hy3 S3 S2 k0 k1 k2 k3 hb5
    go_upto_region 5 with fail
    refine at_world (fun v => Sep b1 w v [.box b5 (.cells #[.int .i64 g.t, .int .i64 g.s, .int .i64 g.st, .slice none 0 0] 24 (0, 0)), .box b1 (.cells #[.int .i64 g.t, .int .i64 g.s, .int .i64 g.st, .slice p g.ps.length c] 24 (0, 0))]) S4.out fun y4 hy4 => ?_
    have S5 : Hid (Sep b1 w y4 [rP (.slice none ([] : List Zp).length 0) [], .box b5 (.cells #[.int .i64 g.t, .int .i64 g.s, .int .i64 g.st, .slice none ([] : List Zp).length 0] 24 (0, 0)), .box b1 (.cells #[.int .i64 g.t, .int .i64 g.s, .int .i64 g.st, .slice p g.ps.length c] 24 (0, 0))]) := Lib.hid (hy4.none_ 38 3)
    clear hy4 S4 f3 j3
    have k3 := (S5.out.tl.tl.boxAt 3).trans rfl
    have HZ0 : Hid (ZOk D w []) := Lib.hid (fun z hz => by cases hz)
    have HM0 : Hid (([] : List Zp).map (fun z => z.1) = tuL (g.ps.drop g.ps.length)) := Lib.hid (by rw [List.drop_length]; rfl)
    go_wp2_with fail
    clear k3
    go_loopw [6] (fun i wr => ∃ (a : Int) (k : Nat) (zs : List Zp) (pv : Option Addr) (cv : Nat), i = .int .i64 a ∧ Hid (a + 1 = (k : Int)) ∧ k ≤ g.ps.length ∧ Hid (ZOk D w zs) ∧ Hid (zs.map (fun z => z.1) = tuL (g.ps.drop k)) ∧ Hid (Sep b1 w wr [rP (.slice pv zs.length cv) zs, .box b5 (.cells #[.int .i64 g.t, .int .i64 g.s, .int .i64 g.st, .slice pv zs.length cv] 24 (0, 0)), .box b1 (.cells #[.int .i64 g.t, .int .i64 g.s, .int .i64 g.st, .slice p g.ps.length c] 24 (0, 0))])) (fun i _ => (intOf i + 1).toNat)
    case atStart => exact ⟨_, g.ps.length, [], none, 0, rfl, Lib.hid (by omega), by omega, HZ0, HM0, S5⟩
    case round =>
    clear HZ0 HM0 S5
    obtain ⟨a, k, zs, pv, cv, rfl, HA, hk, HZ, HM, HS⟩ := hrel
    obtain ⟨wo, rfl⟩ : ∃ wo : World, wo = wr := ⟨_, rfl⟩
    by_cases ha : 0 ≤ a
    · have hd : decide (a ≥ 0) = true := decide_eq_true ha
      have k3 := (HS.out.tl.tl.boxAt 3).trans rfl
      obtain ⟨j, rfl⟩ : ∃ j : Nat, (j : Int) = a := ⟨a.toNat, by omega⟩
      obtain rfl : k = j + 1 := by have := HA.out; omega
      have hlt : j < g.ps.length := by omega
      obtain ⟨bb, o, q, d, hpp, hbb, c0, c1, c2, hiv, hbdl, hmem, hcap⟩ := HG.out.at2 hlt
      obtain ⟨bb', o', hpp', hDb, _⟩ := HG.out.pv (by intro e; rw [e] at hlt; simp at hlt)
      have hbbb : bb < b1 := by rw [← HBE.out]; exact hbb
      have e0 := cell_up c0 HS.out.bel hbbb
      have e1 := cell_up c1 HS.out.bel hbbb
      have e2 := cell_up c2 HS.out.bel hbbb
      subst hpp
      have hmap : (zs ++ [(tuP g.ps[j], (q, d))]).map (fun z => z.1) = tuL (g.ps.drop j) := by
        rw [List.map_append, HM.out, List.drop_eq_getElem_cons hlt]
        show tuL (g.ps.drop (j + 1)) ++ [tuP g.ps[j]] = ((g.ps[j] :: g.ps.drop (j + 1)).map tuP).reverse
        rw [List.map_cons, List.reverse_cons]; rfl
      obtain ⟨x, hxx⟩ : ∃ x, g.ps[j] = x := ⟨_, rfl⟩
      rw [hxx] at e0 e1 e2 hiv hbdl hmap hcap
      have HM2 := Lib.hid hmap
      have hzl : zs.length ≤ 100000 := by
        have h := congrArg List.length HM.out
        rw [List.length_map, tu_len, List.length_drop] at h
        omega
      have HZ2 : Hid (ZOk D w (zs ++ [(tuP x, (q, d))])) := Lib.hid (fun z hz => by
        rcases List.mem_append.1 hz with h | h
        · exact HZ.out z h
        · rw [List.mem_singleton.1 h]; exact ⟨hiv, hbdl, hcap⟩)
      have hzz : ([.int .i64 x.hd, .slice q x.bd.length d, .bool (!x.rt)] : List Value) = [.int .i64 (tuP x, (q, d)).1.hd, .slice (tuP x, (q, d)).2.1 (tuP x, (q, d)).1.bd.length (tuP x, (q, d)).2.2, .bool (tuP x, (q, d)).1.rt] := rfl
      have HZZ := Lib.hid hzz
      obtain ⟨z, hz⟩ : ∃ z : Zp, (tuP x, (q, d)) = z := ⟨_, rfl⟩
      rw [hz] at HZ2 HM2 HZZ
      obtain ⟨b7, hb7⟩ : ∃ b, wo.heap.size = b := ⟨_, rfl⟩
      have S6 := Lib.hid (HS.out.allocAt hb7 (.cells #[.int .i64 x.hd, .slice q x.bd.length d, .bool x.rt] 38))
      obtain ⟨nz, hnz⟩ : ∃ n, zs.length = n := ⟨_, rfl⟩
      have HNZ := Lib.hid hnz
      generalize x.hd = hd0 at e0 S6 HZZ
      generalize x.bd.length = n0 at e1 S6 HZZ
      generalize x.rt = rt0 at e2 S6 HZZ
      have hjI : ¬ (j : Int) < 0 := by omega
      have hltI : (j : Int) < (g.ps.length : Int) := by omega
      clear c0 c1 c2 hiv hbdl hmap hxx hz hzz hcap hmem hpp' hDb HS
      go_upto_region 9 with fail
      refine at_world (fun v => Sep b1 w v [.box b7 (.cells #[.int .i64 hd0, .slice q n0 d, .bool rt0] 38 (0, 0)), rP (.slice pv zs.length cv) zs, .box b5 (.cells #[.int .i64 g.t, .int .i64 g.s, .int .i64 g.st, .slice pv zs.length cv] 24 (0, 0)), .box b1 (.cells #[.int .i64 g.t, .int .i64 g.s, .int .i64 g.st, .slice (some ⟨bb, o, none⟩) g.ps.length c] 24 (0, 0))]) S6.out fun y6 hy6 => ?_
      have m2 := (hy6.boxAt 2).trans rfl
      have f2 := hy6.fz 2
      have S7 : Hid (Sep b1 w _ [.box b7 (.cells #[.int .i64 hd0, .slice q n0 d, .bool (!rt0)] 38 (0, 0)), rP (.slice pv zs.length cv) zs, .box b5 (.cells #[.int .i64 g.t, .int .i64 g.s, .int .i64 g.st, .slice pv zs.length cv] 24 (0, 0)), .box b1 (.cells #[.int .i64 g.t, .int .i64 g.s, .int .i64 g.st, .slice (some ⟨bb, o, none⟩) g.ps.length c] 24 (0, 0))]) := Lib.hid (hy6.setc 2 (.bool (!rt0)))
      clear hy6 S6 hb7 k3 e0 e1 e2
      go_upto_region 10 with fail
      refine at_world (fun v => Sep b1 w v [.box b7 (.cells #[.int .i64 hd0, .slice q n0 d, .bool (!rt0)] 38 (0, 0)), rP (.slice pv zs.length cv) zs, .box b5 (.cells #[.int .i64 g.t, .int .i64 g.s, .int .i64 g.st, .slice pv zs.length cv] 24 (0, 0)), .box b1 (.cells #[.int .i64 g.t, .int .i64 g.s, .int .i64 g.st, .slice (some ⟨bb, o, none⟩) g.ps.length c] 24 (0, 0))]) S7.out fun y7 hy7 => ?_
      have S8 := Lib.hid hy7
      clear hy7 S7 m2 f2
      have m0 := (S8.out.boxAt 0).trans rfl
      have m1 := (S8.out.boxAt 1).trans rfl
      have m2 := (S8.out.boxAt 2).trans rfl
      have j3 := (S8.out.tl.tl.boxAt 3).trans rfl
      have SA := Lib.hid (S8.out.tl.up ((Below.refl _ _).alloc (Nat.le_refl _) (.cells #[.int .i64 hd0, .slice q n0 d, .bool (!rt0)] 38)))
      rw [hnz] at j3
      have hSZ := Lib.hid SA.out.sz
      have HYA : Hid ((y7.alloc (.cells #[.int .i64 hd0, .slice q n0 d, .bool (!rt0)] 38)).heap.size = y7.heap.size + 1) := Lib.hid (by simp)
      go_wp2_with (at_builtin; refine wpList_append_own_at _ rfl (.tmp 38) (.tmp 40) 22 rfl b1 38 i0 (.agg #[.int .i64 0, .slice none 0 0, .bool false]) 3 40 Try.underlying22 hi hiz0 hiz1 hiz2 rfl (by decide) (.slice pv nz cv) nz (zP zs) rfl ?q0 ⟨y7.heap.size, 0, none⟩ 1 1 [.int .i64 hd0, .slice q n0 d, .bool (!rt0)] rfl rfl ?q1 ?q2 ?q3 ?q4 ?q5 ?_)
      case q0 => rw [← HNZ.out]; exact SA.out.at
      case q2 => simp [Value.oneCell']
      case q3 => unfold maxLen; omega
      case q4 => omega
      case q5 => have := hSZ.out; have := HYA.out; omega
      intro v' w7 hown hgrow _ hat
      obtain ⟨p7, c7, rfl⟩ := rowF_ hown
      have hs9 := Sep.prodAt (z := z) [] SA.out (by rw [hnz, ← HZZ.out]; exact hown) (by rw [hnz]; exact hgrow) (by rw [hnz, HYA.out]; exact hat)
      have hs9 : Sep b1 w w7 [rP (.slice p7 (nz + 1) c7) (zs ++ [z]), .box b5 (.cells #[.int .i64 g.t, .int .i64 g.s, .int .i64 g.st, .slice pv zs.length cv] 24 (0, 0)), .box b1 (.cells #[.int .i64 g.t, .int .i64 g.s, .int .i64 g.st, .slice (some ⟨bb, o, none⟩) g.ps.length c] 24 (0, 0))] := hs9
      have j3' : w7.cell? ⟨b5, 3, none⟩ = some (.slice pv zs.length cv) := (hs9.tl.boxAt 3).trans rfl
      have f3' : w7.frozen? ⟨b5, 3, none⟩ = false := hs9.tl.fz 3
      have hzl2 : (zs ++ [z]).length = nz + 1 := by rw [List.length_append, hnz]; rfl
      have S9 : Hid (Sep b1 w (w7.setCell ⟨b5, 3, none⟩ (.slice p7 (nz + 1) c7)) [rP (.slice p7 (zs ++ [z]).length c7) (zs ++ [z]), .box b5 (.cells #[.int .i64 g.t, .int .i64 g.s, .int .i64 g.st, .slice p7 (zs ++ [z]).length c7] 24 (0, 0)), .box b1 (.cells #[.int .i64 g.t, .int .i64 g.s, .int .i64 g.st, .slice (some ⟨bb, o, none⟩) g.ps.length c] 24 (0, 0))]) := Lib.hid (by rw [hzl2]; exact hs9.setAt [_] 3 (.slice p7 (nz + 1) c7))
      clear hs9 hown hgrow hat SA S8 m0 m1 m2 j3 hSZ HM HZ hzl2
      go_wp2_with fail
      go_roundw
      case rel => exact ⟨(j : Int) - 1, j, zs ++ [z], p7, c7, by go_num, Lib.hid (by omega), by omega, HZ2, HM2, S9⟩
      case measure => first | (simp [intOf]; done) | (simp [intOf]; omega)
    · have hd : decide (a ≥ 0) = false := decide_eq_false ha
      obtain rfl : k = 0 := by have := HA.out; omega
      have hM := HM.out
      rw [List.drop_zero] at hM
      have hzl : zs.length ≤ 100000 := by
        have h := congrArg List.length hM
        rw [List.length_map, tu_len] at h
        omega
      obtain ⟨p9, c9, hpv, hgm, hzc⟩ := gm_of (D := D) (HS.out.at) HG.out.lt HZ.out (HBE.out ▸ HS.out.bel) (by omega)
      injection hpv with e1 e2 e3
      subst e1 e3
      rw [hM] at hgm
      have hln : zs.length = (tuG g).ps.length := by rw [← List.length_map (f := fun z : Zp => z.1), hM]; rfl
      have HS2 : Hid (Sep b1 w wo [.box b5 (.cells #[.int .i64 g.t, .int .i64 g.s, .int .i64 g.st, .slice pv (tuG g).ps.length cv] 24 (0, 0)), .box b1 (.cells #[.int .i64 g.t, .int .i64 g.s, .int .i64 g.st, .slice p g.ps.length c] 24 (0, 0))]) := Lib.hid (by have h := HS.out.tl; rw [hln] at h; exact h)
      have hbd0 := hgm
      have HGT : Hid (∀ z, Below wo.heap.size wo z → GM (fun b => b < wo.heap.size) z (tuG g).ps pv) := Lib.hid (fun z hz => GM.up hgm hz)
      have HCC : Hid ((tuG g).ps.length ≤ cv) := Lib.hid (by rw [← hln]; exact hzc)
      have HCT := Lib.hid (fun (z : World) (hz : Below wo.heap.size wo z) => check_any (c := cv) (HGT.out z hz) HCC.out)
      have HFT := Lib.hid (fun (z : World) (hz : Below wo.heap.size wo z) => first_any (c := cv) sym (HGT.out z hz) HCC.out)
      have HOT := Lib.hid (fun (z : World) (hz : Below wo.heap.size wo z) => follow_any (c := cv) sym (HGT.out z hz) HCC.out)
      rw [tu_chk] at HCT
      rw [tu_ask, tu_fir] at HFT
      rw [tu_ask, tu_fol] at HOT
      have e4 : (tuG g).t = g.t := rfl
      have e5 : (tuG g).s = g.s := rfl
      have e6 : (tuG g).st = g.st := rfl
      rw [e4, e5, e6] at HCT HFT HOT
      generalize (tuG g).ps.length = nt at HS2 HCT HFT HOT
      have hl1 := fir_len g sym
      have hl2 := fol_len g sym
      generalize chk g = CK at HCK HCT
      generalize askV g sym 0 = E at HFI HFO HFT HOT
      generalize firL g sym = F1 at HFI HFT hl1
      generalize folL g sym = F2 at HFO HOT hl2
      clear hbd0 hgm hM hln hzc e2 e4 e5 e6 HS HZ HM HA ha HGT HCC
      have k0 := (HS2.out.tl.boxAt 0).trans rfl
      have k1 := (HS2.out.tl.boxAt 1).trans rfl
      have k2 := (HS2.out.tl.boxAt 2).trans rfl
      have k3 := (HS2.out.tl.boxAt 3).trans rfl
      have H1 := Lib.hid (HFI.out wo (HBE.out ▸ HS2.out.bel))
      go_wp2_with fail
      refine H1.out.mono ?_
      rintro _ u0w hn9
      obtain ⟨r0p, r0c, rfl, hs9⟩ := NumP.row HS2.out hn9
      have T0 := Lib.hid hs9
      have U0 : Hid (Below wo.heap.size wo u0w) := Lib.hid (Below.trans (Below.refl wo.heap.size wo) (Below.mono hn9.bel (Below.size (Below.refl wo.heap.size wo))))
      clear hn9 hs9 H1 k0 k1 k2 k3 HS2
      have k0 := (T0.out.tl.boxAt 0).trans rfl
      have k1 := (T0.out.tl.boxAt 1).trans rfl
      have k2 := (T0.out.tl.boxAt 2).trans rfl
      have k3 := (T0.out.tl.boxAt 3).trans rfl
      have HBB1 := Lib.hid (U0.out)
      have H1 := Lib.hid (HFT.out u0w ((HBB1.out)))
      go_wp2_with fail
      refine H1.out.mono ?_
      rintro _ u1w hn9
      obtain ⟨r1p, r1c, rfl, hs9⟩ := NumP.row T0.out hn9
      have T1 := Lib.hid hs9
      have U1 : Hid (Below wo.heap.size wo u1w) := Lib.hid (Below.trans U0.out (Below.mono hn9.bel (Below.size U0.out)))
      clear hn9 hs9 H1 k0 k1 k2 k3 T0
      have k0 := (T1.out.tl.tl.tl.boxAt 0).trans rfl
      have k1 := (T1.out.tl.tl.tl.boxAt 1).trans rfl
      have k2 := (T1.out.tl.tl.tl.boxAt 2).trans rfl
      have k3 := (T1.out.tl.tl.tl.boxAt 3).trans rfl
      have H1 := Lib.hid (HFO.out u1w (HBE.out ▸ T1.out.bel))
      go_wp2_with fail
      refine H1.out.mono ?_
      rintro _ u2w hn9
      obtain ⟨r2p, r2c, rfl, hs9⟩ := NumP.row T1.out hn9
      have T2 := Lib.hid hs9
      have U2 : Hid (Below wo.heap.size wo u2w) := Lib.hid (Below.trans U1.out (Below.mono hn9.bel (Below.size U1.out)))
      clear hn9 hs9 H1 k0 k1 k2 k3 T1
      have k0 := (T2.out.tl.tl.tl.boxAt 0).trans rfl
      have k1 := (T2.out.tl.tl.tl.boxAt 1).trans rfl
      have k2 := (T2.out.tl.tl.tl.boxAt 2).trans rfl
      have k3 := (T2.out.tl.tl.tl.boxAt 3).trans rfl
      have HBB3 := Lib.hid (U2.out)
      have H1 := Lib.hid (HOT.out u2w ((HBB3.out)))
      go_wp2_with fail
      refine H1.out.mono ?_
      rintro _ u3w hn9
      obtain ⟨r3p, r3c, rfl, hs9⟩ := NumP.row T2.out hn9
      have T3 := Lib.hid hs9
      have U3 : Hid (Below wo.heap.size wo u3w) := Lib.hid (Below.trans U2.out (Below.mono hn9.bel (Below.size U2.out)))
      clear hn9 hs9 H1 k0 k1 k2 k3 T2
      have K0 := Lib.hid ((T3.out.tl.tl.tl.tl.tl.boxAt 0).trans rfl)
      have K1 := Lib.hid ((T3.out.tl.tl.tl.tl.tl.boxAt 1).trans rfl)
      have K2 := Lib.hid ((T3.out.tl.tl.tl.tl.tl.boxAt 2).trans rfl)
      have K3 := Lib.hid ((T3.out.tl.tl.tl.tl.tl.boxAt 3).trans rfl)
      have J0 := Lib.hid ((T3.out.tl.tl.tl.tl.boxAt 0).trans rfl)
      have J1 := Lib.hid ((T3.out.tl.tl.tl.tl.boxAt 1).trans rfl)
      have J2 := Lib.hid ((T3.out.tl.tl.tl.tl.boxAt 2).trans rfl)
      have J3 := Lib.hid ((T3.out.tl.tl.tl.tl.boxAt 3).trans rfl)
      have LK := Lib.hid (blk_lt K0.out)
      have LJ := Lib.hid (blk_lt J0.out)
      have V0 := Lib.hid (T3.out.iv (p := r0p) (n := F1.length) (c := r0c) (l := F1) (by simp))
      have V1 := Lib.hid (T3.out.iv (p := r1p) (n := F1.length) (c := r1c) (l := F1) (by simp))
      have V2 := Lib.hid (T3.out.iv (p := r2p) (n := F2.length) (c := r2c) (l := F2) (by simp))
      have V3 := Lib.hid (T3.out.iv (p := r3p) (n := F2.length) (c := r3c) (l := F2) (by simp))
      go_upto_region 15 with fail
      have HS0 : Hid ((fun v => Below u3w.heap.size u3w v) u3w.drew) := Lib.hid (below_drewN (Below.refl _ _) 1)
      refine wp_region_held_drew (S := fun v => Below u3w.heap.size u3w v) (by kernel_rfl) HS0.out (fun hHeld => ?_)
      refine wpAnyH_take (i := 0) (v := (.agg #[.int .i64 g.t, .int .i64 g.s, .int .i64 g.st, .slice p g.ps.length c])) rfl (by kernel_rfl) (by kernel_rfl) (by kernel_rfl) (fun _ _ _ h => h) (Or.inl ⟨by rfl, by (intro w9 hSw; (try dsimp only at hSw); have c0_ := cell_up K0.out hSw LK.out; have c1_ := cell_up K1.out hSw LK.out; have c2_ := cell_up K2.out hSw LK.out; have c3_ := cell_up K3.out hSw LK.out; go_simp)⟩) hHeld ?_
      (try simp only [Act.put, List.getElem_toArray, List.getElem_cons_zero, List.getElem_cons_succ, List.setIfInBounds_toArray, List.set_cons_zero, List.set_cons_succ])
      refine wpAnyH_take (i := 2) (v := (.agg #[.int .i64 g.t, .int .i64 g.s, .int .i64 g.st, .slice pv nt cv])) rfl (by kernel_rfl) (by kernel_rfl) (by kernel_rfl) (fun _ _ _ h => h) (Or.inl ⟨by rfl, by (intro w9 hSw; (try dsimp only at hSw); have c0_ := cell_up J0.out hSw LJ.out; have c1_ := cell_up J1.out hSw LJ.out; have c2_ := cell_up J2.out hSw LJ.out; have c3_ := cell_up J3.out hSw LJ.out; go_simp)⟩) hHeld ?_
      (try simp only [Act.put, List.getElem_toArray, List.getElem_cons_zero, List.getElem_cons_succ, List.setIfInBounds_toArray, List.set_cons_zero, List.set_cons_succ])
      refine wpAnyH_ready (rs := [1]) (by kernel_rfl) (by simp) ?_
      refine AllReadyH.cons rfl (fun K hK => ?_) (AllReadyH.nil)
      rw [if_pos (by rfl)]
      go_wp2_with fail
      refine (HCK.out _ (HBE.out ▸ (Below.trans T3.out.bel (Below.mono hHeld T3.out.sz)))).mono ?_
      rintro _ v9 ⟨rfl, hb9⟩
      refine hK.out _ _ (Below.trans hHeld (Below.mono hb9 (Below.size hHeld))) (fun hHeld2 => ?_)
      clear hb9
      clear hHeld hK
      have hHeld := hHeld2
      clear hHeld2
      (try simp only [Act.put, List.getElem_toArray, List.getElem_cons_zero, List.getElem_cons_succ, List.setIfInBounds_toArray, List.set_cons_zero, List.set_cons_succ])
      refine wpAnyH_ready (rs := [3]) (by kernel_rfl) (by simp) ?_
      refine AllReadyH.cons rfl (fun K hK => ?_) (AllReadyH.nil)
      rw [if_pos (by rfl)]
      go_wp2_with fail
      refine (HCT.out _ (Below.trans U3.out (Below.mono hHeld (Below.size U3.out)))).mono ?_
      rintro _ v9 ⟨rfl, hb9⟩
      refine hK.out _ _ (Below.trans hHeld (Below.mono hb9 (Below.size hHeld))) (fun hHeld2 => ?_)
      clear hb9
      clear hHeld hK
      have hHeld := hHeld2
      clear hHeld2
      (try simp only [Act.put, List.getElem_toArray, List.getElem_cons_zero, List.getElem_cons_succ, List.setIfInBounds_toArray, List.set_cons_zero, List.set_cons_succ])
      refine wpAnyH_take (i := 4) (v := (.bool true)) rfl (by kernel_rfl) (by kernel_rfl) (by kernel_rfl) (fun _ _ _ h => h) (Or.inl ⟨by rfl, by (intro w hSw; (try dsimp only at hSw); go_simp)⟩) hHeld ?_
      (try simp only [Act.put, List.getElem_toArray, List.getElem_cons_zero, List.getElem_cons_succ, List.setIfInBounds_toArray, List.set_cons_zero, List.set_cons_succ])
      refine wpAnyH_take (i := 5) (v := (.bool true)) rfl (by kernel_rfl) (by kernel_rfl) (by kernel_rfl) (fun _ _ _ h => h) (Or.inl ⟨by rfl, by (intro w hSw; (try dsimp only at hSw); go_simp)⟩) hHeld ?_
      (try simp only [Act.put, List.getElem_toArray, List.getElem_cons_zero, List.getElem_cons_succ, List.setIfInBounds_toArray, List.set_cons_zero, List.set_cons_succ])
      refine wpAnyH_take (i := 6) (v := (.int .i64 E)) rfl (by kernel_rfl) (by kernel_rfl) (by kernel_rfl) (fun _ _ _ h => h) (Or.inl ⟨by rfl, by (intro w hSw; (try dsimp only at hSw); go_simp)⟩) hHeld ?_
      (try simp only [Act.put, List.getElem_toArray, List.getElem_cons_zero, List.getElem_cons_succ, List.setIfInBounds_toArray, List.set_cons_zero, List.set_cons_succ])
      refine wpAnyH_take (i := 7) (v := (.int .i64 E)) rfl (by kernel_rfl) (by kernel_rfl) (by kernel_rfl) (fun _ _ _ h => h) (Or.inl ⟨by rfl, by (intro w hSw; (try dsimp only at hSw); go_simp)⟩) hHeld ?_
      (try simp only [Act.put, List.getElem_toArray, List.getElem_cons_zero, List.getElem_cons_succ, List.setIfInBounds_toArray, List.set_cons_zero, List.set_cons_succ])
      refine wpAnyH_take (i := 8) (v := (.bool true)) rfl (by kernel_rfl) (by kernel_rfl) (by kernel_rfl) (fun _ _ _ h => h) (Or.inl ⟨by rfl, by (intro w hSw; (try dsimp only at hSw); go_simp)⟩) hHeld ?_
      (try simp only [Act.put, List.getElem_toArray, List.getElem_cons_zero, List.getElem_cons_succ, List.setIfInBounds_toArray, List.set_cons_zero, List.set_cons_succ])
      refine wpAnyH_take (i := 9) (v := (.bool true)) rfl (by kernel_rfl) (by kernel_rfl) (by kernel_rfl) (fun _ _ _ h => h) (Or.inl ⟨by rfl, by (intro w hSw; (try dsimp only at hSw); go_simp)⟩) hHeld ?_
      (try simp only [Act.put, List.getElem_toArray, List.getElem_cons_zero, List.getElem_cons_succ, List.setIfInBounds_toArray, List.set_cons_zero, List.set_cons_succ])
      refine wpAnyH_take (i := 10) (v := (.bool true)) rfl (by kernel_rfl) (by kernel_rfl) (by kernel_rfl) (fun _ _ _ h => h) (Or.inl ⟨by rfl, by (intro w hSw; (try dsimp only at hSw); go_simp)⟩) hHeld ?_
      (try simp only [Act.put, List.getElem_toArray, List.getElem_cons_zero, List.getElem_cons_succ, List.setIfInBounds_toArray, List.set_cons_zero, List.set_cons_succ])
      refine wpAnyH_take (i := 11) (v := (.int .i64 E)) rfl (by kernel_rfl) (by kernel_rfl) (by kernel_rfl) (fun _ _ _ h => h) (Or.inl ⟨by rfl, by (intro w hSw; (try dsimp only at hSw); go_simp)⟩) hHeld ?_
      (try simp only [Act.put, List.getElem_toArray, List.getElem_cons_zero, List.getElem_cons_succ, List.setIfInBounds_toArray, List.set_cons_zero, List.set_cons_succ])
      refine wpAnyH_take (i := 12) (v := (.int .i64 E)) rfl (by kernel_rfl) (by kernel_rfl) (by kernel_rfl) (fun _ _ _ h => h) (Or.inl ⟨by rfl, by (intro w hSw; (try dsimp only at hSw); go_simp)⟩) hHeld ?_
      (try simp only [Act.put, List.getElem_toArray, List.getElem_cons_zero, List.getElem_cons_succ, List.setIfInBounds_toArray, List.set_cons_zero, List.set_cons_succ])
      refine wpAnyH_take (i := 13) (v := (.bool true)) rfl (by kernel_rfl) (by kernel_rfl) (by kernel_rfl) (fun _ _ _ h => h) (Or.inl ⟨by rfl, by (intro w hSw; (try dsimp only at hSw); go_simp)⟩) hHeld ?_
      (try simp only [Act.put, List.getElem_toArray, List.getElem_cons_zero, List.getElem_cons_succ, List.setIfInBounds_toArray, List.set_cons_zero, List.set_cons_succ])
      refine wpAnyH_take (i := 14) (v := (.bool true)) rfl (by kernel_rfl) (by kernel_rfl) (by kernel_rfl) (fun _ _ _ h => h) (Or.inl ⟨by rfl, by (intro w hSw; (try dsimp only at hSw); go_simp)⟩) hHeld ?_
      (try simp only [Act.put, List.getElem_toArray, List.getElem_cons_zero, List.getElem_cons_succ, List.setIfInBounds_toArray, List.set_cons_zero, List.set_cons_succ])
      refine wpAnyH_take (i := 15) (v := (.bool true)) rfl (by kernel_rfl) (by kernel_rfl) (by kernel_rfl) (fun _ _ _ h => h) (Or.inl ⟨by rfl, by (intro w hSw; (try dsimp only at hSw); go_simp)⟩) hHeld ?_
      (try simp only [Act.put, List.getElem_toArray, List.getElem_cons_zero, List.getElem_cons_succ, List.setIfInBounds_toArray, List.set_cons_zero, List.set_cons_succ])
      refine wpAnyH_take (i := 16) (v := (.int .i64 E)) rfl (by kernel_rfl) (by kernel_rfl) (by kernel_rfl) (fun _ _ _ h => h) (Or.inl ⟨by rfl, by (intro w hSw; (try dsimp only at hSw); go_simp)⟩) hHeld ?_
      (try simp only [Act.put, List.getElem_toArray, List.getElem_cons_zero, List.getElem_cons_succ, List.setIfInBounds_toArray, List.set_cons_zero, List.set_cons_succ])
      refine wpAnyH_take (i := 17) (v := (.int .i64 E)) rfl (by kernel_rfl) (by kernel_rfl) (by kernel_rfl) (fun _ _ _ h => h) (Or.inl ⟨by rfl, by (intro w hSw; (try dsimp only at hSw); go_simp)⟩) hHeld ?_
      (try simp only [Act.put, List.getElem_toArray, List.getElem_cons_zero, List.getElem_cons_succ, List.setIfInBounds_toArray, List.set_cons_zero, List.set_cons_succ])
      refine wpAnyH_take (i := 18) (v := (.bool true)) rfl (by kernel_rfl) (by kernel_rfl) (by kernel_rfl) (fun _ _ _ h => h) (Or.inl ⟨by rfl, by (intro w hSw; (try dsimp only at hSw); go_simp)⟩) hHeld ?_
      (try simp only [Act.put, List.getElem_toArray, List.getElem_cons_zero, List.getElem_cons_succ, List.setIfInBounds_toArray, List.set_cons_zero, List.set_cons_succ])
      refine wpAnyH_take (i := 19) (v := (.bool true)) rfl (by kernel_rfl) (by kernel_rfl) (by kernel_rfl) (fun _ _ _ h => h) (Or.inl ⟨by rfl, by (intro w hSw; (try dsimp only at hSw); go_simp)⟩) hHeld ?_
      (try simp only [Act.put, List.getElem_toArray, List.getElem_cons_zero, List.getElem_cons_succ, List.setIfInBounds_toArray, List.set_cons_zero, List.set_cons_succ])
      refine wpAnyH_take (i := 20) (v := (.bool true)) rfl (by kernel_rfl) (by kernel_rfl) (by kernel_rfl) (fun _ _ _ h => h) (Or.inl ⟨by rfl, by (intro w hSw; (try dsimp only at hSw); go_simp)⟩) hHeld ?_
      (try simp only [Act.put, List.getElem_toArray, List.getElem_cons_zero, List.getElem_cons_succ, List.setIfInBounds_toArray, List.set_cons_zero, List.set_cons_succ])
      refine wpAnyH_take (i := 21) (v := (.slice r0p F1.length r0c)) rfl (by kernel_rfl) (by kernel_rfl) (by kernel_rfl) (fun _ _ _ h => h) (Or.inl ⟨by rfl, by (intro w hSw; (try dsimp only at hSw); go_simp)⟩) hHeld ?_
      (try simp only [Act.put, List.getElem_toArray, List.getElem_cons_zero, List.getElem_cons_succ, List.setIfInBounds_toArray, List.set_cons_zero, List.set_cons_succ])
      refine wpAnyH_take (i := 22) (v := (.slice r1p F1.length r1c)) rfl (by kernel_rfl) (by kernel_rfl) (by kernel_rfl) (fun _ _ _ h => h) (Or.inl ⟨by rfl, by (intro w hSw; (try dsimp only at hSw); go_simp)⟩) hHeld ?_
      (try simp only [Act.put, List.getElem_toArray, List.getElem_cons_zero, List.getElem_cons_succ, List.setIfInBounds_toArray, List.set_cons_zero, List.set_cons_succ])
      refine wpAnyH_ready (rs := [23]) (by kernel_rfl) (by simp) ?_
      refine AllReadyH.cons rfl (fun K hK => ?_) (AllReadyH.nil)
      rw [if_pos (by rfl)]
      go_wp2_with fail
      refine (same_self (l := F1) (by omega) (fun b hb => Nat.lt_of_lt_of_le hb (Below.size hHeld)) (fun b hb => Nat.lt_of_lt_of_le hb (Below.size hHeld)) (V0.out.mono (fun _ h => h) (fun b hb _ => Below.block hHeld b hb)) (V1.out.mono (fun _ h => h) (fun b hb _ => Below.block hHeld b hb))).mono ?_
      rintro _ v9 ⟨rfl, hb9⟩
      refine hK.out _ _ (Below.trans hHeld (Below.mono hb9 (Below.size hHeld))) (fun hHeld2 => ?_)
      clear hb9
      clear hHeld hK
      have hHeld := hHeld2
      clear hHeld2
      (try simp only [Act.put, List.getElem_toArray, List.getElem_cons_zero, List.getElem_cons_succ, List.setIfInBounds_toArray, List.set_cons_zero, List.set_cons_succ])
      refine wpAnyH_take (i := 24) (v := (.bool true)) rfl (by kernel_rfl) (by kernel_rfl) (by kernel_rfl) (fun _ _ _ h => h) (Or.inl ⟨by rfl, by (intro w hSw; (try dsimp only at hSw); go_simp)⟩) hHeld ?_
      (try simp only [Act.put, List.getElem_toArray, List.getElem_cons_zero, List.getElem_cons_succ, List.setIfInBounds_toArray, List.set_cons_zero, List.set_cons_succ])
      refine wpAnyH_take (i := 25) (v := (.bool true)) rfl (by kernel_rfl) (by kernel_rfl) (by kernel_rfl) (fun _ _ _ h => h) (Or.inl ⟨by rfl, by (intro w hSw; (try dsimp only at hSw); go_simp)⟩) hHeld ?_
      (try simp only [Act.put, List.getElem_toArray, List.getElem_cons_zero, List.getElem_cons_succ, List.setIfInBounds_toArray, List.set_cons_zero, List.set_cons_succ])
      refine wpAnyH_take (i := 26) (v := (.slice r2p F2.length r2c)) rfl (by kernel_rfl) (by kernel_rfl) (by kernel_rfl) (fun _ _ _ h => h) (Or.inl ⟨by rfl, by (intro w hSw; (try dsimp only at hSw); go_simp)⟩) hHeld ?_
      (try simp only [Act.put, List.getElem_toArray, List.getElem_cons_zero, List.getElem_cons_succ, List.setIfInBounds_toArray, List.set_cons_zero, List.set_cons_succ])
      refine wpAnyH_take (i := 27) (v := (.slice r3p F2.length r3c)) rfl (by kernel_rfl) (by kernel_rfl) (by kernel_rfl) (fun _ _ _ h => h) (Or.inl ⟨by rfl, by (intro w hSw; (try dsimp only at hSw); go_simp)⟩) hHeld ?_
      (try simp only [Act.put, List.getElem_toArray, List.getElem_cons_zero, List.getElem_cons_succ, List.setIfInBounds_toArray, List.set_cons_zero, List.set_cons_succ])
      refine wpAnyH_ready (rs := [28]) (by kernel_rfl) (by simp) ?_
      refine AllReadyH.cons rfl (fun K hK => ?_) (AllReadyH.nil)
      rw [if_pos (by rfl)]
      go_wp2_with fail
      refine (same_self (l := F2) (by omega) (fun b hb => Nat.lt_of_lt_of_le hb (Below.size hHeld)) (fun b hb => Nat.lt_of_lt_of_le hb (Below.size hHeld)) (V2.out.mono (fun _ h => h) (fun b hb _ => Below.block hHeld b hb)) (V3.out.mono (fun _ h => h) (fun b hb _ => Below.block hHeld b hb))).mono ?_
      rintro _ v9 ⟨rfl, hb9⟩
      refine hK.out _ _ (Below.trans hHeld (Below.mono hb9 (Below.size hHeld))) (fun hHeld2 => ?_)
      clear hb9
      clear hHeld hK
      have hHeld := hHeld2
      clear hHeld2
      (try simp only [Act.put, List.getElem_toArray, List.getElem_cons_zero, List.getElem_cons_succ, List.setIfInBounds_toArray, List.set_cons_zero, List.set_cons_succ])
      refine wpAnyH_take (i := 29) (v := (.bool true)) rfl (by kernel_rfl) (by kernel_rfl) (by kernel_rfl) (fun _ _ _ h => h) (Or.inl ⟨by rfl, by (intro w hSw; (try dsimp only at hSw); go_simp)⟩) hHeld ?_
      (try simp only [Act.put, List.getElem_toArray, List.getElem_cons_zero, List.getElem_cons_succ, List.setIfInBounds_toArray, List.set_cons_zero, List.set_cons_succ])
      refine wpAnyH_take (i := 30) (v := (.bool true)) rfl (by kernel_rfl) (by kernel_rfl) (by kernel_rfl) (fun _ _ _ h => h) (Or.inl ⟨by rfl, by (intro w hSw; (try dsimp only at hSw); go_simp)⟩) hHeld ?_
      (try simp only [Act.put, List.getElem_toArray, List.getElem_cons_zero, List.getElem_cons_succ, List.setIfInBounds_toArray, List.set_cons_zero, List.set_cons_succ])
      refine wpAnyH_ready (rs := [31]) (by kernel_rfl) (by simp) ?_
      refine AllReadyH.cons rfl (fun K hK => ?_) (AllReadyH.nil)
      rw [if_pos (by rfl)]
      go_wp2_with fail
      refine (HAL.out _).mono ?_
      rintro _ v9 ⟨rfl, hb9⟩
      refine hK.out _ _ (Below.trans hHeld (Below.mono hb9 (Below.size hHeld))) (fun hHeld2 => ?_)
      clear hb9
      clear hHeld hK
      have hHeld := hHeld2
      clear hHeld2
      (try simp only [Act.put, List.getElem_toArray, List.getElem_cons_zero, List.getElem_cons_succ, List.setIfInBounds_toArray, List.set_cons_zero, List.set_cons_succ])
      refine wpAnyH_take (i := 32) (v := (.bool true)) rfl (by kernel_rfl) (by kernel_rfl) (by kernel_rfl) (fun _ _ _ h => h) (Or.inl ⟨by rfl, by (intro w hSw; (try dsimp only at hSw); go_simp)⟩) hHeld ?_
      (try simp only [Act.put, List.getElem_toArray, List.getElem_cons_zero, List.getElem_cons_succ, List.setIfInBounds_toArray, List.set_cons_zero, List.set_cons_succ])
      refine wpAnyH_take (i := 33) (v := (.bool true)) rfl (by kernel_rfl) (by kernel_rfl) (by kernel_rfl) (fun _ _ _ h => h) (Or.inl ⟨by rfl, by (intro w hSw; (try dsimp only at hSw); go_simp)⟩) hHeld ?_
      (try simp only [Act.put, List.getElem_toArray, List.getElem_cons_zero, List.getElem_cons_succ, List.setIfInBounds_toArray, List.set_cons_zero, List.set_cons_succ])
      refine wpAnyH_done (by kernel_rfl) ?_ _
      have HB9 := Lib.hid (Below.trans T3.out.bel (Below.mono (show Below u3w.heap.size u3w _ from hHeld) T3.out.sz))
      clear hHeld
      go_wp2_with fail
      go_ret
      exact ⟨rfl, by rw [HBE.out]; exact HB9.out⟩
end Go.Proofs.Ytpmkdpjcpimhkaa
