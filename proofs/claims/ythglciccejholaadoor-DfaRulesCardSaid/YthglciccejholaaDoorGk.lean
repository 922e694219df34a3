/- Package dfa. -/
import Derived.Test.YthglciccejholaaDoorProg
import Derived.Test.YthglciccejholaaDoorV27
import Derived.Test.YthglciccejholaaDoorV2
import Derived.Test.YthglciccejholaaDoorGd
import Derived.Great.BuildSlice
import Derived.WalkKit
import Derived.Maps.OwnSet
import Derived.Maps.OwnOps
import Derived.Maps.Own
import Derived.DeepKeys5
import Derived.BigFrame
import Derived.WalkMore
import Derived.ScopeJumps
import Derived.StillTailTactics
import Derived.Stop.BytesEq
import Derived.WalkLawsBesides
import Derived.WalkSpells
import Derived.Outline
import Derived.Lib.Walk
import Derived.Lib.Hide
import Derived.Lib.Slices
import Derived.Lib.Strings
import Derived.RegionTactic
import Derived.LoopTactic
import Derived.Below
import Derived.IntWalk
import Derived.Deep.QuietTactic
import Derived.BigQuiet
import Derived.Deep.MidRow
import Derived.Maps.AppendAt
import Derived.Laws.Rows
import Derived.Laws.Tables
import Derived.Deep.WholeRow
import Derived.Deep.Cut
import Derived.Deep.CutRange
import Derived.Lib.SliceRun
import Derived.Laws.MakeOwn
import Derived.Deep.RegionLaw
import Derived.Deep.RegionLawGrows
import Derived.Deep.RegionHeld3
import Derived.RegionCalls
import Derived.Deep.RegionWith
import Derived.Deep.Light
import Derived.Laws.CopyOwn
import Derived.Laws.ResultCell
namespace Go.Proofs.YthglciccejholaaDoor
set_option linter.unusedSimpArgs false
set_option linter.unusedVariables false
set_option maxRecDepth 100000
open Go.RowKit
/- findSorts. -/
open Go.Maps
theorem Sep.nilrow {B : Nat} {w0 w : World} {L : List It} (h : Sep B w0 w L) (e size : Nat) : Sep B w0 w (.row (.slice none 0 0) e size 0 [] :: L) := by
  refine ⟨h.bel, h.sz, fun x hx => ?_, List.pairwise_cons.2 ⟨?_, h.ap⟩⟩
  · rcases List.mem_cons.1 hx with rfl | hx
    · exact ⟨by simp, .inl ⟨rfl, rfl⟩⟩
    · exact h.li x hx
  · intro x hx b hb; cases hb
theorem SS.start {B : Nat} {w0 w : World} {bb : Nat} {R0 : Array Value} {ss : List Nst} {X : List It} (h : Sep B w0 w (.box bb (.cells R0 144) :: X)) (hb : R0[322]? = some (.slice none 0 0)) : SS B w0 (w.alloc (.map #[] 0)) bb w.heap.size ss R0 R0 0 (.slice none 0 0) (.map #[] 0) [] X := by
  refine ⟨⟨rfl, fun _ _ => rfl, hb, fun i hi => by omega⟩, mpj_of (E := .map []) (n := 0) (World.ownsMap_made _ _ _ _) (heap_alloc_last w _) (Nat.le_refl _) (MK.nil _ _ _), ?_⟩
  exact ((h.alloc (.map #[] 0)).nilrow 139 64).perm (List.perm_middle (l₁ := [_, _]))
section
variable {B : Nat} {w0 y z : World} {bb M : Nat} {ss : List Nst} {R0 R : Array Value} {c : Nat} {bv : Value} {mo : Obj} {P X : List It}
theorem SS.fz (h : SS B w0 y bb M ss R0 R c bv mo P X) (j : Nat) : y.frozen? ⟨bb, j, none⟩ = false := frozen_of_row y bb j R 144 h.box
theorem soF_in (ss : List Nst) {c : Nat} (hc : c ≤ 256) (h : byK ss c ∈ seen (byK ss) c) : soF ss c = idx (seen (byK ss) c) (byK ss c) := by
  unfold soF; exact seen_idx (byK ss) (byK ss c) 256 c hc h
theorem soF_out (ss : List Nst) {c : Nat} (hc : c < 256) (h : ¬ byK ss c ∈ seen (byK ss) c) : soF ss c = (byL ss c).length := by
  unfold soF
  have hm : byK ss c ∈ seen (byK ss) (c + 1) := by rw [seen_out h]; simp
  rw [seen_idx (byK ss) (byK ss c) 256 (c + 1) (by omega) hm, seen_out h, idx_app h, byL_len]
theorem mk_val {E : DataW Unit} {L : List (List UInt8)} {x : List UInt8} {c : Int} (h : MJ8 E L) (hin : x ∈ L) (hat : E.atKey (Lit.string x) (.lit (.int .u8 0)) = .lit (.int .u8 c)) : ((idx L x : Nat) : Int) = c := by
  have h1 := h.key x hin (.lit (.int .u8 0))
  rw [hat] at h1
  injection h1 with h1
  injection h1 with _ h1
  exact h1.symm
theorem MpJ.mono {m m' : Nat} {L : List (List UInt8)} (h : MpJ M mo m L) (hm : m ≤ m') : MpJ M mo m' L := fun w hw => by
  obtain ⟨E, n, h1, h2, h3⟩ := h w hw
  exact ⟨E, n, by omega, h2, h3⟩
/-- The sort is stored. -/
theorem SS.next {Ls : List (Nat → Bool)} (hL : byL ss (c + 1) = Ls) (rs : RS ss R0 R c bv) (mp : MpJ M mo (c + 1) (seen (byK ss) (c + 1))) (sep : Sep B w0 y (.box bb (.cells R 144) :: .row bv 139 64 Ls.length (setF Ls) :: .box M mo :: X)) (hz : R0.size = 391) (hc : c < 256) :
    SS B w0 (y.setCell ⟨bb, 66 + c, none⟩ (.int .u8 (soF ss c : Nat))) bb M ss R0 (R.setIfInBounds (66 + c) (.int .u8 (soF ss c : Nat))) (c + 1) bv mo [] X := by
  refine ⟨rs.put hz hc, mp, ?_⟩
  rw [hL]
  exact Sep.put sep ⟨rfl, rfl, rfl, by simp, fun k hk hne => heap_setCell_other y _ k _ (fun e => hne (by rw [e]))⟩ (heap_setCell_same y bb (66 + c) R 144 _ (sep.li _ (List.mem_cons_self ..)).2)
end
set_option maxHeartbeats 16000000 in
theorem sorts_any {B : Nat} {w0 w : World} {bb : Nat} {R0 : Array Value} {ss : List Nst} {q : Option Addr} {c : Nat} {X : List It} (hsep : Sep B w0 w (.box bb (.cells R0 144) :: X)) (hBs : B ≤ w0.heap.size) (hSV : SV (fun b => b < B) w0 ss (.slice q ss.length c)) (hR0 : R0[0]? = some (.slice q ss.length c)) (hRs : R0.size = 391) (hby : R0[322]? = some (.slice none 0 0)) (hn : ss.length ≤ 4096) (hok : ∀ s ∈ ss, okW s.u) :
    Calls Tryd.prog 94 #[.pointer (some ⟨bb, 0, none⟩)] w fun e w' => e = .returned (.tuple #[]) ∧ ∃ R bv, RS ss R0 R 256 bv ∧ Sep B w0 w' (.box bb (.cells R 144) :: .row bv 139 64 (byL ss 256).length (setF (byL ss 256)) :: X) := by
  have hmm := @run_makeMap Tryd.prog
  have HSV := Lib.hid hSV
  have HOK := Lib.hid hok
  have HS := Lib.hid hsep
  have HR0 := Lib.hid hR0
  have HBY := Lib.hid hby
  clear hSV hok hsep hR0 hby
  go_enter Tryd.func94, Tryd.ntmps94
  go_upto_region 1 with fail
  refine at_world (fun y => SS B w0 y bb w.heap.size ss R0 R0 0 (.slice none 0 0) (.map #[] 0) [] X) (SS.start HS.out HBY.out) fun y hy => ?_
  obtain ⟨M, hM⟩ : ∃ M, w.heap.size = M := ⟨_, rfl⟩
  rw [hM] at hy
  simp only [hM]
  have HY := Lib.hid hy
  clear hy hM hmm HS
  go_wp2_with fail
  go_loopw [10] (fun i wr => ∃ (k : Nat) (R : Array Value) (bv : Value) (mo : Obj), i = .int .i64 (k : Nat) ∧ k ≤ 256 ∧ Hid (SS B w0 wr bb M ss R0 R k bv mo [] X)) (fun i _ => 256 - (intOf i).toNat)
  case atStart => exact ⟨0, _, _, _, rfl, by omega, HY⟩
  case round =>
    clear HY
    obtain ⟨k, R, bv, mo, rfl, hk, HY⟩ := hrel
    obtain ⟨wo, rfl⟩ : ∃ wo : World, wo = wr := ⟨_, rfl⟩
    by_cases hlt : k < 256
    · have hltI : (k : Int) < 256 := by omega
      have hkI : ¬ (k : Int) < 0 := by omega
      have hbt : (UInt8.ofNat k).toNat = k := by simp; omega
      have hcv : IntKind.u8.wrap (k : Int) = (k : Int) := IntWalk.u8_in _ (by omega)
      have HX := Lib.hid (HY.out.xin (.cells (sA noS) 139))
      have hw : (wo.alloc (.cells (Array.replicate 64 (.int .u64 0)) 139)) = wo.alloc (.cells (sA noS) 139) := by rw [show sA noS = _ from sA_no]
      go_upto_region 5 with fail
      refine at_world (fun y => SS B w0 y bb M ss R0 R k bv mo [.box wo.heap.size (.cells (sA (byP ss k 0)) 139)] X) (by have h := HX.out; rw [← hw] at h; rw [byP_zero]; exact h) fun y hy => ?_
      obtain ⟨bx, hbx⟩ : ∃ bx, wo.heap.size = bx := ⟨_, rfl⟩
      rw [hbx] at hy
      simp only [hbx]
      have c0 : y.cell? ⟨bb, 0, none⟩ = some (.slice q ss.length c) := by rw [hy.cell, hy.rs.out 0 (by omega)]; exact HR0.out
      have HY1 := Lib.hid hy
      clear hy hbx hw HX HY
      go_wp2_with fail
      clear c0
      go_loopw [18] (fun i wr => ∃ (j : Nat), i = .int .i64 (j : Nat) ∧ j ≤ ss.length ∧ Hid (SS B w0 wr bb M ss R0 R k bv mo [.box bx (.cells (sA (byP ss k j)) 139)] X)) (fun i _ => ss.length - (intOf i).toNat)
      case atStart => exact ⟨0, rfl, by omega, HY1⟩
      case round =>
        clear HY1
        obtain ⟨j, rfl, hj, HY⟩ := hrel
        obtain ⟨wk, rfl⟩ : ∃ wk : World, wk = wr := ⟨_, rfl⟩
        by_cases hlt2 : j < ss.length
        · obtain ⟨q', c', he, hSV⟩ := HSV.out
          cases he
          obtain ⟨b5, o, rfl, hDb, hx⟩ := hSV (by intro e; rw [e] at hlt2; simp at hlt2)
          obtain ⟨qf, f, hiv, hcell⟩ := hx j hlt2
          have ce : ∀ i y, (stC (ss[j]).u (ss[j]).to (.slice qf (ss[j]).fr.length f) (ss[j]).rl)[i]? = some y → wk.cell? ⟨b5, o + j * 7 + i, none⟩ = some y := fun i y hy => (cell_same (HY.out.sep.bel.block b5 hDb) _).trans (hcell i y hy)
          have hokj := HOK.out ss[j] (List.getElem_mem hlt2)
          have hbf : byF ss k j = (decide (0 ≤ ss[j].to) && hasU ss[j].u (UInt8.ofNat k)) := by unfold byF; rw [List.getElem?_eq_getElem hlt2]
          obtain ⟨⟨u, tg, fr, rl⟩, hs⟩ : ∃ s, ss[j] = s := ⟨_, rfl⟩
          rw [hs] at ce hokj hbf
          simp only at ce hokj hbf
          have d0 : wk.cell? ⟨b5, o + j * 7, none⟩ = some (.int .u64 (u 0)) := ce 0 _ rfl
          have d1 : wk.cell? ⟨b5, o + j * 7 + 1, none⟩ = some (.int .u64 (u 1)) := ce 1 _ rfl
          have d2 : wk.cell? ⟨b5, o + j * 7 + 2, none⟩ = some (.int .u64 (u 2)) := ce 2 _ rfl
          have d3 : wk.cell? ⟨b5, o + j * 7 + 3, none⟩ = some (.int .u64 (u 3)) := ce 3 _ rfl
          have d4 : wk.cell? ⟨b5, o + j * 7 + 4, none⟩ = some (.int .i64 tg) := ce 4 _ rfl
          have d5 : wk.cell? ⟨b5, o + j * 7 + 5, none⟩ = some (.slice qf fr.length f) := ce 5 _ rfl
          have d6 : wk.cell? ⟨b5, o + j * 7 + 6, none⟩ = some (.int .i64 rl) := ce 6 _ rfl
          have hjI : (j : Int) < (ss.length : Int) := by omega
          have hjI0 : ¬ (j : Int) < 0 := by omega
          have HBF := Lib.hid hbf
          have HX := Lib.hid (HY.out.xin (.cells #[.int .u64 (u 0), .int .u64 (u 1), .int .u64 (u 2), .int .u64 (u 3), .int .i64 tg, .slice qf fr.length f, .int .i64 rl] 73))
          clear hx hSV hcell hiv ce hbf hs HY
          go_upto_region 8 with fail
          obtain ⟨sb, hsb⟩ : ∃ sb, wk.heap.size = sb := ⟨_, rfl⟩
          rw [hsb] at HX
          refine at_world (fun y => SS B w0 y bb M ss R0 R k bv mo [.box sb (.cells #[.int .u64 (u 0), .int .u64 (u 1), .int .u64 (u 2), .int .u64 (u 3), .int .i64 tg, .slice qf fr.length f, .int .i64 rl] 73), .box bx (.cells (sA (byP ss k j)) 139)] X) HX.out fun y1 hy1 => ?_
          simp only [hsb]
          clear hsb d0 d1 d2 d3 d4 d5 d6 HX
          have hxb := hy1.xat
          have e0 : y1.cell? ⟨sb, 0, none⟩ = some (.int .u64 (u 0)) := cell_of_row y1 sb 0 _ 73 (0, 0) hxb
          have e1 : y1.cell? ⟨sb, 1, none⟩ = some (.int .u64 (u 1)) := cell_of_row y1 sb 1 _ 73 (0, 0) hxb
          have e2 : y1.cell? ⟨sb, 2, none⟩ = some (.int .u64 (u 2)) := cell_of_row y1 sb 2 _ 73 (0, 0) hxb
          have e3 : y1.cell? ⟨sb, 3, none⟩ = some (.int .u64 (u 3)) := cell_of_row y1 sb 3 _ 73 (0, 0) hxb
          have e4 : y1.cell? ⟨sb, 4, none⟩ = some (.int .i64 tg) := cell_of_row y1 sb 4 _ 73 (0, 0) hxb
          have HY2 := Lib.hid hy1.xout
          clear hxb hy1
          obtain ⟨bc, hbc⟩ : ∃ bc, byF ss k j = bc := ⟨_, rfl⟩
          rw [hbc] at HBF
          go_cut [32] from 23 to 32 (fun s32 wx => s32 = .bool bc ∧ Hid (SS B w0 wx bb M ss R0 R k bv mo [.box bx (.cells (sA (byP ss k j)) 139)] X))
          case first =>
            by_cases h0 : 0 ≤ tg
            · have hu := fun z => hasU_any hokj (UInt8.ofNat k) z
              have hb : hasU u (UInt8.ofNat k) = bc := by rw [HBF.out]; simp [h0]
              rw [hb, hbt] at hu
              unfold uV at hu
              have HU := Lib.hid hu
              clear hu hb hbc
              go_wp2_with fail
              refine (HU.out _).mono ?_
              rintro _ y3 ⟨rfl, hb3⟩
              have HY3 := Lib.hid (HY2.out.up hb3)
              clear hb3 HU HY2 e0 e1 e2 e3 e4
              go_wp2_with fail
              go_meet
              exact ⟨rfl, HY3⟩
            · have hb : bc = false := by rw [HBF.out]; simp; intro h; omega
              subst hb
              go_wp2_with fail
              go_meet
              exact ⟨rfl, HY2⟩
          case rest =>
          obtain ⟨rfl, HY3⟩ := hcut
          clear HY2 e0 e1 e2 e3 e4
          cases bc with
          | false =>
            have HN : Hid (SS B w0 wc bb M ss R0 R k bv mo [.box bx (.cells (sA (byP ss k (j + 1))) 139)] X) := Lib.hid (by rw [byP_no ss k j hbc]; exact HY3.out)
            clear HY3
            go_wp2_with fail
            go_roundw
            case rel => exact ⟨j + 1, by go_num, by omega, HN⟩
            case measure => simp [intOf]; omega
          | true =>
            have hbx := HY3.out.xat
            have HA := Lib.hid (addS_any (w := wc) (b := bx) (o := 0) (f := byP ss k j) (SW.row hbx) (fun i _ => frozen_of_row wc bx _ _ 139 hbx) (s := j) (by omega))
            have hnx : (wc.drew.setCell ⟨bx, 0 + j / 64, none⟩ (.int .u64 (W (fun x => byP ss k j x || x == j) (j / 64)))).heap[bx]? = some (.cells (sA (byP ss k (j + 1))) 139) := by
              have := heap_setCell_same wc.drew bx (0 + j / 64) (sA (byP ss k j)) 139 (.int .u64 (W (fun x => byP ss k j x || x == j) (j / 64))) hbx
              rw [this, Nat.zero_add, sA_put _ (by omega), byP_yes ss k j hbc]
            have HN := Lib.hid (SS.put (z := wc.drew.setCell ⟨bx, 0 + j / 64, none⟩ (.int .u64 (W (fun x => byP ss k j x || x == j) (j / 64)))) (HY3.out.up (Below.refl _ _).drew) ⟨rfl, rfl, rfl, by simp, fun z hz hne => heap_setCell_other wc.drew _ z _ (fun e => hne (by rw [e]))⟩ hnx)
            clear hnx hbx HY3
            go_wp2_with fail
            refine HA.out.mono ?_
            rintro _ y5 ⟨rfl, rfl⟩
            obtain ⟨y5, hy5⟩ : ∃ y5, (wc.drew.setCell ⟨bx, 0 + j / 64, none⟩ (.int .u64 (W (fun x => byP ss k j x || x == j) (j / 64)))) = y5 := ⟨_, rfl⟩
            rw [hy5] at HN ⊢
            clear hy5 HA
            go_wp2_with fail
            go_roundw
            case rel => exact ⟨j + 1, by go_num, by omega, HN⟩
            case measure => simp [intOf]; omega
        · obtain rfl : j = ss.length := by omega
          rw [byP_all] at HY
          have hjI : ¬ (ss.length : Int) < (ss.length : Int) := by omega
          obtain ⟨E, n9, hn9, hown, hmk⟩ := HY.out.map
          have HOWN := Lib.hid hown
          have HMK := Lib.hid hmk
          have HSWx := Lib.hid (SW.row HY.out.xat)
          have HDR := Lib.hid HY.out.xout
          clear hown hmk
          by_cases hin : byK ss k ∈ seen (byK ss) k
          · have hhas : Maps.has E (.string (keyBytes (litsS (byF ss k)))) = true := by
              have := HMK.out.has (byK ss k) trivial
              rw [show (Lit.string (keyBytes (litsS (byF ss k)))) = Lit.string (byK ss k) from rfl, this]; simp [hin]
            have HIN := Lib.hid hin
            have hfz := HDR.out.fz (66 + k)
            have hce : ∃ v, wk.cell? ⟨bb, 66 + k, none⟩ = some v := ⟨_, by rw [HDR.out.cell, Array.getElem?_eq_getElem (by have := HDR.out.rs.sz; omega)]⟩
            obtain ⟨v66, hce⟩ := hce
            clear hin
            go_wp2_with (first | (refine wpList_load_S rfl (.tmp 4) rfl bx 0 (byF ss k) rfl HSWx.out ?_) | (at_lookup; refine wpList_lookup_own_ok_int _ rfl _ _ 162 rfl 139 5 .u8 keyedS Tryd.underlying162 Tryd.underlying5 (Tryd.zeroValue5 _) M n9 E rfl HOWN.out _ _ rfl (keyS (byF ss k)) ?_; intro c9 hat hwc))
            have hidx : ((soF ss k : Nat) : Int) = c9 := by
              have hat2 : E.atKey (Lit.string (byK ss k)) (.lit (.int .u8 0)) = .lit (.int .u8 c9) := hat
              rw [soF_in ss hk HIN.out]; exact mk_val HMK.out HIN.out hat2
            have hbl : byL ss (k + 1) = byL ss k := by rw [byL, if_pos HIN.out]
            have hN := SS.next hbl HDR.out.rs (by rw [seen_in HIN.out]; exact HDR.out.mp.mono (Nat.le_succ k)) HDR.out.sep hRs hlt
            rw [hidx] at hN
            have HN := Lib.hid hN
            clear hN hat
            go_roundw
            case rel => exact ⟨k + 1, _, _, _, by go_num, by omega, HN⟩
            case measure => simp [intOf]; omega
          · have hhas : Maps.has E (.string (keyBytes (litsS (byF ss k)))) = false := by
              have := HMK.out.has (byK ss k) trivial
              rw [show (Lit.string (keyBytes (litsS (byF ss k)))) = Lit.string (byK ss k) from rfl, this]; simp [hin]
            have HIN := Lib.hid hin
            obtain ⟨pb, cb, rfl⟩ := rowF_ HDR.out.row
            have hLk : (byL ss k).length ≤ k := by rw [byL_len]; exact seen_len _ _
            have hsz := HMK.out.size
            have hsz2 : (seen (byK ss) k).length = (byL ss k).length := (byL_len ss k).symm
            obtain ⟨L, hL⟩ : ∃ L, (byL ss k).length = L := ⟨_, rfl⟩
            rw [hL] at hLk hsz2
            have HL := Lib.hid hL
            have c322 : wk.cell? ⟨bb, 322, none⟩ = some (.slice pb L cb) := by rw [HDR.out.cell, HDR.out.rs.bv, hL]
            have hL8 : IntKind.u8.wrap (L : Int) = (L : Int) := IntWalk.u8_in _ (by omega)
            have HSEP := Lib.hid HY.out.sep
            have HBXM : Hid (bx ≠ M ∧ bx ≠ bb ∧ bb ≠ M) := Lib.hid ⟨fun e => (List.pairwise_cons.1 HY.out.sep.ap).1 (.box M mo) (by simp) bx rfl (by rw [e]; rfl), fun e => (List.pairwise_cons.1 HY.out.sep.ap).1 (.box bb (.cells R 144)) (by simp) bx rfl (by rw [e]; rfl), fun e => (List.pairwise_cons.1 (List.pairwise_cons.1 HY.out.sep.ap).2).1 (.box M mo) (by simp) bb rfl (by rw [e]; rfl)⟩
            have HRS := Lib.hid HDR.out.rs
            clear hin hL HDR HY
            go_upto_region 15 with (first | (refine wpList_load_S rfl (.tmp 4) rfl bx 0 (byF ss k) rfl HSWx.out ?_) | (at_lookup; refine wpList_lookup_own_ok_int _ rfl _ _ 162 rfl 139 5 .u8 keyedS Tryd.underlying162 Tryd.underlying5 (Tryd.zeroValue5 _) M n9 E rfl HOWN.out _ _ rfl (keyS (byF ss k)) ?_; intro c9 hat hwc) | (at_mapUpdate; refine wpList_mapUpdate_own _ rfl _ _ _ 162 rfl 139 5 keyedS Tryd.underlying162 _ M n9 E rfl HOWN.out (by unfold maxLen; omega) _ _ _ rfl rfl (keyS (byF ss k)) (.lit (.int .u8 (L : Nat))) [] (plainElem_int Tryd.underlying5 (WalkArith.wf_u8 (by omega))) ?_; intro w1 hown1 hgrow1))
            (try simp only [Act.put])
            obtain ⟨mo', hmo'⟩ : ∃ mo', w1.heap[M]? = some mo' := ⟨_, hown1.choose_spec.choose_spec.1⟩
            have hbl : byL ss (k + 1) = byL ss k ++ [byF ss k] := by rw [byL, if_neg HIN.out]
            have HBL := Lib.hid hbl
            have hmp : MpJ M mo' (k + 1) (seen (byK ss) (k + 1)) := by
              refine mpj_of hown1 hmo' (by omega) ?_
              rw [seen_out HIN.out, ← hsz2]
              exact MK.put HMK.out (fun x _ => by simp [WideAt.IsKeyLit]) (fun x y _ _ e => by injection e) (x := byK ss k) trivial HIN.out
            have hsep0 := HSEP.out
            simp only [List.cons_append, List.nil_append] at hsep0
            have hsep1 := Sep.repAt (l₁ := [_, _, _]) (x := .box M mo) (x' := .box M mo') hsep0 hgrow1 ⟨(hsep0.li (.box M mo) (by simp)).1, hmo'⟩ (fun b hb => .inl hb)
            simp only [List.cons_append, List.nil_append] at hsep1
            have HMP := Lib.hid hmp
            have HSEP1 := Lib.hid hsep1
            have hso : soF ss k = L := by rw [soF_out ss hlt HIN.out, HL.out]
            have HSO := Lib.hid hso
            obtain ⟨fv, hfv⟩ : ∃ fv, sV (byF ss k) = fv := ⟨_, rfl⟩
            rw [hfv]
            have HFV := Lib.hid hfv
            clear hbl hmp hsep0 hsep1 hso hfv hown1 hgrow1 hmo' HSEP HOWN HMK c322 hhas hat
            have HS4 := Lib.hid (HSEP1.out.drew.up ((Below.refl _ _).alloc (Nat.le_refl _) (.cells (sA (byF ss k)) 139)))
            have hsw1 : SW w1.drew bx 0 (byF ss k) := SW.row (HSEP1.out.li _ (List.mem_cons_self ..)).2
            have H322 : Hid (∀ v : World, v.heap[bb]? = some (.cells R 144) → v.cell? ⟨bb, 322, none⟩ = some (.slice pb L cb)) := Lib.hid fun v hv => by rw [cell_of_row v bb 322 R 144 (0, 0) hv, HRS.out.bv, HL.out]
            have hbb1 : w1.drew.heap[bb]? = some (.cells R 144) := (HSEP1.out.li (.box bb (.cells R 144)) (by simp)).2
            have HBB1 := Lib.hid hbb1
            have HBB4 : Hid ((w1.drew.alloc (.cells (sA (byF ss k)) 139)).heap[bb]? = some (.cells R 144)) := Lib.hid (HS4.out.li (.box bb (.cells R 144)) (by simp)).2
            have HSW4 : Hid (SW (w1.drew.alloc (.cells (sA (byF ss k)) 139)) bx 0 (byF ss k)) := Lib.hid (SW.row (HS4.out.li _ (List.mem_cons_self ..)).2)
            obtain ⟨i0, hi, hz0, hz1, hz2⟩ := info_parts info139z
            have HROW : Hid ((w1.drew.alloc (.cells (sA (byF ss k)) 139)).ownsRow B 139 64 (.slice pb L cb) L (setF (byL ss k))) := Lib.hid (by
              have h := HS4.out.li (.row (.slice pb (byL ss k).length cb) 139 64 (byL ss k).length (setF (byL ss k))) (by simp)
              simp only [It.lies] at h
              rw [HL.out] at h; exact h)
            clear hbb1
            refine wp_region_held_drew (S := fun v => SW v bx 0 (byF ss k)) (by kernel_rfl) hsw1 (fun hHeld => ?_)
            refine wpAnyH_take (i := 0) (v := (.pointer (some ⟨bb, 0, none⟩))) rfl (by kernel_rfl) (by kernel_rfl) (by kernel_rfl) (fun _ _ _ h => h) (Or.inl ⟨by rfl, by (intro w hSw; (try dsimp only at hSw); go_simp)⟩) hHeld ?_
            (try simp only [Act.put, List.getElem_toArray, List.getElem_cons_zero, List.getElem_cons_succ, List.setIfInBounds_toArray, List.set_cons_zero, List.set_cons_succ])
            refine wpAnyH_take (i := 1) (v := (.pointer (some ⟨bb, 0, none⟩))) rfl (by kernel_rfl) (by kernel_rfl) (by kernel_rfl) (fun _ _ _ h => h) (Or.inl ⟨by rfl, by (intro w hSw; (try dsimp only at hSw); go_simp)⟩) hHeld ?_
            (try simp only [Act.put, List.getElem_toArray, List.getElem_cons_zero, List.getElem_cons_succ, List.setIfInBounds_toArray, List.set_cons_zero, List.set_cons_succ])
            refine wpAnyH_take (i := 2) (v := (.pointer (some ⟨bb, 0, none⟩))) rfl (by kernel_rfl) (by kernel_rfl) (by kernel_rfl) (fun _ _ _ h => h) (Or.inl ⟨by rfl, by (intro w hSw; (try dsimp only at hSw); go_simp)⟩) hHeld ?_
            (try simp only [Act.put, List.getElem_toArray, List.getElem_cons_zero, List.getElem_cons_succ, List.setIfInBounds_toArray, List.set_cons_zero, List.set_cons_succ])
            refine wpAnyH_take (i := 3) (v := (.pointer (some ⟨bb, 322, none⟩))) rfl (by kernel_rfl) (by kernel_rfl) (by kernel_rfl) (fun _ _ _ h => h) (Or.inl ⟨by rfl, by (intro w hSw; (try dsimp only at hSw); go_simp)⟩) hHeld ?_
            (try simp only [Act.put, List.getElem_toArray, List.getElem_cons_zero, List.getElem_cons_succ, List.setIfInBounds_toArray, List.set_cons_zero, List.set_cons_succ])
            refine wpAnyH_take (i := 5) (v := fv) rfl (by kernel_rfl) (by kernel_rfl) (by kernel_rfl) (fun _ _ _ h => h) (yieldsIf_load_S (by rfl) (.tmp 4) rfl bx 0 rfl HFV.out (fun v hv => hv)) hHeld ?_
            (try simp only [Act.put, List.getElem_toArray, List.getElem_cons_zero, List.getElem_cons_succ, List.setIfInBounds_toArray, List.set_cons_zero, List.set_cons_succ])
            refine wpAnyH_ready (rs := [4, 6]) (by kernel_rfl) (by simp) ?_
            refine AllReadyH.cons rfl (fun K9 hK => ?_) (AllReadyH.cons rfl (fun K9 hK => ?_) (AllReadyH.nil))
            · rw [if_pos (by rfl)]
              refine wp_load_slice 140 (.tmp 56) rfl ⟨bb, 322, none⟩ rfl Tryd.underlying140 (.slice pb L cb) (H322.out _ HBB1.out) ?_
              refine hK.out _ _ (hsw1) (fun hHeld2 => ?_)
              clear hHeld hK
              have hHeld := hHeld2
              clear hHeld2
              (try simp only [Act.put, List.getElem_toArray, List.getElem_cons_zero, List.getElem_cons_succ, List.setIfInBounds_toArray, List.set_cons_zero, List.set_cons_succ])
              refine wpAnyH_ready (rs := [6]) (by kernel_rfl) (by simp) ?_
              refine AllReadyH.cons rfl (fun K9 hK => ?_) (AllReadyH.nil)
              rw [if_pos (by rfl)]
              refine wp_buildS (.tmp 58) rfl (byF ss k) fv HFV.out rfl ?_
              refine hK.out _ _ (HSW4.out) (fun hHeld2 => ?_)
              clear hHeld hK
              have hHeld := hHeld2
              clear hHeld2
              (try simp only [Act.put, List.getElem_toArray, List.getElem_cons_zero, List.getElem_cons_succ, List.setIfInBounds_toArray, List.set_cons_zero, List.set_cons_succ])
              refine wpAnyH_ready (rs := [7]) (by kernel_rfl) (by simp) ?_
              refine AllReadyH.cons rfl (fun K9 hK => ?_) (AllReadyH.nil)
              rw [if_pos (by rfl)]
              refine wp_append_own (.tmp 57) (.tmp 59) 140 rfl B 139 i0 (sV noS) 64 512 Tryd.underlying140 hi hz0 hz1 hz2 ?e0 (by decide) (.slice pb L cb) L (setF (byL ss k)) rfl HROW.out ⟨w1.drew.heap.size, 0, none⟩ 1 1 (sA (byF ss k)).toList rfl ?e1 ?e2 ?e3 ?e4 ?e5 ?e6 ?_
              case e0 => unfold sV; simp [Value.cells, sA_size]
              case e1 => simp [sA_size]
              case e2 => intro j u hu; rw [Array.getElem?_toList] at hu; rw [← hu]; have := cell_of_row (w1.drew.alloc (.cells (sA (byF ss k)) 139)) w1.drew.heap.size j (sA (byF ss k)) 139 (0, 0) (heap_alloc_last _ _); rcases j with _ | j <;> simpa [Addr.add] using this
              case e3 => intro u hu; rw [Array.mem_toList_iff] at hu; obtain ⟨i, hi2, rfl⟩ := Array.getElem_of_mem hu; have := sA_get (byF ss k) (i := i) (by rw [sA_size] at hi2; exact hi2); rw [Array.getElem?_eq_getElem hi2] at this; rw [Option.some.inj this]; rfl
              case e4 => unfold maxLen; omega
              case e5 => omega
              case e6 => exact HS4.out.sz
              intro v' w7 hown7 hgrow7 hat7
              obtain ⟨p7, c7, rfl⟩ := rowF_ hown7
              have hrw7 : w7.ownsRow B 139 64 (Value.slice p7 (L + 1) c7) (byL ss k ++ [byF ss k]).length (setF (byL ss k ++ [byF ss k])) := by rw [setF_app, List.length_append, HL.out]; exact hown7
              have hs4 := HS4.out
              rw [HL.out] at hs4
              have hs7 := Sep.repAt (l₁ := [_, _]) (x := .row (.slice pb L cb) 139 64 L (setF (byL ss k))) (x' := .row (Value.slice p7 (L + 1) c7) 139 64 (byL ss k ++ [byF ss k]).length (setF (byL ss k ++ [byF ss k]))) hs4 hgrow7 hrw7 (fun b hb => hat7.elim (fun e => .inl (e.symm.trans hb)) fun e => .inr (by have h2 : (Value.slice p7 (L + 1) c7).ownBlock = some b := hb; rw [e] at h2; cases h2; exact Nat.le_refl _))
              simp only [List.cons_append, List.nil_append] at hs7
              have hF7 : w7.heap[bb]? = some (.cells R 144) := (hs7.li (.box bb (.cells R 144)) (by simp)).2
              have hsw7 : SW w7 bx 0 (byF ss k) := SW.row (hs7.li _ (List.mem_cons_self ..)).2
              have hfz7 : w7.frozen? ⟨bb, 322, none⟩ = false := frozen_of_row w7 bb 322 R 144 hF7
              have hc7 := H322.out w7 hF7
              have hb8 : (w7.setCell ⟨bb, 322, none⟩ (Value.slice p7 (L + 1) c7)).heap[bb]? = some (.cells (R.setIfInBounds 322 (Value.slice p7 (L + 1) c7)) 144) := heap_setCell_same w7 bb 322 R 144 _ hF7
              have HS8 := Lib.hid (Sep.put (w' := w7.setCell ⟨bb, 322, none⟩ (Value.slice p7 (L + 1) c7)) hs7.tl ⟨rfl, rfl, rfl, by simp, fun k hk hne => heap_setCell_other w7 _ k _ (fun e => hne (by rw [e]))⟩ hb8)
              have HW8 : Hid (SW (w7.setCell ⟨bb, 322, none⟩ (Value.slice p7 (L + 1) c7)) bx 0 (byF ss k)) := Lib.hid (hsw7.same (heap_setCell_other w7 _ bx _ (fun e => HBXM.out.2.1 e)))
              clear hs4 hs7 hb8 hF7 hrw7 hown7 hgrow7 hat7
              refine hK.out _ _ (hsw7) (fun hHeld2 => ?_)
              clear hHeld hK
              have hHeld := hHeld2
              clear hHeld2
              (try simp only [Act.put, List.getElem_toArray, List.getElem_cons_zero, List.getElem_cons_succ, List.setIfInBounds_toArray, List.set_cons_zero, List.set_cons_succ])
              clear hsw7
              refine wpAnyH_take (i := 8) (v := (.pointer (some ⟨bb, 0, none⟩))) rfl (by kernel_rfl) (by kernel_rfl) (by kernel_rfl) (fun _ _ _ h => h) (Or.inl ⟨by rfl, by (intro w hSw; (try dsimp only at hSw); go_simp)⟩) hHeld ?_
              (try simp only [Act.put, List.getElem_toArray, List.getElem_cons_zero, List.getElem_cons_succ, List.setIfInBounds_toArray, List.set_cons_zero, List.set_cons_succ])
              refine wpAnyH_take (i := 9) (v := (.pointer (some ⟨bb, 322, none⟩))) rfl (by kernel_rfl) (by kernel_rfl) (by kernel_rfl) (fun _ _ _ h => h) (Or.inl ⟨by rfl, by (intro w hSw; (try dsimp only at hSw); go_simp)⟩) hHeld ?_
              (try simp only [Act.put, List.getElem_toArray, List.getElem_cons_zero, List.getElem_cons_succ, List.setIfInBounds_toArray, List.set_cons_zero, List.set_cons_succ])
              refine wpAnyH_ready (rs := [10]) (by kernel_rfl) (by simp) ?_
              refine AllReadyH.cons rfl (fun K9 hK => ?_) (AllReadyH.nil)
              rw [if_pos (by rfl)]
              go_wp2_with fail
              refine hK.out _ _ (HW8.out) (fun hHeld2 => ?_)
              clear hHeld hK
              have hHeld := hHeld2
              clear hHeld2
              (try simp only [Act.put, List.getElem_toArray, List.getElem_cons_zero, List.getElem_cons_succ, List.setIfInBounds_toArray, List.set_cons_zero, List.set_cons_succ])
              clear HW8 hfz7 hc7
              refine wpAnyH_done (by kernel_rfl) ?_ _
              obtain ⟨w8, hw8⟩ : ∃ w8, (w7.setCell ⟨bb, 322, none⟩ (Value.slice p7 (L + 1) c7)) = w8 := ⟨_, rfl⟩
              rw [hw8] at HS8 ⊢
              clear hw8
              have HB8 := Lib.hid (HS8.out.li _ (List.mem_cons_self ..)).2
              have hfz := frozen_of_row w8 bb (66 + k) _ 144 HB8.out
              have hRS8 := HRS.out.by_ hRs hk (Value.slice p7 (L + 1) c7)
              have hce : ∃ v, w8.cell? ⟨bb, 66 + k, none⟩ = some v := ⟨_, by rw [cell_of_row w8 bb (66 + k) _ 144 (0, 0) HB8.out, Array.getElem?_eq_getElem (by have := hRS8.sz; omega)]⟩
              obtain ⟨v66, hce⟩ := hce
              have hN := SS.next HBL.out hRS8 HMP.out HS8.out hRs hlt
              rw [HSO.out] at hN
              have HN := Lib.hid hN
              clear hN hRS8 HS8 HB8
              go_wp2_with fail
              go_roundw
              case rel => exact ⟨k + 1, _, _, _, by go_num, by omega, HN⟩
              case measure => simp [intOf]; omega
            · rw [if_pos (by rfl)]
              refine wp_buildS (.tmp 58) rfl (byF ss k) fv HFV.out rfl ?_
              refine hK.out _ _ (HSW4.out) (fun hHeld2 => ?_)
              clear hHeld hK
              have hHeld := hHeld2
              clear hHeld2
              (try simp only [Act.put, List.getElem_toArray, List.getElem_cons_zero, List.getElem_cons_succ, List.setIfInBounds_toArray, List.set_cons_zero, List.set_cons_succ])
              refine wpAnyH_ready (rs := [4]) (by kernel_rfl) (by simp) ?_
              refine AllReadyH.cons rfl (fun K9 hK => ?_) (AllReadyH.nil)
              rw [if_pos (by rfl)]
              refine wp_load_slice 140 (.tmp 56) rfl ⟨bb, 322, none⟩ rfl Tryd.underlying140 (.slice pb L cb) (H322.out _ HBB4.out) ?_
              refine hK.out _ _ (HSW4.out) (fun hHeld2 => ?_)
              clear hHeld hK
              have hHeld := hHeld2
              clear hHeld2
              (try simp only [Act.put, List.getElem_toArray, List.getElem_cons_zero, List.getElem_cons_succ, List.setIfInBounds_toArray, List.set_cons_zero, List.set_cons_succ])
              refine wpAnyH_ready (rs := [7]) (by kernel_rfl) (by simp) ?_
              refine AllReadyH.cons rfl (fun K9 hK => ?_) (AllReadyH.nil)
              rw [if_pos (by rfl)]
              refine wp_append_own (.tmp 57) (.tmp 59) 140 rfl B 139 i0 (sV noS) 64 512 Tryd.underlying140 hi hz0 hz1 hz2 ?e0 (by decide) (.slice pb L cb) L (setF (byL ss k)) rfl HROW.out ⟨w1.drew.heap.size, 0, none⟩ 1 1 (sA (byF ss k)).toList rfl ?e1 ?e2 ?e3 ?e4 ?e5 ?e6 ?_
              case e0 => unfold sV; simp [Value.cells, sA_size]
              case e1 => simp [sA_size]
              case e2 => intro j u hu; rw [Array.getElem?_toList] at hu; rw [← hu]; have := cell_of_row (w1.drew.alloc (.cells (sA (byF ss k)) 139)) w1.drew.heap.size j (sA (byF ss k)) 139 (0, 0) (heap_alloc_last _ _); rcases j with _ | j <;> simpa [Addr.add] using this
              case e3 => intro u hu; rw [Array.mem_toList_iff] at hu; obtain ⟨i, hi2, rfl⟩ := Array.getElem_of_mem hu; have := sA_get (byF ss k) (i := i) (by rw [sA_size] at hi2; exact hi2); rw [Array.getElem?_eq_getElem hi2] at this; rw [Option.some.inj this]; rfl
              case e4 => unfold maxLen; omega
              case e5 => omega
              case e6 => exact HS4.out.sz
              intro v' w7 hown7 hgrow7 hat7
              obtain ⟨p7, c7, rfl⟩ := rowF_ hown7
              have hrw7 : w7.ownsRow B 139 64 (Value.slice p7 (L + 1) c7) (byL ss k ++ [byF ss k]).length (setF (byL ss k ++ [byF ss k])) := by rw [setF_app, List.length_append, HL.out]; exact hown7
              have hs4 := HS4.out
              rw [HL.out] at hs4
              have hs7 := Sep.repAt (l₁ := [_, _]) (x := .row (.slice pb L cb) 139 64 L (setF (byL ss k))) (x' := .row (Value.slice p7 (L + 1) c7) 139 64 (byL ss k ++ [byF ss k]).length (setF (byL ss k ++ [byF ss k]))) hs4 hgrow7 hrw7 (fun b hb => hat7.elim (fun e => .inl (e.symm.trans hb)) fun e => .inr (by have h2 : (Value.slice p7 (L + 1) c7).ownBlock = some b := hb; rw [e] at h2; cases h2; exact Nat.le_refl _))
              simp only [List.cons_append, List.nil_append] at hs7
              have hF7 : w7.heap[bb]? = some (.cells R 144) := (hs7.li (.box bb (.cells R 144)) (by simp)).2
              have hsw7 : SW w7 bx 0 (byF ss k) := SW.row (hs7.li _ (List.mem_cons_self ..)).2
              have hfz7 : w7.frozen? ⟨bb, 322, none⟩ = false := frozen_of_row w7 bb 322 R 144 hF7
              have hc7 := H322.out w7 hF7
              have hb8 : (w7.setCell ⟨bb, 322, none⟩ (Value.slice p7 (L + 1) c7)).heap[bb]? = some (.cells (R.setIfInBounds 322 (Value.slice p7 (L + 1) c7)) 144) := heap_setCell_same w7 bb 322 R 144 _ hF7
              have HS8 := Lib.hid (Sep.put (w' := w7.setCell ⟨bb, 322, none⟩ (Value.slice p7 (L + 1) c7)) hs7.tl ⟨rfl, rfl, rfl, by simp, fun k hk hne => heap_setCell_other w7 _ k _ (fun e => hne (by rw [e]))⟩ hb8)
              have HW8 : Hid (SW (w7.setCell ⟨bb, 322, none⟩ (Value.slice p7 (L + 1) c7)) bx 0 (byF ss k)) := Lib.hid (hsw7.same (heap_setCell_other w7 _ bx _ (fun e => HBXM.out.2.1 e)))
              clear hs4 hs7 hb8 hF7 hrw7 hown7 hgrow7 hat7
              refine hK.out _ _ (hsw7) (fun hHeld2 => ?_)
              clear hHeld hK
              have hHeld := hHeld2
              clear hHeld2
              (try simp only [Act.put, List.getElem_toArray, List.getElem_cons_zero, List.getElem_cons_succ, List.setIfInBounds_toArray, List.set_cons_zero, List.set_cons_succ])
              clear hsw7
              refine wpAnyH_take (i := 8) (v := (.pointer (some ⟨bb, 0, none⟩))) rfl (by kernel_rfl) (by kernel_rfl) (by kernel_rfl) (fun _ _ _ h => h) (Or.inl ⟨by rfl, by (intro w hSw; (try dsimp only at hSw); go_simp)⟩) hHeld ?_
              (try simp only [Act.put, List.getElem_toArray, List.getElem_cons_zero, List.getElem_cons_succ, List.setIfInBounds_toArray, List.set_cons_zero, List.set_cons_succ])
              refine wpAnyH_take (i := 9) (v := (.pointer (some ⟨bb, 322, none⟩))) rfl (by kernel_rfl) (by kernel_rfl) (by kernel_rfl) (fun _ _ _ h => h) (Or.inl ⟨by rfl, by (intro w hSw; (try dsimp only at hSw); go_simp)⟩) hHeld ?_
              (try simp only [Act.put, List.getElem_toArray, List.getElem_cons_zero, List.getElem_cons_succ, List.setIfInBounds_toArray, List.set_cons_zero, List.set_cons_succ])
              refine wpAnyH_ready (rs := [10]) (by kernel_rfl) (by simp) ?_
              refine AllReadyH.cons rfl (fun K9 hK => ?_) (AllReadyH.nil)
              rw [if_pos (by rfl)]
              go_wp2_with fail
              refine hK.out _ _ (HW8.out) (fun hHeld2 => ?_)
              clear hHeld hK
              have hHeld := hHeld2
              clear hHeld2
              (try simp only [Act.put, List.getElem_toArray, List.getElem_cons_zero, List.getElem_cons_succ, List.setIfInBounds_toArray, List.set_cons_zero, List.set_cons_succ])
              clear HW8 hfz7 hc7
              refine wpAnyH_done (by kernel_rfl) ?_ _
              obtain ⟨w8, hw8⟩ : ∃ w8, (w7.setCell ⟨bb, 322, none⟩ (Value.slice p7 (L + 1) c7)) = w8 := ⟨_, rfl⟩
              rw [hw8] at HS8 ⊢
              clear hw8
              have HB8 := Lib.hid (HS8.out.li _ (List.mem_cons_self ..)).2
              have hfz := frozen_of_row w8 bb (66 + k) _ 144 HB8.out
              have hRS8 := HRS.out.by_ hRs hk (Value.slice p7 (L + 1) c7)
              have hce : ∃ v, w8.cell? ⟨bb, 66 + k, none⟩ = some v := ⟨_, by rw [cell_of_row w8 bb (66 + k) _ 144 (0, 0) HB8.out, Array.getElem?_eq_getElem (by have := hRS8.sz; omega)]⟩
              obtain ⟨v66, hce⟩ := hce
              have hN := SS.next HBL.out hRS8 HMP.out HS8.out hRs hlt
              rw [HSO.out] at hN
              have HN := Lib.hid hN
              clear hN hRS8 HS8 HB8
              go_wp2_with fail
              go_roundw
              case rel => exact ⟨k + 1, _, _, _, by go_num, by omega, HN⟩
              case measure => simp [intOf]; omega
    · obtain rfl : k = 256 := by omega
      have hltI : ¬ (256 : Int) < 256 := by omega
      go_wp2_with fail
      go_end0
      refine ⟨rfl, R, bv, HY.out.rs, ?_⟩
      exact (HY.out.sep.perm (List.perm_middle (l₁ := [_, _]))).tl
end Go.Proofs.YthglciccejholaaDoor
