/- Packages dfa, mini, munch. -/
import Derived.Test.YtbdbnjbafampaaaProg
import Derived.Test.YtbdbnjbafampaaaEe
import Derived.WalkKit
import Derived.BigFrame
import Derived.WalkMore
import Derived.ScopeJumps
import Derived.StillTailTactics
import Derived.Stop.BytesEq
import Derived.WalkLawsBesides
import Derived.WalkSpells
import Derived.Outline
import Derived.Lib.Walk
import Derived.Lib.Hide
import Derived.Lib.Slices
import Derived.Lib.Strings
import Derived.RegionTactic
import Derived.LoopTactic
import Derived.Below
import Derived.IntWalk
import Derived.Deep.QuietTactic
import Derived.BigQuiet
import Derived.Deep.MidRow
import Derived.Maps.AppendAt
import Derived.Laws.Rows
import Derived.Laws.Tables
import Derived.Deep.WholeRow
import Derived.Deep.Cut
import Derived.Deep.CutRange
import Derived.Lib.SliceRun
import Derived.Laws.MakeOwn
import Derived.Deep.RegionLaw
import Derived.Deep.RegionLawGrows
import Derived.Deep.RegionHeld3
import Derived.RegionCalls
import Derived.Deep.RegionWith
import Derived.Deep.Light
import Derived.Laws.CopyOwn
import Derived.Laws.ResultCell
namespace Go.Proofs.Ytbdbnjbafampaaa
set_option linter.unusedSimpArgs false
set_option linter.unusedVariables false
set_option maxRecDepth 100000
open Go.RowKit
/- The document's Go, Walk, RuleAt, GoesOn. -/
theorem nx_open {D : Nat → Prop} {w : World} {d : Df} {p q : Option Addr} {c f : Nat} (hm : DM D w d p q c f) (hmay : MayD d) (n : Nat) (hn : n < d.nx.length) :
    ∃ b o qf ff, p = some ⟨b, o, none⟩ ∧ b < w.heap.size ∧ w.cell? ⟨b, o + n, none⟩ = some (.slice qf (row0 d).length ff) ∧ (∀ x, x < (row0 d).length → ∃ bf of, qf = some ⟨bf, of, none⟩ ∧ bf < w.heap.size ∧ w.cell? ⟨bf, of + x, none⟩ = some (.int .i64 (cellAt d n x))) ∧ IV D w d.nx[n] (.slice qf (row0 d).length ff) ∧ (d.nx[n]).length = (row0 d).length := by
  obtain ⟨p', c', he, hh⟩ := hm.nx
  injection he with e1 e2 e3
  subst e1 e3
  obtain ⟨b, o, rfl, hb, hc⟩ := hh (by intro e; rw [e] at hn; simp at hn)
  obtain ⟨qf, ff, hiv, hcj⟩ := hc n hn
  have hrw := (hmay.rw d.nx[n] (List.getElem_mem hn)).1
  rw [hrw] at hcj hiv
  refine ⟨b, o, qf, ff, rfl, hm.lt b hb, hcj, fun x hx => ?_, hiv, hrw⟩
  have hiv2 := hiv
  rw [← hrw] at hiv2
  obtain ⟨p', c', he, hh2⟩ := hiv2
  injection he with e1 e5 e4
  subst e1 e4
  have hx2 : x < (d.nx[n]).length := by rw [hrw]; exact hx
  obtain ⟨bf, of, rfl, hbf, hcf⟩ := hh2 (by intro e; rw [e] at hx2; simp at hx2)
  refine ⟨bf, of, rfl, hm.lt bf hbf, ?_⟩
  rw [hcf x hx2]
  unfold cellAt
  rw [List.getElem?_eq_getElem hn]
  show _ = some (Value.int .i64 ((d.nx[n]).getD x (-1)))
  rw [List.getD_eq_getElem?_getD, List.getElem?_eq_getElem hx2]; rfl
theorem rl_open {D : Nat → Prop} {w : World} {d : Df} {p q : Option Addr} {c f : Nat} (hm : DM D w d p q c f) (n : Nat) (hn : n < d.rl.length) :
    ∃ b o, q = some ⟨b, o, none⟩ ∧ b < w.heap.size ∧ w.cell? ⟨b, o + n, none⟩ = some (.int .i64 (d.rl.getD n (-1))) := by
  obtain ⟨p', c', he, hh⟩ := hm.rl
  injection he with e1 e2 e3
  subst e1 e3
  obtain ⟨b, o, rfl, hb, hc⟩ := hh (by intro e; rw [e] at hn; simp at hn)
  refine ⟨b, o, rfl, hm.lt b hb, ?_⟩
  rw [hc n hn, List.getD_eq_getElem?_getD, List.getElem?_eq_getElem hn]; rfl
set_option maxHeartbeats 4000000 in
theorem refgo_any {D : Nat → Prop} {w : World} {d : Df} {ds : Array Value} {p q : Option Addr} {c f : Nat} (s : Int) (x : Nat) (hd : DC d ds p q c f) (hm : DM D w d p q c f) (hmay : MayD d) (hx : x < 256) (hs : s < (d.nx.length : Int)) :
    Calls Try.prog 77 #[.agg ds, .int .i64 s, .int .u8 (x : Nat)] w fun e w' => e = .returned (.int .i64 (goD d s x)) ∧ Below w.heap.size w w' := by
  have S0 := Lib.hid ((Below.refl w.heap.size w).alloc (Nat.le_refl _) (.cells ds 26))
  have c257 : (w.alloc (.cells ds 26)).cell? ⟨w.heap.size, 257, none⟩ = some (.slice p d.nx.length c) := ((BX.new w ds).cell 257).trans hd.nx
  have cx : (w.alloc (.cells ds 26)).cell? ⟨w.heap.size, 1 + x, none⟩ = some (.int .u8 (d.cl x : Nat)) := ((BX.new w ds).cell (1 + x)).trans (hd.cl x hx).1
  have hc9 := (hd.cl x hx).2
  by_cases hs0 : s < 0
  · have HG : Hid (goD d s x = -1) := Lib.hid (by unfold goD; rw [if_pos hs0])
    clear hd hm hmay
    go_enter Try.func77, Try.ntmps77
    go_wp2_with fail
    go_ret
    exact ⟨by rw [HG.out]; rfl, S0.out⟩
  · obtain ⟨n, rfl⟩ : ∃ n : Nat, s = (n : Int) := ⟨s.toNat, by omega⟩
    have hn : n < d.nx.length := by omega
    obtain ⟨b, o, qf, ff, rfl, hb, hcj, hcf, -, -⟩ := nx_open hm hmay n hn
    obtain ⟨bf, of, rfl, hbf, hcx⟩ := hcf (d.cl x) (hmay.cl x hx)
    have y1 : (w.alloc (.cells ds 26)).cell? ⟨b, o + n, none⟩ = some (.slice (some ⟨bf, of, none⟩) (row0 d).length ff) := (cell_same (S0.out.block b hb) _).trans hcj
    have y2 : (w.alloc (.cells ds 26)).cell? ⟨bf, of + d.cl x, none⟩ = some (.int .i64 (cellAt d n (d.cl x))) := (cell_same (S0.out.block bf hbf) _).trans hcx
    have HG : Hid (goD d (n : Int) x = if cellAt d n (d.cl x) < 0 then -1 else cellAt d n (d.cl x)) := Lib.hid (by unfold goD; rw [if_neg hs0, Int.toNat_natCast])
    have hcl := hmay.cl x hx
    have hcl1 : ((d.cl x : Nat) : Int) < ((row0 d).length : Int) := by omega
    have hcl2 : ¬ ((d.cl x : Nat) : Int) < 0 := by omega
    have hm1 := hmay.m1
    have hl1 := hm.l1
    generalize cellAt d n (d.cl x) = v at *
    generalize (row0 d).length = m at *
    generalize d.cl x = cl at *
    clear hd hm hmay hcf hcj hcx hcl
    go_enter Try.func77, Try.ntmps77
    go_wp2_with fail
    go_quiet (fail)
    refine at_worldQ (fun z => Below w.heap.size w z) (below_drewN S0.out _) fun z hz => ?_
    have HZ := Lib.hid hz
    clear hz y1 y2 c257 cx S0
    by_cases hv : v < 0
    · go_wp2_with fail
      go_ret
      exact ⟨by rw [HG.out, if_pos hv]; rfl, HZ.out⟩
    · go_wp2_with fail
      go_ret
      exact ⟨by rw [HG.out, if_neg (by omega)]; rfl, HZ.out⟩
set_option maxHeartbeats 4000000 in
theorem refruleat_any {D : Nat → Prop} {w : World} {d : Df} {ds : Array Value} {p q : Option Addr} {c f : Nat} (s : Int) (hd : DC d ds p q c f) (hm : DM D w d p q c f) (hmay : MayD d) (hs : s < (d.nx.length : Int)) :
    Calls Try.prog 49 #[.agg ds, .int .i64 s] w fun e w' => e = .returned (.int .i64 (rlAt d s)) ∧ Below w.heap.size w w' := by
  have S0 := Lib.hid ((Below.refl w.heap.size w).alloc (Nat.le_refl _) (.cells ds 26))
  have c258 : (w.alloc (.cells ds 26)).cell? ⟨w.heap.size, 258, none⟩ = some (.slice q d.rl.length f) := ((BX.new w ds).cell 258).trans hd.rl
  by_cases hs0 : s < 0
  · have HG : Hid (rlAt d s = -1) := Lib.hid (by unfold rlAt; rw [if_pos hs0])
    clear hd hm hmay
    go_enter Try.func49, Try.ntmps49
    go_wp2_with fail
    go_ret
    exact ⟨by rw [HG.out]; rfl, S0.out⟩
  · obtain ⟨n, rfl⟩ : ∃ n : Nat, s = (n : Int) := ⟨s.toNat, by omega⟩
    have hn : n < d.rl.length := by rw [← hmay.ln]; omega
    obtain ⟨b, o, rfl, hb, hc⟩ := rl_open hm n hn
    have y1 : (w.alloc (.cells ds 26)).cell? ⟨b, o + n, none⟩ = some (.int .i64 (d.rl.getD n (-1))) := (cell_same (S0.out.block b hb) _).trans hc
    have HG : Hid (rlAt d (n : Int) = if d.rl.getD n (-1) < 0 then -1 else d.rl.getD n (-1)) := Lib.hid (by unfold rlAt; rw [if_neg hs0, Int.toNat_natCast])
    have hnI : (n : Int) < (d.rl.length : Int) := by omega
    have hl2 := hm.l2
    generalize d.rl.getD n (-1) = v at *
    clear hd hm hmay hc hn
    go_enter Try.func49, Try.ntmps49
    by_cases hv : v < 0
    · go_wp2_with fail
      go_ret
      exact ⟨by rw [HG.out, if_pos hv]; rfl, S0.out⟩
    · go_wp2_with fail
      go_ret
      exact ⟨by rw [HG.out, if_neg (by omega)]; rfl, S0.out⟩
set_option maxHeartbeats 4000000 in
theorem refgoes_any {D : Nat → Prop} {w : World} {d : Df} {ds : Array Value} {p q : Option Addr} {c f : Nat} (n : Nat) (hd : DC d ds p q c f) (hm : DM D w d p q c f) (hmay : MayD d) (hn : n < d.nx.length) :
    Calls Try.prog 109 #[.agg ds, .int .i64 (n : Nat)] w fun e w' => e = .returned (.bool (onD d (n : Int))) ∧ Below w.heap.size w w' := by
  have S0 := Lib.hid ((Below.refl w.heap.size w).alloc (Nat.le_refl _) (.cells ds 26))
  have HB0 : Hid (BX (w.alloc (.cells ds 26)) w.heap.size ds) := Lib.hid (BX.new w ds)
  have H257 := Lib.hid hd.nx
  obtain ⟨b, o, qf, ff, rfl, hb, hcj, hcf, -, hlr⟩ := nx_open hm hmay n hn
  have HCJ := Lib.hid hcj
  have HCF := Lib.hid hcf
  have HBL := Lib.hid hb
  have HON : Hid (onD d (n : Int) = onRow d.nx[n]) := Lib.hid (by unfold onD; rw [Int.toNat_natCast, List.getElem?_eq_getElem hn])
  have HCA : Hid (∀ x, x < (row0 d).length → (d.nx[n])[x]? = some (cellAt d n x)) := Lib.hid fun x hx => by
    rw [← hlr] at hx
    unfold cellAt
    rw [List.getElem?_eq_getElem hn, List.getElem?_eq_getElem hx]
    show _ = some ((d.nx[n]).getD x (-1))
    rw [List.getD_eq_getElem?_getD, List.getElem?_eq_getElem hx]; rfl
  have HLR := Lib.hid hlr
  have hm1 := hmay.m1
  have hl1 := hm.l1
  have hnI : (n : Int) < (d.nx.length : Int) := by omega
  have hnI0 : ¬ (n : Int) < 0 := by omega
  generalize d.nx[n] = r at *
  generalize (row0 d).length = m at *
  clear hd hm hmay hcf hcj hb hlr
  go_enter Try.func109, Try.ntmps109
  go_wp2_with fail
  go_loopw [5] (fun i wr => ∃ j : Nat, i = .int .i64 (j : Nat) ∧ j ≤ m ∧ Hid ((r.take j).any (fun x => decide (0 ≤ x)) = false) ∧ Hid (BX wr w.heap.size ds) ∧ Hid (Below w.heap.size w wr)) (fun i _ => m - (intOf i).toNat)
  case atStart => exact ⟨0, rfl, by omega, Lib.hid (by simp), HB0, S0⟩
  case round =>
  clear S0 HB0
  obtain ⟨j, rfl, hj, HA, HBX, HS⟩ := hrel
  have c257 : wr.cell? ⟨w.heap.size, 257, none⟩ = some (.slice (some ⟨b, o, none⟩) d.nx.length c) := (HBX.out.cell 257).trans H257.out
  have cj : wr.cell? ⟨b, o + n, none⟩ = some (.slice qf m ff) := (cell_same (HS.out.block b HBL.out) _).trans HCJ.out
  by_cases hlt : j < m
  · obtain ⟨bf, of, rfl, hbf, hcx⟩ := HCF.out j hlt
    have cx : wr.cell? ⟨bf, of + j, none⟩ = some (.int .i64 (cellAt d n j)) := (cell_same (HS.out.block bf hbf) _).trans hcx
    have hg := HCA.out j hlt
    have hta : r.take (j + 1) = r.take j ++ [cellAt d n j] := by rw [List.take_add_one, hg]; rfl
    have HY : Hid (0 ≤ cellAt d n j → onRow r = true) := Lib.hid fun h => List.any_eq_true.2 ⟨_, List.mem_of_getElem? hg, by simpa using h⟩
    have HA2 : Hid (cellAt d n j < 0 → (r.take (j + 1)).any (fun x => decide (0 ≤ x)) = false) := Lib.hid fun h => by
      rw [hta, List.any_append, HA.out]; simp; omega
    generalize cellAt d n j = x at *
    have hltI : (j : Int) < (m : Int) := by omega
    have hjI : ¬ (j : Int) < 0 := by omega
    clear hcx hg hta
    by_cases hx : 0 ≤ x
    · have hx' : ¬ x < 0 := by omega
      have HR := Lib.hid (HY.out hx)
      clear HY HA2 HA
      go_wp2_with fail
      go_ret
      exact ⟨by rw [HON.out, HR.out]; rfl, HS.out⟩
    · have hx' : x < 0 := by omega
      have HR := Lib.hid (HA2.out hx')
      clear HY HA2 HA
      go_wp2_with fail
      go_roundw
      case rel => exact ⟨j + 1, by go_num, by omega, HR, HBX, HS⟩
      case measure => simp [intOf]; omega
  · obtain rfl : j = m := by omega
    have HR : Hid (onRow r = false) := Lib.hid (by have := HA.out; rwa [List.take_of_length_le (by rw [HLR.out]; omega)] at this)
    have hltI : ¬ (j : Int) < (j : Int) := by omega
    clear HA
    go_wp2_with fail
    go_ret
    exact ⟨by rw [HON.out, HR.out]; rfl, HS.out⟩
set_option maxHeartbeats 4000000 in
theorem refwalk_any {D : Nat → Prop} {w : World} {d : Df} {ds : Array Value} {p q : Option Addr} {c f : Nat} (s0 : Int) (t : ByteArray) (hd : DC d ds p q c f) (hm : DM D w d p q c f) (hmay : MayD d) (hs : s0 < (d.nx.length : Int)) (hs9 : -1 ≤ s0) (ht : t.size ≤ 9223372036854775806) :
    Calls Try.prog 108 #[.agg ds, .int .i64 s0, .string t] w fun e w' => e = .returned (.int .i64 (walkD d s0 (bl t))) ∧ Below w.heap.size w w' := by
  have S0 := Lib.hid ((Sb.start w).alloc (.cells ds 26))
  have HSZ := Lib.hid hd.sz
  have HD := Lib.hid hd
  have HM := Lib.hid hm
  have HMAY := Lib.hid hmay
  obtain ⟨R, hR⟩ : ∃ R, walkD d s0 (bl t) = R := ⟨_, rfl⟩
  rw [hR]
  have HR := Lib.hid hR
  clear hd hm hmay hR
  go_enter Try.func108, Try.ntmps108
  go_wp2_with fail
  go_loopw [1, 7] (fun sv i wr => ∃ (j : Nat) (s : Int), i = .int .i64 (j : Nat) ∧ sv = .int .i64 s ∧ j ≤ t.size ∧ s < (d.nx.length : Int) ∧ -1 ≤ s ∧ Hid (walkD d s ((bl t).drop j) = R) ∧ Hid (Sb w wr [(w.heap.size, .cells ds 26)])) (fun _ i _ => t.size - (intOf i).toNat)
  case atStart => exact ⟨0, s0, rfl, rfl, by omega, hs, hs9, HR, S0⟩
  case round =>
  clear S0 HR
  obtain ⟨j, s, rfl, rfl, hj, hsl, hsl9, HW, HS⟩ := hrel
  by_cases hlt : j < t.size
  · have hkl : j < (bl t).length := by rw [bl_len]; exact hlt
    obtain ⟨x, hx⟩ : ∃ x, (bl t)[j] = x := ⟨_, rfl⟩
    have hgx : (bl t)[j]? = some x := by rw [List.getElem?_eq_getElem hkl, hx]
    have hix := index9 t j x hgx
    have hx9 : x < 256 := by
      have := List.mem_of_getElem? hgx
      unfold bl at this
      obtain ⟨c, _, rfl⟩ := List.mem_map.1 this
      exact c.toNat_lt
    have HW2 : Hid (walkD d (goD d s x) ((bl t).drop (j + 1)) = R) := Lib.hid (by
      have := HW.out
      rw [List.drop_eq_getElem_cons hkl, hx, walkD] at this
      exact this)
    have HLT := Lib.hid (goD_lt HMAY.out s x)
    have HCC : Hid (∀ z, Below w.heap.size w z → Calls Try.prog 77 #[.agg ds, .int .i64 s, .int .u8 (x : Nat)] z fun e w' => e = .returned (.int .i64 (goD d s x)) ∧ Below z.heap.size z w') := Lib.hid fun z hz => refgo_any s x HD.out (HM.out.up hz) HMAY.out hx9 hsl
    have hjI : (j : Int) < (t.size : Int) := by omega
    have hjI0 : ¬ (j : Int) < 0 := by omega
    clear hx hgx hkl HW
    generalize goD d s x = y at *
    go_wp2_with fail
    have hs1 := HS.out.drew
    have HS1 := Lib.hid hs1
    refine wp_region_held_drew (S := fun v => Sb w v [(w.heap.size, .cells ds 26)]) (by kernel_rfl) hs1 (fun hHeld => ?_)
    clear hs1
    refine wpAnyH_take (i := 0) (v := .agg ds) rfl (by kernel_rfl) (by kernel_rfl) (by kernel_rfl) (fun _ _ _ h => h) (yieldsIf_load_D (by rfl) (.tmp 3) rfl w.heap.size rfl (fun v hv => hv.heap) HSZ.out) hHeld ?_
    (try simp only [Act.put, List.getElem_toArray, List.getElem_cons_zero, List.getElem_cons_succ, List.setIfInBounds_toArray, List.set_cons_zero, List.set_cons_succ])
    refine wpAnyH_take (i := 1) (v := .int .i64 s) rfl (by kernel_rfl) (by kernel_rfl) (by kernel_rfl) (fun _ _ _ h => h) (Or.inl ⟨by rfl, by (intro w hSw; (try dsimp only at hSw); go_simp)⟩) hHeld ?_
    (try simp only [Act.put, List.getElem_toArray, List.getElem_cons_zero, List.getElem_cons_succ, List.setIfInBounds_toArray, List.set_cons_zero, List.set_cons_succ])
    refine wpAnyH_take (i := 2) (v := .string t) rfl (by kernel_rfl) (by kernel_rfl) (by kernel_rfl) (fun _ _ _ h => h) (Or.inl ⟨by rfl, by (intro w hSw; (try dsimp only at hSw); go_simp)⟩) hHeld ?_
    (try simp only [Act.put, List.getElem_toArray, List.getElem_cons_zero, List.getElem_cons_succ, List.setIfInBounds_toArray, List.set_cons_zero, List.set_cons_succ])
    refine wpAnyH_take (i := 3) (v := .int .i64 (j : Nat)) rfl (by kernel_rfl) (by kernel_rfl) (by kernel_rfl) (fun _ _ _ h => h) (Or.inl ⟨by rfl, by (intro w hSw; (try dsimp only at hSw); go_simp)⟩) hHeld ?_
    (try simp only [Act.put, List.getElem_toArray, List.getElem_cons_zero, List.getElem_cons_succ, List.setIfInBounds_toArray, List.set_cons_zero, List.set_cons_succ])
    refine wpAnyH_take (i := 4) (v := .int .u8 (x : Nat)) rfl (by kernel_rfl) (by kernel_rfl) (by kernel_rfl) (fun _ _ _ h => h) (Or.inl ⟨by rfl, by (intro w hSw; (try dsimp only at hSw); go_simp)⟩) hHeld ?_
    (try simp only [Act.put, List.getElem_toArray, List.getElem_cons_zero, List.getElem_cons_succ, List.setIfInBounds_toArray, List.set_cons_zero, List.set_cons_succ])
    refine wpAnyH_ready (rs := [5]) (by kernel_rfl) (by simp) ?_
    refine AllReadyH.cons rfl (fun K hK => ?_) (AllReadyH.nil)
    rw [if_pos (by rfl)]
    go_wp2_with fail
    refine (HCC.out _ HS1.out.1).mono ?_
    rintro _ w2 ⟨rfl, hb⟩
    refine hK.out _ _ (HS1.out.up hb) (fun hHeld2 => ?_)
    clear hHeld hK
    have hHeld := hHeld2
    clear hHeld2
    (try simp only [Act.put, List.getElem_toArray, List.getElem_cons_zero, List.getElem_cons_succ, List.setIfInBounds_toArray, List.set_cons_zero, List.set_cons_succ])
    refine wpAnyH_take (i := 6) (v := .int .i64 y) rfl (by kernel_rfl) (by kernel_rfl) (by kernel_rfl) (fun _ _ _ h => h) (Or.inl ⟨by rfl, by (intro w hSw; (try dsimp only at hSw); go_simp)⟩) hHeld ?_
    (try simp only [Act.put, List.getElem_toArray, List.getElem_cons_zero, List.getElem_cons_succ, List.setIfInBounds_toArray, List.set_cons_zero, List.set_cons_succ])
    refine wpAnyH_done (by kernel_rfl) ?_ _
    have HS2 := Lib.hid (HS1.out.up hb)
    clear hb HCC HS1 HS
    go_wp2_with fail
    go_roundw
    case rel => exact ⟨j + 1, y, by go_num, rfl, by omega, HLT.out.1, HLT.out.2, HW2, HS2⟩
    case measure => simp [intOf]; omega
  · have hjI : ¬ (j : Int) < (t.size : Int) := by omega
    have HF : Hid (s = R) := Lib.hid (by have := HW.out; rwa [List.drop_eq_nil_of_le (by rw [bl_len]; omega)] at this)
    clear HW
    go_wp2_with fail
    go_ret
    exact ⟨by rw [HF.out]; rfl, HS.out.1⟩
end Go.Proofs.Ytbdbnjbafampaaa
