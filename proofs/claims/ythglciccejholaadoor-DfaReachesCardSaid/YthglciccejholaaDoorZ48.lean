/- Texts of package regs, one behind the other. -/
import Derived.Test.YthglciccejholaaDoorProg
import Derived.Test.YthglciccejholaaDoorDr
import Derived.WalkKit
import Derived.BigFrame
import Derived.WalkMore
import Derived.ScopeJumps
import Derived.StillTailTactics
import Derived.Stop.BytesEq
import Derived.WalkLawsBesides
import Derived.WalkSpells
import Derived.Outline
import Derived.Lib.Walk
import Derived.Lib.Hide
import Derived.Lib.Slices
import Derived.Lib.Strings
import Derived.RegionTactic
import Derived.LoopTactic
import Derived.Below
import Derived.IntWalk
import Derived.Deep.QuietTactic
import Derived.BigQuiet
import Derived.Deep.MidRow
import Derived.Maps.AppendAt
import Derived.Laws.Rows
import Derived.Laws.Tables
import Derived.Deep.WholeRow
import Derived.Deep.Cut
import Derived.Deep.CutRange
import Derived.Lib.SliceRun
import Derived.Laws.MakeOwn
import Derived.Deep.RegionLaw
import Derived.Deep.RegionLawGrows
import Derived.Deep.RegionHeld3
import Derived.RegionCalls
import Derived.Deep.RegionWith
import Derived.Deep.Light
import Derived.Laws.CopyOwn
import Derived.Laws.ResultCell
section
/- Packages dfa, mini, munch. -/
namespace Go.Proofs.YthglciccejholaaDoor
set_option linter.unusedSimpArgs false
set_option linter.unusedVariables false
set_option maxRecDepth 100000
open Go.RowKit
theorem index9 (s : ByteArray) (k x : Nat) (h : (bl s)[k]? = some x) (w : World) : (Instr.index 9 (.string s) (.int .i64 (k : Nat))).run Tryd.prog w = .ok (.int .u8 (x : Nat)) w := by
  unfold bl at h
  rw [List.getElem?_map, Array.getElem?_toList] at h
  obtain ⟨c, hc, hx⟩ := Option.map_eq_some_iff.1 h
  obtain ⟨h1, h2⟩ := Array.getElem?_eq_some_iff.1 hc
  have hs : k < s.size := h1
  subst hx
  simp [Instr.index, go_sem, hs]
  rw [← h2]
  rfl
/- The document's Go, Walk, RuleAt, GoesOn. -/
theorem nx_open {D : Nat → Prop} {w : World} {d : Df} {p q : Option Addr} {c f : Nat} (hm : DM D w d p q c f) (hmay : MayD d) (n : Nat) (hn : n < d.nx.length) :
    ∃ b o qf ff, p = some ⟨b, o, none⟩ ∧ b < w.heap.size ∧ w.cell? ⟨b, o + n, none⟩ = some (.slice qf (row0 d).length ff) ∧ (∀ x, x < (row0 d).length → ∃ bf of, qf = some ⟨bf, of, none⟩ ∧ bf < w.heap.size ∧ w.cell? ⟨bf, of + x, none⟩ = some (.int .i64 (cellAt d n x))) ∧ IV D w d.nx[n] (.slice qf (row0 d).length ff) ∧ (d.nx[n]).length = (row0 d).length := by
  obtain ⟨p', c', he, hh⟩ := hm.nx
  injection he with e1 e2 e3
  subst e1 e3
  obtain ⟨b, o, rfl, hb, hc⟩ := hh (by intro e; rw [e] at hn; simp at hn)
  obtain ⟨qf, ff, hiv, hcj⟩ := hc n hn
  have hrw := (hmay.rw d.nx[n] (List.getElem_mem hn)).1
  rw [hrw] at hcj hiv
  refine ⟨b, o, qf, ff, rfl, hm.lt b hb, hcj, fun x hx => ?_, hiv, hrw⟩
  have hiv2 := hiv
  rw [← hrw] at hiv2
  obtain ⟨p', c', he, hh2⟩ := hiv2
  injection he with e1 e5 e4
  subst e1 e4
  have hx2 : x < (d.nx[n]).length := by rw [hrw]; exact hx
  obtain ⟨bf, of, rfl, hbf, hcf⟩ := hh2 (by intro e; rw [e] at hx2; simp at hx2)
  refine ⟨bf, of, rfl, hm.lt bf hbf, ?_⟩
  rw [hcf x hx2]
  unfold cellAt
  rw [List.getElem?_eq_getElem hn]
  show _ = some (Value.int .i64 ((d.nx[n]).getD x (-1)))
  rw [List.getD_eq_getElem?_getD, List.getElem?_eq_getElem hx2]; rfl
theorem rl_open {D : Nat → Prop} {w : World} {d : Df} {p q : Option Addr} {c f : Nat} (hm : DM D w d p q c f) (n : Nat) (hn : n < d.rl.length) :
    ∃ b o, q = some ⟨b, o, none⟩ ∧ b < w.heap.size ∧ w.cell? ⟨b, o + n, none⟩ = some (.int .i64 (d.rl.getD n (-1))) := by
  obtain ⟨p', c', he, hh⟩ := hm.rl
  injection he with e1 e2 e3
  subst e1 e3
  obtain ⟨b, o, rfl, hb, hc⟩ := hh (by intro e; rw [e] at hn; simp at hn)
  refine ⟨b, o, rfl, hm.lt b hb, ?_⟩
  rw [hc n hn, List.getD_eq_getElem?_getD, List.getElem?_eq_getElem hn]; rfl
set_option maxHeartbeats 4000000 in
theorem refgo_any {D : Nat → Prop} {w : World} {d : Df} {ds : Array Value} {p q : Option Addr} {c f : Nat} (s : Int) (x : Nat) (hd : DC d ds p q c f) (hm : DM D w d p q c f) (hmay : MayD d) (hx : x < 256) (hs : s < (d.nx.length : Int)) :
    Calls Tryd.prog 105 #[.agg ds, .int .i64 s, .int .u8 (x : Nat)] w fun e w' => e = .returned (.int .i64 (goD d s x)) ∧ Below w.heap.size w w' := by
  have S0 := Lib.hid ((Below.refl w.heap.size w).alloc (Nat.le_refl _) (.cells ds 48))
  have c257 : (w.alloc (.cells ds 48)).cell? ⟨w.heap.size, 257, none⟩ = some (.slice p d.nx.length c) := ((BX.new w ds).cell 257).trans hd.nx
  have cx : (w.alloc (.cells ds 48)).cell? ⟨w.heap.size, 1 + x, none⟩ = some (.int .u8 (d.cl x : Nat)) := ((BX.new w ds).cell (1 + x)).trans (hd.cl x hx).1
  have hc9 := (hd.cl x hx).2
  by_cases hs0 : s < 0
  · have HG : Hid (goD d s x = -1) := Lib.hid (by unfold goD; rw [if_pos hs0])
    clear hd hm hmay
    go_enter Tryd.func105, Tryd.ntmps105
    go_wp2_with fail
    go_ret
    exact ⟨by rw [HG.out]; rfl, S0.out⟩
  · obtain ⟨n, rfl⟩ : ∃ n : Nat, s = (n : Int) := ⟨s.toNat, by omega⟩
    have hn : n < d.nx.length := by omega
    obtain ⟨b, o, qf, ff, rfl, hb, hcj, hcf, -, -⟩ := nx_open hm hmay n hn
    obtain ⟨bf, of, rfl, hbf, hcx⟩ := hcf (d.cl x) (hmay.cl x hx)
    have y1 : (w.alloc (.cells ds 48)).cell? ⟨b, o + n, none⟩ = some (.slice (some ⟨bf, of, none⟩) (row0 d).length ff) := (cell_same (S0.out.block b hb) _).trans hcj
    have y2 : (w.alloc (.cells ds 48)).cell? ⟨bf, of + d.cl x, none⟩ = some (.int .i64 (cellAt d n (d.cl x))) := (cell_same (S0.out.block bf hbf) _).trans hcx
    have HG : Hid (goD d (n : Int) x = if cellAt d n (d.cl x) < 0 then -1 else cellAt d n (d.cl x)) := Lib.hid (by unfold goD; rw [if_neg hs0, Int.toNat_natCast])
    have hcl := hmay.cl x hx
    have hcl1 : ((d.cl x : Nat) : Int) < ((row0 d).length : Int) := by omega
    have hcl2 : ¬ ((d.cl x : Nat) : Int) < 0 := by omega
    have hm1 := hmay.m1
    have hl1 := hm.l1
    generalize cellAt d n (d.cl x) = v at *
    generalize (row0 d).length = m at *
    generalize d.cl x = cl at *
    clear hd hm hmay hcf hcj hcx hcl
    go_enter Tryd.func105, Tryd.ntmps105
    go_wp2_with fail
    go_quiet (fail)
    refine d7_at_worldQ (fun z => Below w.heap.size w z) (d7_below_drewN S0.out _) fun z hz => ?_
    have HZ := Lib.hid hz
    clear hz y1 y2 c257 cx S0
    by_cases hv : v < 0
    · go_wp2_with fail
      go_ret
      exact ⟨by rw [HG.out, if_pos hv]; rfl, HZ.out⟩
    · go_wp2_with fail
      go_ret
      exact ⟨by rw [HG.out, if_neg (by omega)]; rfl, HZ.out⟩
set_option maxHeartbeats 4000000 in
theorem refruleat_any {D : Nat → Prop} {w : World} {d : Df} {ds : Array Value} {p q : Option Addr} {c f : Nat} (s : Int) (hd : DC d ds p q c f) (hm : DM D w d p q c f) (hmay : MayD d) (hs : s < (d.nx.length : Int)) :
    Calls Tryd.prog 71 #[.agg ds, .int .i64 s] w fun e w' => e = .returned (.int .i64 (rlAt d s)) ∧ Below w.heap.size w w' := by
  have S0 := Lib.hid ((Below.refl w.heap.size w).alloc (Nat.le_refl _) (.cells ds 48))
  have c258 : (w.alloc (.cells ds 48)).cell? ⟨w.heap.size, 258, none⟩ = some (.slice q d.rl.length f) := ((BX.new w ds).cell 258).trans hd.rl
  by_cases hs0 : s < 0
  · have HG : Hid (rlAt d s = -1) := Lib.hid (by unfold rlAt; rw [if_pos hs0])
    clear hd hm hmay
    go_enter Tryd.func71, Tryd.ntmps71
    go_wp2_with fail
    go_ret
    exact ⟨by rw [HG.out]; rfl, S0.out⟩
  · obtain ⟨n, rfl⟩ : ∃ n : Nat, s = (n : Int) := ⟨s.toNat, by omega⟩
    have hn : n < d.rl.length := by rw [← hmay.ln]; omega
    obtain ⟨b, o, rfl, hb, hc⟩ := rl_open hm n hn
    have y1 : (w.alloc (.cells ds 48)).cell? ⟨b, o + n, none⟩ = some (.int .i64 (d.rl.getD n (-1))) := (cell_same (S0.out.block b hb) _).trans hc
    have HG : Hid (rlAt d (n : Int) = if d.rl.getD n (-1) < 0 then -1 else d.rl.getD n (-1)) := Lib.hid (by unfold rlAt; rw [if_neg hs0, Int.toNat_natCast])
    have hnI : (n : Int) < (d.rl.length : Int) := by omega
    have hl2 := hm.l2
    generalize d.rl.getD n (-1) = v at *
    clear hd hm hmay hc hn
    go_enter Tryd.func71, Tryd.ntmps71
    by_cases hv : v < 0
    · go_wp2_with fail
      go_ret
      exact ⟨by rw [HG.out, if_pos hv]; rfl, S0.out⟩
    · go_wp2_with fail
      go_ret
      exact ⟨by rw [HG.out, if_neg (by omega)]; rfl, S0.out⟩
set_option maxHeartbeats 4000000 in
theorem refwalk_any {D : Nat → Prop} {w : World} {d : Df} {ds : Array Value} {p q : Option Addr} {c f : Nat} (s0 : Int) (t : ByteArray) (hd : DC d ds p q c f) (hm : DM D w d p q c f) (hmay : MayD d) (hs : s0 < (d.nx.length : Int)) (hs9 : -1 ≤ s0) (ht : t.size ≤ 9223372036854775806) :
    Calls Tryd.prog 70 #[.agg ds, .int .i64 s0, .string t] w fun e w' => e = .returned (.int .i64 (walkD d s0 (bl t))) ∧ Below w.heap.size w w' := by
  have S0 := Lib.hid ((Sb.start w).alloc (.cells ds 48))
  have HSZ := Lib.hid hd.sz
  have HD := Lib.hid hd
  have HM := Lib.hid hm
  have HMAY := Lib.hid hmay
  obtain ⟨R, hR⟩ : ∃ R, walkD d s0 (bl t) = R := ⟨_, rfl⟩
  rw [hR]
  have HR := Lib.hid hR
  clear hd hm hmay hR
  go_enter Tryd.func70, Tryd.ntmps70
  go_wp2_with fail
  go_loopw [1, 7] (fun sv i wr => ∃ (j : Nat) (s : Int), i = .int .i64 (j : Nat) ∧ sv = .int .i64 s ∧ j ≤ t.size ∧ s < (d.nx.length : Int) ∧ -1 ≤ s ∧ Hid (walkD d s ((bl t).drop j) = R) ∧ Hid (Sb w wr [(w.heap.size, .cells ds 48)])) (fun _ i _ => t.size - (intOf i).toNat)
  case atStart => exact ⟨0, s0, rfl, rfl, by omega, hs, hs9, HR, S0⟩
  case round =>
  clear S0 HR
  obtain ⟨j, s, rfl, rfl, hj, hsl, hsl9, HW, HS⟩ := hrel
  by_cases hlt : j < t.size
  · have hkl : j < (bl t).length := by rw [bl_len]; exact hlt
    obtain ⟨x, hx⟩ : ∃ x, (bl t)[j] = x := ⟨_, rfl⟩
    have hgx : (bl t)[j]? = some x := by rw [List.getElem?_eq_getElem hkl, hx]
    have hix := index9 t j x hgx
    have hx9 : x < 256 := by
      have := List.mem_of_getElem? hgx
      unfold bl at this
      obtain ⟨c, _, rfl⟩ := List.mem_map.1 this
      exact c.toNat_lt
    have HW2 : Hid (walkD d (goD d s x) ((bl t).drop (j + 1)) = R) := Lib.hid (by
      have := HW.out
      rw [List.drop_eq_getElem_cons hkl, hx, walkD] at this
      exact this)
    have HLT := Lib.hid (goD_lt HMAY.out s x)
    have HCC : Hid (∀ z, Below w.heap.size w z → Calls Tryd.prog 105 #[.agg ds, .int .i64 s, .int .u8 (x : Nat)] z fun e w' => e = .returned (.int .i64 (goD d s x)) ∧ Below z.heap.size z w') := Lib.hid fun z hz => refgo_any s x HD.out (HM.out.up hz) HMAY.out hx9 hsl
    have hjI : (j : Int) < (t.size : Int) := by omega
    have hjI0 : ¬ (j : Int) < 0 := by omega
    clear hx hgx hkl HW
    generalize goD d s x = y at *
    go_wp2_with fail
    have hs1 := HS.out.drew
    have HS1 := Lib.hid hs1
    refine wp_region_held_drew (S := fun v => Sb w v [(w.heap.size, .cells ds 48)]) (by kernel_rfl) hs1 (fun hHeld => ?_)
    clear hs1
    refine wpAnyH_take (i := 0) (v := .agg ds) rfl (by kernel_rfl) (by kernel_rfl) (by kernel_rfl) (fun _ _ _ h => h) (yieldsIf_load_D (by rfl) (.tmp 3) rfl w.heap.size rfl (fun v hv => hv.heap) HSZ.out) hHeld ?_
    (try simp only [Act.put, List.getElem_toArray, List.getElem_cons_zero, List.getElem_cons_succ, List.setIfInBounds_toArray, List.set_cons_zero, List.set_cons_succ])
    refine wpAnyH_take (i := 1) (v := .int .i64 s) rfl (by kernel_rfl) (by kernel_rfl) (by kernel_rfl) (fun _ _ _ h => h) (Or.inl ⟨by rfl, by (intro w hSw; (try dsimp only at hSw); go_simp)⟩) hHeld ?_
    (try simp only [Act.put, List.getElem_toArray, List.getElem_cons_zero, List.getElem_cons_succ, List.setIfInBounds_toArray, List.set_cons_zero, List.set_cons_succ])
    refine wpAnyH_take (i := 2) (v := .string t) rfl (by kernel_rfl) (by kernel_rfl) (by kernel_rfl) (fun _ _ _ h => h) (Or.inl ⟨by rfl, by (intro w hSw; (try dsimp only at hSw); go_simp)⟩) hHeld ?_
    (try simp only [Act.put, List.getElem_toArray, List.getElem_cons_zero, List.getElem_cons_succ, List.setIfInBounds_toArray, List.set_cons_zero, List.set_cons_succ])
    refine wpAnyH_take (i := 3) (v := .int .i64 (j : Nat)) rfl (by kernel_rfl) (by kernel_rfl) (by kernel_rfl) (fun _ _ _ h => h) (Or.inl ⟨by rfl, by (intro w hSw; (try dsimp only at hSw); go_simp)⟩) hHeld ?_
    (try simp only [Act.put, List.getElem_toArray, List.getElem_cons_zero, List.getElem_cons_succ, List.setIfInBounds_toArray, List.set_cons_zero, List.set_cons_succ])
    refine wpAnyH_take (i := 4) (v := .int .u8 (x : Nat)) rfl (by kernel_rfl) (by kernel_rfl) (by kernel_rfl) (fun _ _ _ h => h) (Or.inl ⟨by rfl, by (intro w hSw; (try dsimp only at hSw); go_simp)⟩) hHeld ?_
    (try simp only [Act.put, List.getElem_toArray, List.getElem_cons_zero, List.getElem_cons_succ, List.setIfInBounds_toArray, List.set_cons_zero, List.set_cons_succ])
    refine wpAnyH_ready (rs := [5]) (by kernel_rfl) (by simp) ?_
    refine AllReadyH.cons rfl (fun K hK => ?_) (AllReadyH.nil)
    rw [if_pos (by rfl)]
    go_wp2_with fail
    refine (HCC.out _ HS1.out.1).mono ?_
    rintro _ w2 ⟨rfl, hb⟩
    refine hK.out _ _ (HS1.out.up hb) (fun hHeld2 => ?_)
    clear hHeld hK
    have hHeld := hHeld2
    clear hHeld2
    (try simp only [Act.put, List.getElem_toArray, List.getElem_cons_zero, List.getElem_cons_succ, List.setIfInBounds_toArray, List.set_cons_zero, List.set_cons_succ])
    refine wpAnyH_take (i := 6) (v := .int .i64 y) rfl (by kernel_rfl) (by kernel_rfl) (by kernel_rfl) (fun _ _ _ h => h) (Or.inl ⟨by rfl, by (intro w hSw; (try dsimp only at hSw); go_simp)⟩) hHeld ?_
    (try simp only [Act.put, List.getElem_toArray, List.getElem_cons_zero, List.getElem_cons_succ, List.setIfInBounds_toArray, List.set_cons_zero, List.set_cons_succ])
    refine wpAnyH_done (by kernel_rfl) ?_ _
    have HS2 := Lib.hid (HS1.out.up hb)
    clear hb HCC HS1 HS
    go_wp2_with fail
    go_roundw
    case rel => exact ⟨j + 1, y, by go_num, rfl, by omega, HLT.out.1, HLT.out.2, HW2, HS2⟩
    case measure => simp [intOf]; omega
  · have hjI : ¬ (j : Int) < (t.size : Int) := by omega
    have HF : Hid (s = R) := Lib.hid (by have := HW.out; rwa [List.drop_eq_nil_of_le (by rw [bl_len]; omega)] at this)
    clear HW
    go_wp2_with fail
    go_ret
    exact ⟨by rw [HF.out]; rfl, HS.out.1⟩
end Go.Proofs.YthglciccejholaaDoor
end
section
/- Packages dfa, mini, munch. -/
namespace Go.Proofs.YthglciccejholaaDoor
set_option linter.unusedSimpArgs false
set_option linter.unusedVariables false
set_option maxRecDepth 100000
open Go.RowKit
/- dfa.run, Run, Rule. -/
set_option maxHeartbeats 4000000 in
theorem run_any {D : Nat → Prop} {w : World} {d : Df} {ds : Array Value} {p q : Option Addr} {c f : Nat} (s0 : Int) (t : ByteArray) (hd : DC d ds p q c f) (hm : DM D w d p q c f) (hmay : MayD d) (hs : s0 < (d.nx.length : Int)) (hs9 : 0 ≤ s0) (ht : t.size ≤ 9223372036854775806) :
    Calls Tryd.prog 69 #[.agg ds, .int .i64 s0, .string t] w fun e w' => e = .returned (.int .i64 (walkD d s0 (bl t))) ∧ Below w.heap.size w w' := by
  have S0 := Lib.hid ((Sb.start w).alloc (.cells ds 48))
  have HSZ := Lib.hid hd.sz
  have HD := Lib.hid hd
  have HM := Lib.hid hm
  have HMAY := Lib.hid hmay
  obtain ⟨R, hR⟩ : ∃ R, walkD d s0 (bl t) = R := ⟨_, rfl⟩
  rw [hR]
  have HR := Lib.hid hR
  clear hd hm hmay hR
  go_enter Tryd.func69, Tryd.ntmps69
  go_wp2_with fail
  go_loopw [1, 10] (fun sv i wr => ∃ (j : Nat) (s : Int), i = .int .i64 (j : Nat) ∧ sv = .int .i64 s ∧ j ≤ t.size ∧ s < (d.nx.length : Int) ∧ 0 ≤ s ∧ Hid (walkD d s ((bl t).drop j) = R) ∧ Hid (Sb w wr [(w.heap.size, .cells ds 48)])) (fun _ i _ => t.size - (intOf i).toNat)
  case atStart => exact ⟨0, s0, rfl, rfl, by omega, hs, hs9, HR, S0⟩
  case round =>
  clear S0 HR
  obtain ⟨j, s, rfl, rfl, hj, hsl, hsl9, HW, HS⟩ := hrel
  by_cases hlt : j < t.size
  · have hkl : j < (bl t).length := by rw [bl_len]; exact hlt
    obtain ⟨x, hx⟩ : ∃ x, (bl t)[j] = x := ⟨_, rfl⟩
    have hgx : (bl t)[j]? = some x := by rw [List.getElem?_eq_getElem hkl, hx]
    have hix := index9 t j x hgx
    have hx9 : x < 256 := by
      have := List.mem_of_getElem? hgx
      unfold bl at this
      obtain ⟨c, _, rfl⟩ := List.mem_map.1 this
      exact c.toNat_lt
    have hW2 : walkD d (goD d s x) ((bl t).drop (j + 1)) = R := by
      have := HW.out
      rw [List.drop_eq_getElem_cons hkl, hx, walkD] at this
      exact this
    obtain ⟨n, rfl⟩ : ∃ n : Nat, s = (n : Int) := ⟨s.toNat, by omega⟩
    have hlt9 := (goD_lt HMAY.out (n : Int) x).1
    have hn : n < d.nx.length := by omega
    obtain ⟨b, o, qf, ff, rfl, hb, hcj, hcf, -, -⟩ := nx_open HM.out HMAY.out n hn
    obtain ⟨bf, of, rfl, hbf, hcx⟩ := hcf (d.cl x) (HMAY.out.cl x hx9)
    have c257 : wr.cell? ⟨w.heap.size, 257, none⟩ = some (.slice (some ⟨b, o, none⟩) d.nx.length c) := (HS.out.cell 257).trans HD.out.nx
    have cx : wr.cell? ⟨w.heap.size, 1 + x, none⟩ = some (.int .u8 (d.cl x : Nat)) := (HS.out.cell (1 + x)).trans (HD.out.cl x hx9).1
    have hc9 := (HD.out.cl x hx9).2
    have y1 : wr.cell? ⟨b, o + n, none⟩ = some (.slice (some ⟨bf, of, none⟩) (row0 d).length ff) := (cell_same (HS.out.1.block b hb) _).trans hcj
    have y2 : wr.cell? ⟨bf, of + d.cl x, none⟩ = some (.int .i64 (cellAt d n (d.cl x))) := (cell_same (HS.out.1.block bf hbf) _).trans hcx
    have hG : goD d (n : Int) x = if cellAt d n (d.cl x) < 0 then -1 else cellAt d n (d.cl x) := by unfold goD; rw [if_neg (by omega), Int.toNat_natCast]
    have hcl := HMAY.out.cl x hx9
    have hcl1 : ((d.cl x : Nat) : Int) < ((row0 d).length : Int) := by omega
    have hcl2 : ¬ ((d.cl x : Nat) : Int) < 0 := by omega
    have hm1 := HMAY.out.m1
    have hl1 := HM.out.l1
    have hjI : (j : Int) < (t.size : Int) := by omega
    have hjI0 : ¬ (j : Int) < 0 := by omega
    have hnI : ¬ (n : Int) < 0 := by omega
    generalize cellAt d n (d.cl x) = v at *
    generalize (row0 d).length = m at *
    generalize d.cl x = cl at *
    have HG := Lib.hid hG
    have HW2 := Lib.hid hW2
    have HLT := Lib.hid hlt9
    clear hx hgx hkl HW hcf hcj hcx hcl hG hW2 hlt9
    go_wp2_with fail
    go_quiet (fail)
    refine d7_at_worldQ (fun z => Sb w z [(w.heap.size, .cells ds 48)]) (HS.out.drewN _) fun z hz => ?_
    have HZ := Lib.hid hz
    clear hz y1 y2 c257 cx HS
    by_cases hv : v < 0
    · have HF : Hid (R = -1) := Lib.hid (by rw [← HW2.out, HG.out, if_pos hv]; exact walkD_neg d _)
      go_wp2_with fail
      go_ret
      exact ⟨by rw [HF.out]; rfl, HZ.out.1⟩
    · have HW3 : Hid (walkD d v ((bl t).drop (j + 1)) = R) := Lib.hid (by rw [← HW2.out, HG.out, if_neg hv])
      have hv9 : v < (d.nx.length : Int) := by have := HLT.out; rw [HG.out, if_neg hv] at this; exact this
      have hv8 : 0 ≤ v := by omega
      clear HW2 HG HLT
      go_wp2_with fail
      go_roundw
      case rel => exact ⟨j + 1, v, by go_num, rfl, by omega, hv9, hv8, HW3, HZ⟩
      case measure => simp [intOf]; omega
  · have hjI : ¬ (j : Int) < (t.size : Int) := by omega
    have HF : Hid (s = R) := Lib.hid (by have := HW.out; rwa [List.drop_eq_nil_of_le (by rw [bl_len]; omega)] at this)
    clear HW
    go_wp2_with fail
    go_ret
    exact ⟨by rw [HF.out]; rfl, HS.out.1⟩
end Go.Proofs.YthglciccejholaaDoor
end
section
/- Packages dfa, mini, munch. -/
namespace Go.Proofs.YthglciccejholaaDoor
set_option linter.unusedSimpArgs false
set_option linter.unusedVariables false
set_option maxRecDepth 100000
open Go.RowKit
/- Run and Rule. -/
def runF (d : Df) (s0 : Int) (t : List Nat) : Int × Int := if chkD d ≠ 0 then (0, chkD d) else if 0 ≤ s0 ∧ s0 < (d.nx.length : Int) then (walkD d s0 t, 0) else (0, 2)
def ruleF (d : Df) (t : List Nat) : Int × Int := if chkD d ≠ 0 then (0, chkD d) else (rlAt d (walkD d d.st t), 0)
def tup (r : Int × Int) : Value := .tuple #[.int .i64 r.1, .int .i64 r.2]
theorem BX.sb {w z : World} {ds : Array Value} {b : Nat} (h : Sb w z [(b, .cells ds 48)]) : BX z b ds := h.heap
set_option maxHeartbeats 8000000 in
theorem runR_any {D : Nat → Prop} {w : World} {d : Df} {ds : Array Value} {p q : Option Addr} {c f : Nat} (s0 : Int) (t : ByteArray) (hd : DC d ds p q c f) (hm : DM D w d p q c f) (ht : t.size ≤ 9223372036854775806) :
    Calls Tryd.prog 31 #[.agg ds, .int .i64 s0, .string t] w fun e w' => e = .returned (tup (runF d s0 (bl t))) ∧ Below w.heap.size w w' := by
  have S0 := Lib.hid ((Sb.start w).alloc (.cells ds 48))
  have HSZ := Lib.hid hd.sz
  have HD := Lib.hid hd
  have HM := Lib.hid hm
  clear hd hm
  go_enter Tryd.func31, Tryd.ntmps31
  go_upto_region 1 with fail
  refine d7_at_world (fun z => Sb w z [(w.heap.size, .cells ds 48)]) S0.out fun z hz => ?_
  clear S0
  have HZ := Lib.hid hz
  clear hz
  go_wp2_with (first | (refine wpList_load_D rfl (.tmp 3) rfl w.heap.size ds rfl (BX.sb HZ.out) HSZ.out ?_))
  refine (d7_check_any HD.out (HM.out.up HZ.out.1)).mono ?_
  rintro _ w1 ⟨rfl, hb1⟩
  have H1 := Lib.hid (HZ.out.up hb1)
  clear hb1 HZ
  by_cases hck : chkD d = 0
  · have HMAY := Lib.hid (chk_may hck)
    have HCK := Lib.hid hck
    rw [hck]
    clear hck
    go_wp2_with (first | (refine wpList_load_D rfl (.tmp 3) rfl w.heap.size ds rfl (BX.sb H1.out) HSZ.out ?_))
    refine (d7_isState_any (D := D) HD.out s0).mono ?_
    rintro _ w2 ⟨rfl, hb2⟩
    have H2 := Lib.hid (H1.out.up hb2)
    clear hb2 H1
    by_cases hin : 0 ≤ s0 ∧ s0 < (d.nx.length : Int)
    · have e : (decide (0 ≤ s0) && decide (s0 < (d.nx.length : Int))) = true := by simp [hin.1, hin.2]
      rw [e]
      have HIN := Lib.hid hin
      clear e hin
      go_wp2_with (first | (refine wpList_load_D rfl (.tmp 3) rfl w.heap.size ds rfl (BX.sb H2.out) HSZ.out ?_))
      refine (run_any s0 t HD.out (HM.out.up H2.out.1) HMAY.out HIN.out.2 HIN.out.1 ht).mono ?_
      rintro _ w3 ⟨rfl, hb3⟩
      have H3 := Lib.hid (H2.out.up hb3)
      clear hb3 H2
      have HF : Hid (runF d s0 (bl t) = (walkD d s0 (bl t), 0)) := Lib.hid (by unfold runF; rw [if_neg (by simp [HCK.out]), if_pos HIN.out])
      generalize walkD d s0 (bl t) = v at *
      go_wp2_with fail
      go_ret2
      exact ⟨by rw [HF.out]; rfl, H3.out.1⟩
    · have e : (decide (0 ≤ s0) && decide (s0 < (d.nx.length : Int))) = false := by
        rw [Bool.eq_false_iff]; intro h; simp only [Bool.and_eq_true, decide_eq_true_eq] at h; exact hin h
      rw [e]
      have HF : Hid (runF d s0 (bl t) = (0, 2)) := Lib.hid (by unfold runF; rw [if_neg (by simp [HCK.out]), if_neg hin])
      clear e hin
      go_wp2_with fail
      go_ret2
      exact ⟨by rw [HF.out]; rfl, H2.out.1⟩
  · have HF : Hid (runF d s0 (bl t) = (0, chkD d)) := Lib.hid (by unfold runF; rw [if_pos hck])
    generalize chkD d = v at *
    go_wp2_with fail
    go_ret2
    exact ⟨by rw [HF.out]; rfl, H1.out.1⟩
end Go.Proofs.YthglciccejholaaDoor
end
section
/- Packages dfa, mini, munch. -/
namespace Go.Proofs.YthglciccejholaaDoor
set_option linter.unusedSimpArgs false
set_option linter.unusedVariables false
set_option maxRecDepth 100000
open Go.RowKit
/- The document's Run; Rule. -/
set_option maxHeartbeats 8000000 in
theorem refrun_any {D : Nat → Prop} {w : World} {d : Df} {ds : Array Value} {p q : Option Addr} {c f : Nat} (s0 : Int) (t : ByteArray) (hd : DC d ds p q c f) (hm : DM D w d p q c f) (ht : t.size ≤ 9223372036854775806) :
    Calls Tryd.prog 32 #[.agg ds, .int .i64 s0, .string t] w fun e w' => e = .returned (tup (runF d s0 (bl t))) ∧ Below w.heap.size w w' := by
  have S0 := Lib.hid ((Sb.start w).alloc (.cells ds 48))
  have HSZ := Lib.hid hd.sz
  have HD := Lib.hid hd
  have HM := Lib.hid hm
  clear hd hm
  go_enter Tryd.func32, Tryd.ntmps32
  go_upto_region 1 with fail
  refine d7_at_world (fun z => Sb w z [(w.heap.size, .cells ds 48)]) S0.out fun z hz => ?_
  clear S0
  have HZ := Lib.hid hz
  clear hz
  go_wp2_with (first | (refine wpList_load_D rfl (.tmp 3) rfl w.heap.size ds rfl (BX.sb HZ.out) HSZ.out ?_))
  refine (refcheck_any HD.out (HM.out.up HZ.out.1)).mono ?_
  rintro _ w1 ⟨rfl, hb1⟩
  have H1 := Lib.hid (HZ.out.up hb1)
  clear hb1 HZ
  by_cases hck : chkD d = 0
  · have HMAY := Lib.hid (chk_may hck)
    have HCK := Lib.hid hck
    have c257 : w1.cell? ⟨w.heap.size, 257, none⟩ = some (.slice p d.nx.length c) := (H1.out.cell 257).trans HD.out.nx
    rw [hck]
    clear hck
    by_cases h0 : s0 < 0
    · have HF : Hid (runF d s0 (bl t) = (0, 2)) := Lib.hid (by unfold runF; rw [if_neg (by simp [HCK.out]), if_neg (by omega)])
      go_wp2_with fail
      go_ret2
      exact ⟨by rw [HF.out]; rfl, H1.out.1⟩
    · by_cases h1 : s0 < (d.nx.length : Int)
      · have HF : Hid (runF d s0 (bl t) = (walkD d s0 (bl t), 0)) := Lib.hid (by unfold runF; rw [if_neg (by simp [HCK.out]), if_pos (by omega)])
        have H10 := Lib.hid h0
        have H11 := Lib.hid h1
        have hge : ¬ (d.nx.length : Int) ≤ s0 := by omega
        go_wp2_with (first | (refine wpList_load_D rfl (.tmp 3) rfl w.heap.size ds rfl (BX.sb H1.out) HSZ.out ?_))
        refine (refwalk_any s0 t HD.out (HM.out.up H1.out.1) HMAY.out H11.out (by have := H10.out; omega) ht).mono ?_
        rintro _ w3 ⟨rfl, hb3⟩
        have H3 := Lib.hid (H1.out.up hb3)
        clear hb3 H1
        generalize walkD d s0 (bl t) = v at *
        go_wp2_with fail
        go_ret2
        exact ⟨by rw [HF.out]; rfl, H3.out.1⟩
      · have HF : Hid (runF d s0 (bl t) = (0, 2)) := Lib.hid (by unfold runF; rw [if_neg (by simp [HCK.out]), if_neg (by omega)])
        have hge : (d.nx.length : Int) ≤ s0 := by omega
        go_wp2_with fail
        go_ret2
        exact ⟨by rw [HF.out]; rfl, H1.out.1⟩
  · have HF : Hid (runF d s0 (bl t) = (0, chkD d)) := Lib.hid (by unfold runF; rw [if_pos hck])
    generalize chkD d = v at *
    go_wp2_with fail
    go_ret2
    exact ⟨by rw [HF.out]; rfl, H1.out.1⟩
set_option maxHeartbeats 8000000 in
theorem ruleR_any {D : Nat → Prop} {w : World} {d : Df} {ds : Array Value} {p q : Option Addr} {c f : Nat} (t : ByteArray) (hd : DC d ds p q c f) (hm : DM D w d p q c f) (ht : t.size ≤ 9223372036854775806) :
    Calls Tryd.prog 33 #[.agg ds, .string t] w fun e w' => e = .returned (tup (ruleF d (bl t))) ∧ Below w.heap.size w w' := by
  have S0 := Lib.hid ((Sb.start w).alloc (.cells ds 48))
  have HSZ := Lib.hid hd.sz
  have HD := Lib.hid hd
  have HM := Lib.hid hm
  clear hd hm
  go_enter Tryd.func33, Tryd.ntmps33
  go_upto_region 1 with fail
  refine d7_at_world (fun z => Sb w z [(w.heap.size, .cells ds 48)]) S0.out fun z hz => ?_
  clear S0
  have HZ := Lib.hid hz
  clear hz
  go_wp2_with (first | (refine wpList_load_D rfl (.tmp 2) rfl w.heap.size ds rfl (BX.sb HZ.out) HSZ.out ?_))
  refine (d7_check_any HD.out (HM.out.up HZ.out.1)).mono ?_
  rintro _ w1 ⟨rfl, hb1⟩
  have H1 := Lib.hid (HZ.out.up hb1)
  clear hb1 HZ
  by_cases hck : chkD d = 0
  · have hmay := chk_may hck
    have HMAY := Lib.hid hmay
    have HCK := Lib.hid hck
    have c0 : w1.cell? ⟨w.heap.size, 0, none⟩ = some (.int .i64 d.st) := (H1.out.cell 0).trans HD.out.st
    rw [hck]
    clear hck hmay
    go_wp2_with (first | (refine wpList_load_D rfl (.tmp 2) rfl w.heap.size ds rfl (BX.sb H1.out) HSZ.out ?_))
    refine (run_any d.st t HD.out (HM.out.up H1.out.1) HMAY.out HMAY.out.s1 HMAY.out.s0 ht).mono ?_
    rintro _ w3 ⟨rfl, hb3⟩
    have H3 := Lib.hid (H1.out.up hb3)
    clear hb3 H1 c0
    have hwl := walkD_lt HMAY.out (bl t) d.st (by have := HMAY.out.s0; omega) HMAY.out.s1
    have c258 : w3.cell? ⟨w.heap.size, 258, none⟩ = some (.slice q d.rl.length f) := (H3.out.cell 258).trans HD.out.rl
    have HF : Hid (ruleF d (bl t) = (rlAt d (walkD d d.st (bl t)), 0)) := Lib.hid (by unfold ruleF; rw [if_neg (by simp [HCK.out])])
    generalize walkD d d.st (bl t) = v at *
    by_cases hv : v = -1
    · subst hv
      go_wp2_with fail
      go_ret2
      exact ⟨by rw [HF.out]; rfl, H3.out.1⟩
    · obtain ⟨n, rfl⟩ : ∃ n : Nat, v = (n : Int) := ⟨v.toNat, by omega⟩
      have hn : n < d.rl.length := by have := HMAY.out.ln; omega
      obtain ⟨b, o, rfl, hb, hcr⟩ := rl_open (HM.out.up H3.out.1) n hn
      have hrl : Hid (rlAt d (n : Int) = if d.rl.getD n (-1) < 0 then -1 else d.rl.getD n (-1)) := Lib.hid (by unfold rlAt; rw [if_neg (by omega), Int.toNat_natCast])
      have hnI : (n : Int) < (d.rl.length : Int) := by omega
      have hnI0 : ¬ (n : Int) < 0 := by omega
      have hn1 : ((n : Int) == -1) = false := beq_eq_false_iff_ne.2 (by omega)
      generalize d.rl.getD n (-1) = r at *
      clear hb hwl
      by_cases hr : r < 0
      · go_wp2_with fail
        go_ret2
        exact ⟨by rw [HF.out, hrl.out, if_pos hr]; rfl, H3.out.1⟩
      · have hr' : 0 ≤ r := by omega
        go_wp2_with fail
        go_ret2
        exact ⟨by rw [HF.out, hrl.out, if_neg (by omega)]; rfl, H3.out.1⟩
  · have HF : Hid (ruleF d (bl t) = (0, chkD d)) := Lib.hid (by unfold ruleF; rw [if_pos hck])
    generalize chkD d = v at *
    go_wp2_with fail
    go_ret2
    exact ⟨by rw [HF.out]; rfl, H1.out.1⟩
end Go.Proofs.YthglciccejholaaDoor
end
