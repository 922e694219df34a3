/- Packages dfa, mini, munch. -/
import Derived.Test.YtemkppjdfjoipaaProg
import Derived.Test.YtemkppjdfjoipaaU31
import Derived.WalkKit
import Derived.BigFrame
import Derived.WalkMore
import Derived.ScopeJumps
import Derived.StillTailTactics
import Derived.Stop.BytesEq
import Derived.WalkLawsBesides
import Derived.WalkSpells
import Derived.Outline
import Derived.Lib.Walk
import Derived.Lib.Hide
import Derived.Lib.Slices
import Derived.Lib.Strings
import Derived.RegionTactic
import Derived.LoopTactic
import Derived.Below
import Derived.IntWalk
import Derived.Deep.QuietTactic
import Derived.BigQuiet
import Derived.Deep.MidRow
import Derived.Maps.AppendAt
import Derived.Laws.Rows
import Derived.Laws.Tables
import Derived.Deep.WholeRow
import Derived.Deep.Cut
import Derived.Deep.CutRange
import Derived.Lib.SliceRun
import Derived.Laws.MakeOwn
import Derived.Deep.RegionLaw
import Derived.Deep.RegionLawGrows
import Derived.Deep.RegionHeld3
import Derived.RegionCalls
import Derived.Deep.RegionWith
import Derived.Deep.Light
import Derived.Laws.CopyOwn
import Derived.Laws.ResultCell
namespace Go.Proofs.Ytemkppjdfjoipaa
set_option linter.unusedSimpArgs false
set_option linter.unusedVariables false
set_option maxRecDepth 100000
open Go.RowKit
/- munch.longest. -/
def bl (s : ByteArray) : List Nat := s.data.toList.map UInt8.toNat
theorem bl_len (s : ByteArray) : (bl s).length = s.size := by simp [bl]
def munV (x : Int × Nat × Nat) : Value := .agg #[.int .i64 x.1, .int .i64 (x.2.1 : Nat), .int .i64 (x.2.2 : Nat)]
theorem zero48 : ∀ w, (zeroValue 147).run Try.prog w = .ok (.agg #[.int .i64 0, .int .i64 0, .int .i64 0]) w := (zero_of_info (show (Try.prog.info? 147).map (fun i => (i.zero, i.size)) = some (some (.agg #[.int .i64 0, .int .i64 0, .int .i64 0]), 3) by kernel_rfl)).1
theorem wp_scope_jumps2 {P : Program} {a : Act} {w : World} {Q : Exit → Act → World → Prop} {c rest : Code} (l : Nat) (J : Act → World → Prop) (μ : Act → World → Nat) (hf : findLabel c l = some (Code.skip.seq rest))
    (pass : ∀ a w, J a w → rest.wp P (Exit.jump l (fun a' w' => J a' w' ∧ μ a' w' < μ a w) Q) a w) (first : (∀ a w, J a w → rest.wp P (Exit.jump l J Q) a w) → c.wp P (Exit.jump l J Q) a w) : (Code.scope c).wp P Q a w :=
  wp_scope_jumps l J μ hf (first fun a w h => wp_mono (pass a w h) fun e a w h => by
    cases e with
    | goto l' => exact ⟨h.1, h.2.1⟩
    | _ => exact h) fun a w h => wp_seq (wp_skip (pass a w h))
theorem index9 (s : ByteArray) (k x : Nat) (h : (bl s)[k]? = some x) (w : World) : (Instr.index 9 (.string s) (.int .i64 (k : Nat))).run Try.prog w = .ok (.int .u8 (x : Nat)) w := by
  unfold bl at h
  rw [List.getElem?_map, Array.getElem?_toList] at h
  obtain ⟨c, hc, hx⟩ := Option.map_eq_some_iff.1 h
  obtain ⟨h1, h2⟩ := Array.getElem?_eq_some_iff.1 hc
  have hs : k < s.size := h1
  subst hx
  simp [Instr.index, go_sem, hs]
  rw [← h2]
  rfl
theorem size48 : (Try.prog.info? 147).map (·.size) = some 3 := by kernel_rfl
/-- At the label. -/
def MJ (w : World) (d : Df) (ds : Array Value) (s : ByteArray) (RES : Int × Nat × Nat) (a' : Act) (w' : World) : Prop := ∃ (k : Nat) (st r : Int) (n : Nat) (U : Nat → Value), a' = { tmps := List.toArray (.agg ds :: .string s :: .pointer (some ⟨w.heap.size, 0, none⟩) :: U 3 :: .pointer (some ⟨w.heap.size + 1, 0, none⟩) :: .pointer (some ⟨w.heap.size + 2, 0, none⟩) :: .int .i64 st :: U 7 :: U 8 :: U 9 :: U 10 :: U 11 :: U 12 :: U 13 :: U 14 :: U 15 :: U 16 :: U 17 :: U 18 :: U 19 :: U 20 :: U 21 :: U 22 :: U 23 :: U 24 :: U 25 :: U 26 :: U 27 :: U 28 :: U 29 :: U 30 :: U 31 :: U 32 :: U 33 :: U 34 :: U 35 :: U 36 :: U 37 :: U 38 :: U 39 :: U 40 :: U 41 :: U 42 :: U 43 :: U 44 :: U 45 :: U 46 :: U 47 :: U 48 :: U 49 :: U 50 :: U 51 :: U 52 :: U 53 :: U 54 :: U 55 :: U 56 :: U 57 :: U 58 :: U 59 :: U 60 :: U 61 :: U 62 :: U 63 :: U 64 :: U 65 :: U 66 :: U 67 :: []), defers := [] } ∧
  k ≤ s.size ∧ 0 ≤ st ∧ st < (d.nx.length : Int) ∧ Hid (mL d st k r n ((bl s).drop k) = RES) ∧ Hid (Sb w w' [(w.heap.size + 2, .cells #[.int .i64 r, .int .i64 (n : Nat), .int .i64 (k : Nat)] 147), (w.heap.size + 1, .cells #[.int .i64 0, .int .i64 0, .int .i64 0] 147), (w.heap.size, .cells ds 61)])
theorem arr_map (T : Array Value) (n : Nat) (h : T.size = n) : T = ((List.range n).map fun j => T.getD j undef).toArray := by
  apply Array.ext
  · simp [h]
  · intro i h1 h2
    simp [Array.getD, h1]
theorem mj_mk {w w' : World} {d : Df} {ds : Array Value} {s : ByteArray} {RES : Int × Nat × Nat} {T : Array Value} (k : Nat) (st r : Int) (n : Nat) (hT : T.size = 68) (h0 : T.getD 0 undef = .agg ds) (h1 : T.getD 1 undef = .string s) (h2 : T.getD 2 undef = .pointer (some ⟨w.heap.size, 0, none⟩))
    (h4 : T.getD 4 undef = .pointer (some ⟨w.heap.size + 1, 0, none⟩)) (h5 : T.getD 5 undef = .pointer (some ⟨w.heap.size + 2, 0, none⟩)) (h6 : T.getD 6 undef = .int .i64 st) (hk : k ≤ s.size) (hs0 : 0 ≤ st) (hs1 : st < (d.nx.length : Int)) (hr : Hid (mL d st k r n ((bl s).drop k) = RES))
    (hS : Hid (Sb w w' [(w.heap.size + 2, .cells #[.int .i64 r, .int .i64 (n : Nat), .int .i64 (k : Nat)] 147), (w.heap.size + 1, .cells #[.int .i64 0, .int .i64 0, .int .i64 0] 147), (w.heap.size, .cells ds 61)])) : MJ w d ds s RES ⟨T, []⟩ w' := by
  refine ⟨k, st, r, n, fun j => T.getD j undef, ?_, hk, hs0, hs1, hr, hS⟩
  rw [← h0, ← h1, ← h2, ← h4, ← h5, ← h6]
  exact congrArg (fun t => (⟨t, []⟩ : Act)) (arr_map T 68 hT)
def mu48 (w : World) (s : ByteArray) (a : Act) (w' : World) : Nat := s.size - (match w'.cell? ⟨w.heap.size + 2, 2, none⟩ with | some (.int _ q) => q.toNat | _ => 0)
set_option maxHeartbeats 8000000 in
theorem longest_any {D : Nat → Prop} {w : World} {d : Df} {ds : Array Value} {p q : Option Addr} {c f : Nat} (s : ByteArray) (hd : DC d ds p q c f) (hm : DM D w d p q c f) (hmay : MayD d) (hs : s.size ≤ 9223372036854775806) :
    Calls Try.prog 98 #[.agg ds, .string s] w fun e w' => e = .returned (munV (mL d d.st 0 (-1) 0 (bl s))) ∧ Below w.heap.size w w' := by
  have hs0 := (((Sb.start w).alloc (.cells ds 61)).alloc (.cells #[.int .i64 0, .int .i64 0, .int .i64 0] 147)).alloc (.cells #[.int .i64 (-1), .int .i64 0, .int .i64 0] 147)
  have hs1 : (w.alloc (.cells ds 61)).heap.size = w.heap.size + 1 := by simp
  have hs2 : ((w.alloc (.cells ds 61)).alloc (.cells #[.int .i64 0, .int .i64 0, .int .i64 0] 147)).heap.size = w.heap.size + 2 := by simp
  rw [hs2, hs1] at hs0
  have S0 := Lib.hid hs0
  have hz48 := zero48
  have a0 := (hs0.tl.tl.cell 0).trans hd.st
  go_enter Try.func98, Try.ntmps98
  go_wp2_with fail
  refine wp_scope_jumps2 0 (MJ w d ds s (mL d d.st 0 (-1) 0 (bl s))) (mu48 w s) rfl ?pass ?first
  case first =>
    intro HF
    have HF2 := Lib.hid HF
    clear HF
    go_wp2_with fail
    go_step3
    simp only [Exit.then]
    rename_i hK
    refine hK _ _ (HF2.out _ _ (mj_mk 0 d.st (-1) 0 rfl rfl rfl rfl rfl rfl rfl (Nat.zero_le _) hmay.s0 hmay.s1 (Lib.hid (by rw [List.drop_zero])) S0))
  case pass =>
    clear S0 hs0 hs1 hs2 a0
    rintro a' w' ⟨k, st, r, n, U, rfl, hk, hst0, hst1, HR, HS⟩
    have hsz : DC d ds p q c f := hd
    have HD := Lib.hid hd
    have HM := Lib.hid hm
    have HMAY := Lib.hid hmay
    have e2 : w'.cell? ⟨w.heap.size + 2, 2, none⟩ = some (.int .i64 (k : Nat)) := HS.out.cell 2
    have HS0 := Lib.hid e2
    have x257 : w'.cell? ⟨w.heap.size, 257, none⟩ = some (.slice p d.nx.length c) := (HS.out.tl.tl.cell 257).trans hd.nx
    obtain ⟨stn, hstn⟩ : ∃ stn : Nat, st = (stn : Int) := ⟨st.toNat, by omega⟩
    subst hstn
    have hstl : stn < d.nx.length := by omega
    obtain ⟨p', c', he, hh⟩ := hm.nx
    injection he with e1 e3 e4
    subst e1 e4
    obtain ⟨b, o, rfl, hb, hc⟩ := hh (by intro e; rw [e] at hstl; simp at hstl)
    obtain ⟨qf, ff, hiv, hcj⟩ := hc stn hstl
    have HIV := Lib.hid hiv
    have HROW : Hid (∀ Z, Below w.heap.size w Z → Z.cell? ⟨b, o + stn, none⟩ = some (.slice qf d.nx[stn].length ff)) := Lib.hid fun Z hZ => (cell_same (hZ.block b (hm.lt b hb)) _).trans hcj
    have HON : Hid (onD d (stn : Int) = onRow d.nx[stn]) := Lib.hid (by unfold onD; rw [Int.toNat_natCast, List.getElem?_eq_getElem hstl])
    have HL3 := Lib.hid (hm.l3 d.nx[stn] (List.getElem_mem hstl))
    have H257 := Lib.hid hd.nx
    have cx : w'.cell? ⟨b, o + stn, none⟩ = some (.slice qf d.nx[stn].length ff) := (cell_same (HS.out.1.block b (hm.lt b hb)) _).trans hcj
    have hrw := hmay.rw d.nx[stn] (List.getElem_mem hstl)
    have hlm := hm.l1
    have hsI : (stn : Int) < (d.nx.length : Int) := by omega
    have hsI0 : ¬ (stn : Int) < 0 := by omega
    by_cases hlt : k < s.size
    · have hkI : (k : Int) < (s.size : Int) := by omega
      have hkI0 : ¬ (k : Int) < 0 := by omega
      have hkl : k < (bl s).length := by rw [bl_len]; exact hlt
      obtain ⟨x, hx⟩ : ∃ x, (bl s)[k] = x := ⟨_, rfl⟩
      have hgx : (bl s)[k]? = some x := by rw [List.getElem?_eq_getElem hkl, hx]
      have hix := index9 s k x hgx
      have hx9 : x < 256 := by
        have := List.mem_of_getElem? hgx
        unfold bl at this
        obtain ⟨c, _, rfl⟩ := List.mem_map.1 this
        exact c.toNat_lt
      have hdr : (bl s).drop k = x :: (bl s).drop (k + 1) := by rw [List.drop_eq_getElem_cons hkl, hx]
      have hcl := hd.cl x hx9
      have x1 : w'.cell? ⟨w.heap.size, 1 + x, none⟩ = some (.int .u8 (d.cl x : Nat)) := (HS.out.tl.tl.cell (1 + x)).trans hcl.1
      have hcm := hmay.cl x hx9
      have hcl2 : d.cl x < d.nx[stn].length := by rw [hrw.1]; exact hcm
      obtain ⟨p', c', he, hh2⟩ := hiv
      injection he with e1 e5 e4
      subst e1 e4
      obtain ⟨bf, of, rfl, hbf, hcf⟩ := hh2 (by intro e; rw [e] at hcl2; simp at hcl2)
      have x2 : w'.cell? ⟨bf, of + d.cl x, none⟩ = some (.int .i64 (d.nx[stn][d.cl x])) := (cell_same (HS.out.1.block bf (hm.lt bf hbf)) _).trans (hcf _ hcl2)
      have htt : cellAt d stn (d.cl x) = d.nx[stn][d.cl x] := by
        unfold cellAt
        rw [List.getElem?_eq_getElem hstl]
        show (d.nx[stn]).getD (d.cl x) (-1) = _
        rw [List.getD_eq_getElem?_getD, List.getElem?_eq_getElem hcl2]; rfl
      have htl : d.nx[stn][d.cl x] < (d.nx.length : Int) := hrw.2 _ (List.getElem_mem hcl2)
      have hl3 := hm.l3 d.nx[stn] (List.getElem_mem hstl)
      obtain ⟨tt, ht9⟩ : ∃ tt, d.nx[stn][d.cl x] = tt := ⟨_, rfl⟩
      rw [ht9] at x2 htt htl
      have HTT := Lib.hid htt
      have hclI : ((d.cl x : Nat) : Int) < (d.nx[stn].length : Int) := by omega
      have hclI0 : ¬ ((d.cl x : Nat) : Int) < 0 := by omega
      have HDR := Lib.hid hdr
      clear hd hm hmay hh hc hcj hsz hh2 hcf ht9 htt hrw hcl hgx hx hkl hdr
      go_wp2_with fail
      go_quiet (fail)
      refine at_worldQ (fun z => Sb w z [(w.heap.size + 2, .cells #[.int .i64 r, .int .i64 (n : Nat), .int .i64 (k : Nat)] 147), (w.heap.size + 1, .cells #[.int .i64 0, .int .i64 0, .int .i64 0] 147), (w.heap.size, .cells ds 61)]) (HS.out.drewN _) fun z hz => ?_
      have HZ := Lib.hid hz
      clear HS e2 x257 cx x1 x2 hcl2 hclI hclI0 hcm hix
      by_cases ht0 : 0 ≤ tt
      · obtain ⟨tn, rfl⟩ : ∃ tn : Nat, tt = (tn : Int) := ⟨tt.toNat, by omega⟩
        have ht0' : ¬ (tn : Int) < 0 := by omega
        have e2 : z.cell? ⟨w.heap.size + 2, 2, none⟩ = some (.int .i64 (k : Nat)) := hz.cell 2
        have f2 : z.frozen? ⟨w.heap.size + 2, 2, none⟩ = false := hz.free 2
        have HZ2 : Hid (Sb w (z.setCell ⟨w.heap.size + 2, 2, none⟩ (.int .i64 ((k : Int) + 1))) [(w.heap.size + 2, .cells #[.int .i64 r, .int .i64 (n : Nat), .int .i64 ((k : Int) + 1)] 147), (w.heap.size + 1, .cells #[.int .i64 0, .int .i64 0, .int .i64 0] 147), (w.heap.size, .cells ds 61)]) := Lib.hid (by
          have := hz.set (i := 2) (.int .i64 ((k : Int) + 1)) (by simp)
          exact this)
        clear hz
        go_upto_region 8 with fail
        refine at_world (fun z => Sb w z [(w.heap.size + 2, .cells #[.int .i64 r, .int .i64 (n : Nat), .int .i64 ((k : Int) + 1)] 147), (w.heap.size + 1, .cells #[.int .i64 0, .int .i64 0, .int .i64 0] 147), (w.heap.size, .cells ds 61)]) HZ2.out fun y hy => ?_
        have HY := Lib.hid hy
        clear HZ2 HZ e2 f2
        have htl2 : tn < d.rl.length := by rw [← HMAY.out.ln]; omega
        have y258 : y.cell? ⟨w.heap.size, 258, none⟩ = some (.slice q d.rl.length f) := (hy.tl.tl.cell 258).trans HD.out.rl
        obtain ⟨p', c', he, hh⟩ := HM.out.rl
        injection he with e1 e5 e4
        subst e1 e4
        obtain ⟨b2, o2, rfl, hb2, hc2⟩ := hh (by intro e; rw [e] at htl2; simp at htl2)
        have yr : y.cell? ⟨b2, o2 + tn, none⟩ = some (.int .i64 d.rl[tn]) := (cell_same (hy.1.block b2 (HM.out.lt b2 hb2)) _).trans (hc2 tn htl2)
        have hrg : d.rl.getD tn (-1) = d.rl[tn] := by rw [List.getD_eq_getElem?_getD, List.getElem?_eq_getElem htl2]; rfl
        have HRG := Lib.hid hrg
        have hl2 := HM.out.l2
        obtain ⟨rr, hrr⟩ : ∃ rr, d.rl[tn] = rr := ⟨_, rfl⟩
        rw [hrr] at yr hrg
        have HRG := Lib.hid hrg
        have htI : (tn : Int) < (d.rl.length : Int) := by omega
        have HSTEP : Hid (mL d (stn : Int) k r n ((bl s).drop k) = if 0 ≤ rr then mL d (tn : Int) (k + 1) rr (k + 1) ((bl s).drop (k + 1)) else mL d (tn : Int) (k + 1) r n ((bl s).drop (k + 1))) := Lib.hid (by
          rw [HDR.out, mL, Int.toNat_natCast, HTT.out, if_pos ht0, Int.toNat_natCast, hrg])
        rw [HR.out] at HSTEP
        have e2 : y.cell? ⟨w.heap.size + 2, 2, none⟩ = some (.int .i64 ((k : Int) + 1)) := hy.cell 2
        clear hy hh hc2 hrr hrg HRG HR HDR HTT hb2
        by_cases hr0 : 0 ≤ rr
        · rw [if_pos hr0] at HSTEP
          have hr0' : ¬ rr < 0 := by omega
          have f0 : y.frozen? ⟨w.heap.size + 2, 0, none⟩ = false := HY.out.free 0
          have f1 : y.frozen? ⟨w.heap.size + 2, 1, none⟩ = false := HY.out.free 1
          have e0 : y.cell? ⟨w.heap.size + 2, 0, none⟩ = some (.int .i64 r) := HY.out.cell 0
          have e1 : y.cell? ⟨w.heap.size + 2, 1, none⟩ = some (.int .i64 (n : Nat)) := HY.out.cell 1
          go_wp2_with fail
          go_region
          have HZ3 : Hid (Sb w ((y.setCell ⟨w.heap.size + 2, 0, none⟩ (.int .i64 rr)).setCell ⟨w.heap.size + 2, 1, none⟩ (.int .i64 ((k : Int) + 1))).drew [(w.heap.size + 2, .cells #[.int .i64 rr, .int .i64 ((k : Int) + 1), .int .i64 ((k : Int) + 1)] 147), (w.heap.size + 1, .cells #[.int .i64 0, .int .i64 0, .int .i64 0] 147), (w.heap.size, .cells ds 61)]) := Lib.hid (by
            have h1 := HY.out.set (i := 0) (.int .i64 rr) (by simp)
            have h2 := (h1.set (i := 1) (.int .i64 ((k : Int) + 1)) (by simp)).drew
            exact h2)
          refine at_worldQ (fun z => Sb w z [(w.heap.size + 2, .cells #[.int .i64 rr, .int .i64 ((k : Int) + 1), .int .i64 ((k : Int) + 1)] 147), (w.heap.size + 1, .cells #[.int .i64 0, .int .i64 0, .int .i64 0] 147), (w.heap.size, .cells ds 61)]) HZ3.out fun v hv => ?_
          have HV := Lib.hid hv
          have v2 : v.cell? ⟨w.heap.size + 2, 2, none⟩ = some (.int .i64 ((k : Int) + 1)) := hv.cell 2
          clear hv HZ3 e0 e1 e2 f0 f1 yr y258 HY
          go_wp2_with fail
          go_step3
          refine ⟨rfl, mj_mk (k + 1) (tn : Int) rr (k + 1) rfl rfl rfl rfl rfl rfl rfl (by omega) (by omega) (by omega) (Lib.hid HSTEP.out.symm) (Lib.hid (by have := HV.out; exact this)), ?_⟩
          unfold mu48
          rw [HS0.out, v2]
          simp only []
          omega
        · rw [if_neg hr0] at HSTEP
          have hr0' : rr < 0 := by omega
          go_wp2_with fail
          go_step3
          refine ⟨rfl, mj_mk (k + 1) (tn : Int) r n rfl rfl rfl rfl rfl rfl rfl (by omega) (by omega) (by omega) (Lib.hid HSTEP.out.symm) (Lib.hid (by have := HY.out; exact this)), ?_⟩
          unfold mu48
          rw [HS0.out, e2]
          simp only []
          omega
      · have ht0' : tt < 0 := by omega
        have HEND : Hid ((r, n, if (k == 0 || onD d (stn : Int)) = true then k + 1 else k) = mL d d.st 0 (-1) 0 (bl s)) := Lib.hid (by
          have := HR.out
          rw [HDR.out, mL, Int.toNat_natCast, HTT.out, if_neg ht0] at this
          exact this)
        clear hz HR HDR
        have e2 : z.cell? ⟨w.heap.size + 2, 2, none⟩ = some (.int .i64 (k : Nat)) := HZ.out.cell 2
        have f2 : z.frozen? ⟨w.heap.size + 2, 2, none⟩ = false := HZ.out.free 2
        by_cases hk0 : k = 0
        · have hkb : ((k : Int) == 0) = true := by simp [hk0]
          have HRR : Hid ((r, n, k + 1) = mL d d.st 0 (-1) 0 (bl s)) := Lib.hid (by rw [← HEND.out]; simp [hk0])
          clear hk0
          have HZ2 : Hid (Sb w (z.setCell ⟨w.heap.size + 2, 2, none⟩ (.int .i64 ((k : Int) + 1))) [(w.heap.size + 2, .cells #[.int .i64 r, .int .i64 (n : Nat), .int .i64 ((k : Int) + 1)] 147), (w.heap.size + 1, .cells #[.int .i64 0, .int .i64 0, .int .i64 0] 147), (w.heap.size, .cells ds 61)]) := Lib.hid (by
            have := HZ.out.set (i := 2) (.int .i64 ((k : Int) + 1)) (by simp)
            exact this)
          go_upto_region 12 with fail
          refine at_world (fun z => Sb w z [(w.heap.size + 2, .cells #[.int .i64 r, .int .i64 (n : Nat), .int .i64 ((k : Int) + 1)] 147), (w.heap.size + 1, .cells #[.int .i64 0, .int .i64 0, .int .i64 0] 147), (w.heap.size, .cells ds 61)]) HZ2.out fun y hy => ?_
          clear HZ2 e2 f2
          have y0 : y.cell? ⟨w.heap.size + 2, 0, none⟩ = some (.int .i64 r) := hy.cell 0
          have y1 : y.cell? ⟨w.heap.size + 2, 1, none⟩ = some (.int .i64 (n : Nat)) := hy.cell 1
          have y2 : y.cell? ⟨w.heap.size + 2, 2, none⟩ = some (.int .i64 ((k : Int) + 1)) := hy.cell 2
          have o0 : y.cell? ⟨w.heap.size + 1, 0, none⟩ = some (.int .i64 0) := hy.tl.cell 0
          have o1 : y.cell? ⟨w.heap.size + 1, 1, none⟩ = some (.int .i64 0) := hy.tl.cell 1
          have o2 : y.cell? ⟨w.heap.size + 1, 2, none⟩ = some (.int .i64 0) := hy.tl.cell 2
          have g0 : y.frozen? ⟨w.heap.size + 1, 0, none⟩ = false := hy.tl.free 0
          have g1 : y.frozen? ⟨w.heap.size + 1, 1, none⟩ = false := hy.tl.free 1
          have g2 : y.frozen? ⟨w.heap.size + 1, 2, none⟩ = false := hy.tl.free 2
          have hyp : Hid (Sb w (((y.setCell ⟨w.heap.size + 1, 0, none⟩ (.int .i64 r)).setCell ⟨w.heap.size + 1, 1, none⟩ (.int .i64 (n : Nat))).setCell ⟨w.heap.size + 1, 2, none⟩ (.int .i64 ((k : Int) + 1))) [(w.heap.size + 1, .cells #[.int .i64 r, .int .i64 (n : Nat), .int .i64 ((k : Int) + 1)] 147)]) := Lib.hid (by
            have h0 := hy.tl.sub (M := [(w.heap.size + 1, .cells #[.int .i64 0, .int .i64 0, .int .i64 0] 147)]) (by simp)
            have h1 := ((h0.set (i := 0) (.int .i64 r) (by simp)).set (i := 1) (.int .i64 (n : Nat)) (by simp)).set (i := 2) (.int .i64 ((k : Int) + 1)) (by simp)
            exact h1)
          clear hy
          go_wp2_with fail
          simp only [Exit.jump]
          refine bodyPost_ret (v := .agg #[.int .i64 r, .int .i64 (n : Nat), .int .i64 ((k : Int) + 1)]) (results_cell_row rfl _ _ (w.heap.size + 1) 147 _ (0, 0) _ rfl hyp.out.heap Try.underlying147 rfl size48) rfl ⟨?_, hyp.out.1⟩
          rw [← HRR.out]; rfl
        · have hkb : ((k : Int) == 0) = false := by simp [hk0]
          have HKB : Hid ((k == 0) = false) := Lib.hid (by simp [hk0])
          have x7 : z.cell? ⟨w.heap.size, 257, none⟩ = some (.slice (some ⟨b, o, none⟩) d.nx.length c) := (HZ.out.tl.tl.cell 257).trans H257.out
          have x8 := HROW.out z HZ.out.1
          have HCC := Lib.hid (goes_any (w := z) (D := D) (fun b hb => Nat.lt_of_lt_of_le (HM.out.lt b hb) HZ.out.1.size) (HIV.out.mono (fun b h => h) (fun b hb _ => HZ.out.1.block b (HM.out.lt b hb))) HL3.out)
          clear hk0
          go_wp2_with fail
          refine HCC.out.mono ?_
          rintro _ v ⟨rfl, hv⟩
          have HV := Lib.hid (HZ.out.up hv)
          clear hv HCC x7 x8 e2 f2
          have e2 : v.cell? ⟨w.heap.size + 2, 2, none⟩ = some (.int .i64 (k : Nat)) := HV.out.cell 2
          have f2 : v.frozen? ⟨w.heap.size + 2, 2, none⟩ = false := HV.out.free 2
          obtain ⟨on, hon⟩ : ∃ on, onRow d.nx[stn] = on := ⟨_, rfl⟩
          rw [hon]
          have HO := Lib.hid hon
          clear hon
          cases on with
          | true =>
            have HRR : Hid ((r, n, k + 1) = mL d d.st 0 (-1) 0 (bl s)) := Lib.hid (by rw [← HEND.out, HON.out, HO.out]; simp)
            have HZ2 : Hid (Sb w (v.setCell ⟨w.heap.size + 2, 2, none⟩ (.int .i64 ((k : Int) + 1))) [(w.heap.size + 2, .cells #[.int .i64 r, .int .i64 (n : Nat), .int .i64 ((k : Int) + 1)] 147), (w.heap.size + 1, .cells #[.int .i64 0, .int .i64 0, .int .i64 0] 147), (w.heap.size, .cells ds 61)]) := Lib.hid (by
              have := HV.out.set (i := 2) (.int .i64 ((k : Int) + 1)) (by simp)
              exact this)
            go_upto_region 12 with fail
            refine at_world (fun z => Sb w z [(w.heap.size + 2, .cells #[.int .i64 r, .int .i64 (n : Nat), .int .i64 ((k : Int) + 1)] 147), (w.heap.size + 1, .cells #[.int .i64 0, .int .i64 0, .int .i64 0] 147), (w.heap.size, .cells ds 61)]) HZ2.out fun y hy => ?_
            clear HZ2 e2 f2
            have y0 : y.cell? ⟨w.heap.size + 2, 0, none⟩ = some (.int .i64 r) := hy.cell 0
            have y1 : y.cell? ⟨w.heap.size + 2, 1, none⟩ = some (.int .i64 (n : Nat)) := hy.cell 1
            have y2 : y.cell? ⟨w.heap.size + 2, 2, none⟩ = some (.int .i64 ((k : Int) + 1)) := hy.cell 2
            have o0 : y.cell? ⟨w.heap.size + 1, 0, none⟩ = some (.int .i64 0) := hy.tl.cell 0
            have o1 : y.cell? ⟨w.heap.size + 1, 1, none⟩ = some (.int .i64 0) := hy.tl.cell 1
            have o2 : y.cell? ⟨w.heap.size + 1, 2, none⟩ = some (.int .i64 0) := hy.tl.cell 2
            have g0 : y.frozen? ⟨w.heap.size + 1, 0, none⟩ = false := hy.tl.free 0
            have g1 : y.frozen? ⟨w.heap.size + 1, 1, none⟩ = false := hy.tl.free 1
            have g2 : y.frozen? ⟨w.heap.size + 1, 2, none⟩ = false := hy.tl.free 2
            have hyp : Hid (Sb w (((y.setCell ⟨w.heap.size + 1, 0, none⟩ (.int .i64 r)).setCell ⟨w.heap.size + 1, 1, none⟩ (.int .i64 (n : Nat))).setCell ⟨w.heap.size + 1, 2, none⟩ (.int .i64 ((k : Int) + 1))) [(w.heap.size + 1, .cells #[.int .i64 r, .int .i64 (n : Nat), .int .i64 ((k : Int) + 1)] 147)]) := Lib.hid (by
              have h0 := hy.tl.sub (M := [(w.heap.size + 1, .cells #[.int .i64 0, .int .i64 0, .int .i64 0] 147)]) (by simp)
              have h1 := ((h0.set (i := 0) (.int .i64 r) (by simp)).set (i := 1) (.int .i64 (n : Nat)) (by simp)).set (i := 2) (.int .i64 ((k : Int) + 1)) (by simp)
              exact h1)
            clear hy
            go_wp2_with fail
            simp only [Exit.jump]
            refine bodyPost_ret (v := .agg #[.int .i64 r, .int .i64 (n : Nat), .int .i64 ((k : Int) + 1)]) (results_cell_row rfl _ _ (w.heap.size + 1) 147 _ (0, 0) _ rfl hyp.out.heap Try.underlying147 rfl size48) rfl ⟨?_, hyp.out.1⟩
            rw [← HRR.out]; rfl
          | false =>
            have HRR : Hid ((r, n, k) = mL d d.st 0 (-1) 0 (bl s)) := Lib.hid (by rw [← HEND.out, HON.out, HO.out, HKB.out]; simp)
            go_upto_region 12 with fail
            refine at_world (fun z => Sb w z [(w.heap.size + 2, .cells #[.int .i64 r, .int .i64 (n : Nat), .int .i64 (k : Nat)] 147), (w.heap.size + 1, .cells #[.int .i64 0, .int .i64 0, .int .i64 0] 147), (w.heap.size, .cells ds 61)]) HV.out fun y hy => ?_
            clear HV e2 f2
            have y0 : y.cell? ⟨w.heap.size + 2, 0, none⟩ = some (.int .i64 r) := hy.cell 0
            have y1 : y.cell? ⟨w.heap.size + 2, 1, none⟩ = some (.int .i64 (n : Nat)) := hy.cell 1
            have y2 : y.cell? ⟨w.heap.size + 2, 2, none⟩ = some (.int .i64 ((k : Nat))) := hy.cell 2
            have o0 : y.cell? ⟨w.heap.size + 1, 0, none⟩ = some (.int .i64 0) := hy.tl.cell 0
            have o1 : y.cell? ⟨w.heap.size + 1, 1, none⟩ = some (.int .i64 0) := hy.tl.cell 1
            have o2 : y.cell? ⟨w.heap.size + 1, 2, none⟩ = some (.int .i64 0) := hy.tl.cell 2
            have g0 : y.frozen? ⟨w.heap.size + 1, 0, none⟩ = false := hy.tl.free 0
            have g1 : y.frozen? ⟨w.heap.size + 1, 1, none⟩ = false := hy.tl.free 1
            have g2 : y.frozen? ⟨w.heap.size + 1, 2, none⟩ = false := hy.tl.free 2
            have hyp : Hid (Sb w (((y.setCell ⟨w.heap.size + 1, 0, none⟩ (.int .i64 r)).setCell ⟨w.heap.size + 1, 1, none⟩ (.int .i64 (n : Nat))).setCell ⟨w.heap.size + 1, 2, none⟩ (.int .i64 ((k : Nat)))) [(w.heap.size + 1, .cells #[.int .i64 r, .int .i64 (n : Nat), .int .i64 ((k : Nat))] 147)]) := Lib.hid (by
              have h0 := hy.tl.sub (M := [(w.heap.size + 1, .cells #[.int .i64 0, .int .i64 0, .int .i64 0] 147)]) (by simp)
              have h1 := ((h0.set (i := 0) (.int .i64 r) (by simp)).set (i := 1) (.int .i64 (n : Nat)) (by simp)).set (i := 2) (.int .i64 ((k : Nat))) (by simp)
              exact h1)
            clear hy
            go_wp2_with fail
            simp only [Exit.jump]
            refine bodyPost_ret (v := .agg #[.int .i64 r, .int .i64 (n : Nat), .int .i64 ((k : Nat))]) (results_cell_row rfl _ _ (w.heap.size + 1) 147 _ (0, 0) _ rfl hyp.out.heap Try.underlying147 rfl size48) rfl ⟨?_, hyp.out.1⟩
            rw [← HRR.out]; rfl
    · have hkI : ¬ (k : Int) < (s.size : Int) := by omega
      have HEND : Hid ((r, n, if (k == 0 || onD d (stn : Int)) = true then k + 1 else k) = mL d d.st 0 (-1) 0 (bl s)) := Lib.hid (by
        have := HR.out
        rw [List.drop_eq_nil_of_le (by rw [bl_len]; omega), mL] at this
        exact this)
      clear HR e2 x257 cx hd hm hmay hh hc hcj hrw hiv hsz
      have e2 : w'.cell? ⟨w.heap.size + 2, 2, none⟩ = some (.int .i64 (k : Nat)) := HS.out.cell 2
      have f2 : w'.frozen? ⟨w.heap.size + 2, 2, none⟩ = false := HS.out.free 2
      by_cases hk0 : k = 0
      · have hkb : ((k : Int) == 0) = true := by simp [hk0]
        have HRR : Hid ((r, n, k + 1) = mL d d.st 0 (-1) 0 (bl s)) := Lib.hid (by rw [← HEND.out]; simp [hk0])
        clear hk0
        have HZ2 : Hid (Sb w (w'.setCell ⟨w.heap.size + 2, 2, none⟩ (.int .i64 ((k : Int) + 1))) [(w.heap.size + 2, .cells #[.int .i64 r, .int .i64 (n : Nat), .int .i64 ((k : Int) + 1)] 147), (w.heap.size + 1, .cells #[.int .i64 0, .int .i64 0, .int .i64 0] 147), (w.heap.size, .cells ds 61)]) := Lib.hid (by
          have := HS.out.set (i := 2) (.int .i64 ((k : Int) + 1)) (by simp)
          exact this)
        go_upto_region 12 with fail
        refine at_world (fun z => Sb w z [(w.heap.size + 2, .cells #[.int .i64 r, .int .i64 (n : Nat), .int .i64 ((k : Int) + 1)] 147), (w.heap.size + 1, .cells #[.int .i64 0, .int .i64 0, .int .i64 0] 147), (w.heap.size, .cells ds 61)]) HZ2.out fun y hy => ?_
        clear HZ2 e2 f2
        have y0 : y.cell? ⟨w.heap.size + 2, 0, none⟩ = some (.int .i64 r) := hy.cell 0
        have y1 : y.cell? ⟨w.heap.size + 2, 1, none⟩ = some (.int .i64 (n : Nat)) := hy.cell 1
        have y2 : y.cell? ⟨w.heap.size + 2, 2, none⟩ = some (.int .i64 ((k : Int) + 1)) := hy.cell 2
        have o0 : y.cell? ⟨w.heap.size + 1, 0, none⟩ = some (.int .i64 0) := hy.tl.cell 0
        have o1 : y.cell? ⟨w.heap.size + 1, 1, none⟩ = some (.int .i64 0) := hy.tl.cell 1
        have o2 : y.cell? ⟨w.heap.size + 1, 2, none⟩ = some (.int .i64 0) := hy.tl.cell 2
        have g0 : y.frozen? ⟨w.heap.size + 1, 0, none⟩ = false := hy.tl.free 0
        have g1 : y.frozen? ⟨w.heap.size + 1, 1, none⟩ = false := hy.tl.free 1
        have g2 : y.frozen? ⟨w.heap.size + 1, 2, none⟩ = false := hy.tl.free 2
        have hyp : Hid (Sb w (((y.setCell ⟨w.heap.size + 1, 0, none⟩ (.int .i64 r)).setCell ⟨w.heap.size + 1, 1, none⟩ (.int .i64 (n : Nat))).setCell ⟨w.heap.size + 1, 2, none⟩ (.int .i64 ((k : Int) + 1))) [(w.heap.size + 1, .cells #[.int .i64 r, .int .i64 (n : Nat), .int .i64 ((k : Int) + 1)] 147)]) := Lib.hid (by
          have h0 := hy.tl.sub (M := [(w.heap.size + 1, .cells #[.int .i64 0, .int .i64 0, .int .i64 0] 147)]) (by simp)
          have h1 := ((h0.set (i := 0) (.int .i64 r) (by simp)).set (i := 1) (.int .i64 (n : Nat)) (by simp)).set (i := 2) (.int .i64 ((k : Int) + 1)) (by simp)
          exact h1)
        clear hy
        go_wp2_with fail
        simp only [Exit.jump]
        refine bodyPost_ret (v := .agg #[.int .i64 r, .int .i64 (n : Nat), .int .i64 ((k : Int) + 1)]) (results_cell_row rfl _ _ (w.heap.size + 1) 147 _ (0, 0) _ rfl hyp.out.heap Try.underlying147 rfl size48) rfl ⟨?_, hyp.out.1⟩
        rw [← HRR.out]; rfl
      · have hkb : ((k : Int) == 0) = false := by simp [hk0]
        have HKB : Hid ((k == 0) = false) := Lib.hid (by simp [hk0])
        have x7 : w'.cell? ⟨w.heap.size, 257, none⟩ = some (.slice (some ⟨b, o, none⟩) d.nx.length c) := (HS.out.tl.tl.cell 257).trans H257.out
        have x8 := HROW.out w' HS.out.1
        have HCC := Lib.hid (goes_any (w := w') (D := D) (fun b hb => Nat.lt_of_lt_of_le (HM.out.lt b hb) HS.out.1.size) (HIV.out.mono (fun b h => h) (fun b hb _ => HS.out.1.block b (HM.out.lt b hb))) HL3.out)
        clear hk0
        go_wp2_with fail
        refine HCC.out.mono ?_
        rintro _ v ⟨rfl, hv⟩
        have HV := Lib.hid (HS.out.up hv)
        clear hv HCC x7 x8 e2 f2
        have e2 : v.cell? ⟨w.heap.size + 2, 2, none⟩ = some (.int .i64 (k : Nat)) := HV.out.cell 2
        have f2 : v.frozen? ⟨w.heap.size + 2, 2, none⟩ = false := HV.out.free 2
        obtain ⟨on, hon⟩ : ∃ on, onRow d.nx[stn] = on := ⟨_, rfl⟩
        rw [hon]
        have HO := Lib.hid hon
        clear hon
        cases on with
        | true =>
          have HRR : Hid ((r, n, k + 1) = mL d d.st 0 (-1) 0 (bl s)) := Lib.hid (by rw [← HEND.out, HON.out, HO.out]; simp)
          have HZ2 : Hid (Sb w (v.setCell ⟨w.heap.size + 2, 2, none⟩ (.int .i64 ((k : Int) + 1))) [(w.heap.size + 2, .cells #[.int .i64 r, .int .i64 (n : Nat), .int .i64 ((k : Int) + 1)] 147), (w.heap.size + 1, .cells #[.int .i64 0, .int .i64 0, .int .i64 0] 147), (w.heap.size, .cells ds 61)]) := Lib.hid (by
            have := HV.out.set (i := 2) (.int .i64 ((k : Int) + 1)) (by simp)
            exact this)
          go_upto_region 12 with fail
          refine at_world (fun z => Sb w z [(w.heap.size + 2, .cells #[.int .i64 r, .int .i64 (n : Nat), .int .i64 ((k : Int) + 1)] 147), (w.heap.size + 1, .cells #[.int .i64 0, .int .i64 0, .int .i64 0] 147), (w.heap.size, .cells ds 61)]) HZ2.out fun y hy => ?_
          clear HZ2 e2 f2
          have y0 : y.cell? ⟨w.heap.size + 2, 0, none⟩ = some (.int .i64 r) := hy.cell 0
          have y1 : y.cell? ⟨w.heap.size + 2, 1, none⟩ = some (.int .i64 (n : Nat)) := hy.cell 1
          have y2 : y.cell? ⟨w.heap.size + 2, 2, none⟩ = some (.int .i64 ((k : Int) + 1)) := hy.cell 2
          have o0 : y.cell? ⟨w.heap.size + 1, 0, none⟩ = some (.int .i64 0) := hy.tl.cell 0
          have o1 : y.cell? ⟨w.heap.size + 1, 1, none⟩ = some (.int .i64 0) := hy.tl.cell 1
          have o2 : y.cell? ⟨w.heap.size + 1, 2, none⟩ = some (.int .i64 0) := hy.tl.cell 2
          have g0 : y.frozen? ⟨w.heap.size + 1, 0, none⟩ = false := hy.tl.free 0
          have g1 : y.frozen? ⟨w.heap.size + 1, 1, none⟩ = false := hy.tl.free 1
          have g2 : y.frozen? ⟨w.heap.size + 1, 2, none⟩ = false := hy.tl.free 2
          have hyp : Hid (Sb w (((y.setCell ⟨w.heap.size + 1, 0, none⟩ (.int .i64 r)).setCell ⟨w.heap.size + 1, 1, none⟩ (.int .i64 (n : Nat))).setCell ⟨w.heap.size + 1, 2, none⟩ (.int .i64 ((k : Int) + 1))) [(w.heap.size + 1, .cells #[.int .i64 r, .int .i64 (n : Nat), .int .i64 ((k : Int) + 1)] 147)]) := Lib.hid (by
            have h0 := hy.tl.sub (M := [(w.heap.size + 1, .cells #[.int .i64 0, .int .i64 0, .int .i64 0] 147)]) (by simp)
            have h1 := ((h0.set (i := 0) (.int .i64 r) (by simp)).set (i := 1) (.int .i64 (n : Nat)) (by simp)).set (i := 2) (.int .i64 ((k : Int) + 1)) (by simp)
            exact h1)
          clear hy
          go_wp2_with fail
          simp only [Exit.jump]
          refine bodyPost_ret (v := .agg #[.int .i64 r, .int .i64 (n : Nat), .int .i64 ((k : Int) + 1)]) (results_cell_row rfl _ _ (w.heap.size + 1) 147 _ (0, 0) _ rfl hyp.out.heap Try.underlying147 rfl size48) rfl ⟨?_, hyp.out.1⟩
          rw [← HRR.out]; rfl
        | false =>
          have HRR : Hid ((r, n, k) = mL d d.st 0 (-1) 0 (bl s)) := Lib.hid (by rw [← HEND.out, HON.out, HO.out, HKB.out]; simp)
          go_upto_region 12 with fail
          refine at_world (fun z => Sb w z [(w.heap.size + 2, .cells #[.int .i64 r, .int .i64 (n : Nat), .int .i64 (k : Nat)] 147), (w.heap.size + 1, .cells #[.int .i64 0, .int .i64 0, .int .i64 0] 147), (w.heap.size, .cells ds 61)]) HV.out fun y hy => ?_
          clear HV e2 f2
          have y0 : y.cell? ⟨w.heap.size + 2, 0, none⟩ = some (.int .i64 r) := hy.cell 0
          have y1 : y.cell? ⟨w.heap.size + 2, 1, none⟩ = some (.int .i64 (n : Nat)) := hy.cell 1
          have y2 : y.cell? ⟨w.heap.size + 2, 2, none⟩ = some (.int .i64 ((k : Nat))) := hy.cell 2
          have o0 : y.cell? ⟨w.heap.size + 1, 0, none⟩ = some (.int .i64 0) := hy.tl.cell 0
          have o1 : y.cell? ⟨w.heap.size + 1, 1, none⟩ = some (.int .i64 0) := hy.tl.cell 1
          have o2 : y.cell? ⟨w.heap.size + 1, 2, none⟩ = some (.int .i64 0) := hy.tl.cell 2
          have g0 : y.frozen? ⟨w.heap.size + 1, 0, none⟩ = false := hy.tl.free 0
          have g1 : y.frozen? ⟨w.heap.size + 1, 1, none⟩ = false := hy.tl.free 1
          have g2 : y.frozen? ⟨w.heap.size + 1, 2, none⟩ = false := hy.tl.free 2
          have hyp : Hid (Sb w (((y.setCell ⟨w.heap.size + 1, 0, none⟩ (.int .i64 r)).setCell ⟨w.heap.size + 1, 1, none⟩ (.int .i64 (n : Nat))).setCell ⟨w.heap.size + 1, 2, none⟩ (.int .i64 ((k : Nat)))) [(w.heap.size + 1, .cells #[.int .i64 r, .int .i64 (n : Nat), .int .i64 ((k : Nat))] 147)]) := Lib.hid (by
            have h0 := hy.tl.sub (M := [(w.heap.size + 1, .cells #[.int .i64 0, .int .i64 0, .int .i64 0] 147)]) (by simp)
            have h1 := ((h0.set (i := 0) (.int .i64 r) (by simp)).set (i := 1) (.int .i64 (n : Nat)) (by simp)).set (i := 2) (.int .i64 ((k : Nat))) (by simp)
            exact h1)
          clear hy
          go_wp2_with fail
          simp only [Exit.jump]
          refine bodyPost_ret (v := .agg #[.int .i64 r, .int .i64 (n : Nat), .int .i64 ((k : Nat))]) (results_cell_row rfl _ _ (w.heap.size + 1) 147 _ (0, 0) _ rfl hyp.out.heap Try.underlying147 rfl size48) rfl ⟨?_, hyp.out.1⟩
          rw [← HRR.out]; rfl
end Go.Proofs.Ytemkppjdfjoipaa
