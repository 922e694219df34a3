/- Texts of package regs, one behind the other. -/
import Derived.Test.YthglciccejholaaDoorProg
import Derived.Test.YthglciccejholaaDoorRo
import Derived.Test.YthglciccejholaaDoorY50
import Derived.WalkKit
import Derived.Deep.SlicePairs
import Derived.Deep.Slices
import Derived.Laws.IdiomArrays
import Derived.OpenShut
import Derived.WideBlind
import Derived.BigFrame
import Derived.WalkMore
import Derived.ScopeJumps
import Derived.StillTailTactics
import Derived.Stop.BytesEq
import Derived.WalkLawsBesides
import Derived.WalkSpells
import Derived.Outline
import Derived.Lib.Walk
import Derived.Lib.Hide
import Derived.Lib.Slices
import Derived.Lib.Strings
import Derived.RegionTactic
import Derived.LoopTactic
import Derived.Below
import Derived.IntWalk
import Derived.Deep.QuietTactic
import Derived.BigQuiet
import Derived.Deep.MidRow
import Derived.Maps.AppendAt
import Derived.Laws.Rows
import Derived.Laws.Tables
import Derived.Deep.WholeRow
import Derived.Deep.Cut
import Derived.Deep.CutRange
import Derived.Lib.SliceRun
import Derived.Laws.MakeOwn
import Derived.Deep.RegionLaw
import Derived.Deep.RegionLawGrows
import Derived.Deep.RegionHeld3
import Derived.RegionCalls
import Derived.Deep.RegionWith
import Derived.Deep.Light
import Derived.Laws.CopyOwn
import Derived.Laws.ResultCell
import Derived.Test.YthglciccejholaaDoorRows
import Derived.Test.YthglciccejholaaDoorY15
import Derived.ProofKit
import Derived.LaidMore
import Derived.Stop.Joined
import Derived.Lib.LaidTab
section
/- api.Rule as an argument. -/
namespace Go.Proofs.YthglciccejholaaDoor.R5
set_option linter.unusedSimpArgs false
set_option linter.unusedVariables false
set_option maxRecDepth 100000
open Go.RowKit
/- An api.Rule as an argument; words. -/
theorem okW_okU {u : Nat → Int} (h : okW u) : okU u := fun i hi => by
  have h1 := h i
  have e : (u i).toNat = W (fOf u) i := W_eq (fOf u) i (u i).toNat (by omega) fun k hk => by
    unfold fOf
    rw [show (64 * i + k) / 64 = i by omega, show (64 * i + k) % 64 = k by omega]
  unfold wf
  rw [← e]
  omega
mutual
theorem okT_conv : ∀ (t : RT), _root_.Go.Proofs.YthglciccejholaaDoor.okT t → okT t
  | .mk k u ps, h => by
    rw [_root_.Go.Proofs.YthglciccejholaaDoor.okT] at h
    rw [okT]
    exact ⟨fun _ => okW_okU h.1, okL_conv ps h.2⟩
theorem okL_conv : ∀ (ps : List RT), _root_.Go.Proofs.YthglciccejholaaDoor.okTL ps → okL ps
  | [], _ => by rw [okL]; trivial
  | t :: ts, h => by
    rw [_root_.Go.Proofs.YthglciccejholaaDoor.okTL] at h
    rw [okL]
    exact ⟨okT_conv t h.1, okL_conv ts h.2⟩
end
theorem cells29 : Tryd.prog.cellsOf 29 = 7 := by kernel_rfl
theorem cells27 : Tryd.prog.cellsOf 27 = 6 := by kernel_rfl
open Go.ChangeShapes Go.WideShapes in
theorem open_rule {H : Type} {enc : TypeId × Value → H} {w : World} {r : Reach} {b0 : Nat} {held : Bool} {v : Value} {d : DataW H} {p : List MemPlace} (hv : Value.okWide Tryd.prog w r b0 29 v) (h : DataW.Trod enc Tryd.prog w 0 (fun _ => true) held 29 v d p) (hw : ∀ n ∈ d.weights Tryd.prog 29, n ≤ reachBytes) :
    ∃ (t : RT) (kd k : Int) (u : Nat → Int) (p : Option Addr) (n c : Nat), v = .agg #[.int .i64 kd, .int .i64 k, .int .u64 (u 0), .int .u64 (u 1), .int .u64 (u 2), .int .u64 (u 3), .slice p n c] ∧ RV (fun b => b < w.heap.size) w t (.agg (nodeC k u (.slice p n c))) ∧ wid t ≤ 9223372036854775806 ∧ _root_.Go.Proofs.YthglciccejholaaDoor.okT t := by
  obtain ⟨cs, rfl⟩ : ∃ cs, v = .agg cs := by
    have := hv
    simp [Value.okWide, Tryd.underlying29] at this
    obtain ⟨cs, h1, _⟩ := this
    exact ⟨cs, h1⟩
  obtain ⟨fuel, hf⟩ := h
  obtain ⟨xs, n, rfl, hx, hlen', hxl, hf⟩ := DataW.trod_struct Tryd.underlying29 hf
  rw [cells29] at hlen'
  have e : (Value.agg cs).cells.toList = cs.toList := by simp [Value.cells]
  rw [e] at hlen' hf
  obtain ⟨cl⟩ := cs
  simp only at hlen' hf
  match cl, hlen' with
  | [c0, c1, c2, c3, c4, c5, c6], _ =>
    have f0 := hf 0 _ rfl
    have f1 := hf 1 _ rfl
    have hxl3 : xs.length = 2 := hxl
    match xs, hxl3 with
    | [y0, y1], _ =>
      have g0 : DataW.trod enc Tryd.prog w 0 (fun _ => true) held n 3 [c0] = some y0 := f0
      have g1 : DataW.trod enc Tryd.prog w 0 (fun _ => true) held n 27 [c1, c2, c3, c4, c5, c6] = some y1 := f1
      obtain ⟨kd, e0, -, -⟩ := DataW.trod_int Tryd.underlying3 g0
      obtain rfl : c0 = .int .i64 kd := by simpa using e0
      have hd : d = .agg [y0.1, y1.1] := by simpa using (Prod.mk.inj hx).1
      have hw2 : ∀ q ∈ y1.1.weights Tryd.prog 27, q ≤ reachBytes := fun q hq => by
        refine hw q ?_
        rw [hd]
        unfold DataW.weights
        rw [Tryd.underlying29]
        exact DataW.weights_mem_each (j := 1) (t := 27) (d := y1.1) rfl rfl q hq
      obtain ⟨t, hRV, hwd, hok, -⟩ := tree_open (d := y1.1) (pl := y1.2) n n (Nat.le_refl _) g1 hw2
      obtain ⟨k, u, p, m, c, hform⟩ := hRV.form2
      have e6 : [c1, c2, c3, c4, c5, c6] = [.int .i64 k, .int .u64 (u 0), .int .u64 (u 1), .int .u64 (u 2), .int .u64 (u 3), .slice p m c] := by
        have := Value.agg.inj hform
        simpa using congrArg Array.toList this
      simp only [List.cons.injEq, and_true] at e6
      obtain ⟨rfl, rfl, rfl, rfl, rfl, rfl⟩ := e6
      exact ⟨t, kd, k, u, p, m, c, rfl, hRV, hwd, hok⟩
end Go.Proofs.YthglciccejholaaDoor.R5
end
section
/- Package regs, taken over. -/
namespace Go.Proofs.YthglciccejholaaDoor.R5
set_option linter.unusedSimpArgs false
set_option linter.unusedVariables false
set_option maxRecDepth 100000
open Go.RowKit
/- NfaOne: the walk. -/
set_option maxHeartbeats 16000000 in
theorem one_any {w : World} {t : RT} {kd k : Int} {u : Nat → Int} {p : Option Addr} {m c : Nat} (s : ByteArray) (hR : RV (fun b => b < w.heap.size) w t (.agg (nodeC k u (.slice p m c)))) (hwd : wid t ≤ 9223372036854775806) (hok : _root_.Go.Proofs.YthglciccejholaaDoor.okT t) (hw0 : 0 < w.heap.size) (hT : Tb w) :
    Calls Tryd.prog 3 #[.agg #[.int .i64 kd, .int .i64 k, .int .u64 (u 0), .int .u64 (u 1), .int .u64 (u 2), .int .u64 (u 3), .slice p m c], .string s] w fun e w' => e = .returned (.bool true) ∧ Below w.heap.size w w' := by
  obtain ⟨ag, hag⟩ : ∃ ag : Array Value, #[.int .i64 kd, .int .i64 k, .int .u64 (u 0), .int .u64 (u 1), .int .u64 (u 2), .int .u64 (u 3), .slice p m c] = ag := ⟨_, rfl⟩
  have S0 := Lib.hid ((Sb.start w).alloc (.cells #[.int .i64 kd, .int .i64 k, .int .u64 (u 0), .int .u64 (u 1), .int .u64 (u 2), .int .u64 (u 3), .slice p m c] 29))
  have HRV := Lib.hid fun z (hb : Below w.heap.size w z) => hR.mono (E := fun b => b < z.heap.size) (fun b h => Nat.lt_of_lt_of_le h hb.size) (fun b h _ => hb.block b h)
  have HTB := Lib.hid fun z (hb : Below w.heap.size w z) => hT.mono (hb.block 0 hw0)
  have HBIG := Lib.hid fun z (hb : Below w.heap.size w z) => rbig_any (w := z) 120 (by omega) hwd (fun b h => h) (HRV.out z hb)
  have HOK := Lib.hid hok
  have HWD := Lib.hid hwd
  have HW0 := Lib.hid hw0
  have hz := zero24
  clear hR hT hok hwd hag ag
  unfold nodeC at HBIG
  by_cases hlong : 120 < s.size
  · have hI : (120 : Int) < (s.size : Int) := by omega
    go_enter Tryd.func3, Tryd.ntmps3
    go_wp2_with fail
    go_ret
    exact ⟨rfl, S0.out.1⟩
  have hI : ¬ (120 : Int) < (s.size : Int) := by omega
  obtain ⟨gb, hgb⟩ : ∃ g, decide (120 < sz t) = g := ⟨_, rfl⟩
  rw [hgb] at HBIG
  go_enter Tryd.func3, Tryd.ntmps3
  go_wp2_with fail
  refine (HBIG.out _ S0.out.1).mono ?_
  rintro _ w1 ⟨rfl, hb⟩
  have S1 := Lib.hid (S0.out.up hb)
  clear hb S0 HBIG
  cases gb with
  | true =>
    go_wp2_with fail
    go_ret
    exact ⟨rfl, S1.out.1⟩
  | false =>
  clear hgb
  have c0 : w1.cell? ⟨w.heap.size, 0, none⟩ = some (.int .i64 kd) := S1.out.cell 0
  have c1 : w1.cell? ⟨w.heap.size, 1, none⟩ = some (.int .i64 k) := S1.out.cell 1
  have c2 : w1.cell? ⟨w.heap.size, 2, none⟩ = some (.int .u64 (u 0)) := S1.out.cell 2
  have c3 : w1.cell? ⟨w.heap.size, 3, none⟩ = some (.int .u64 (u 1)) := S1.out.cell 3
  have c4 : w1.cell? ⟨w.heap.size, 4, none⟩ = some (.int .u64 (u 2)) := S1.out.cell 4
  have c5 : w1.cell? ⟨w.heap.size, 5, none⟩ = some (.int .u64 (u 3)) := S1.out.cell 5
  have c6 : w1.cell? ⟨w.heap.size, 6, none⟩ = some (.slice p m c) := S1.out.cell 6
  have hs2 := S1.out.alloc (.cells #[.int .i64 kd, .int .i64 k, .int .u64 (u 0), .int .u64 (u 1), .int .u64 (u 2), .int .u64 (u 3), .slice p m c] 29)
  have S2 := Lib.hid hs2
  have hru : RuV (fun b => b < (w1.alloc (.cells #[.int .i64 kd, .int .i64 k, .int .u64 (u 0), .int .u64 (u 1), .int .u64 (u 2), .int .u64 (u 3), .slice p m c] 29)).heap.size) (w1.alloc (.cells #[.int .i64 kd, .int .i64 k, .int .u64 (u 0), .int .u64 (u 1), .int .u64 (u 2), .int .u64 (u 3), .slice p m c] 29)) [t] (.slice (some ⟨w1.heap.size, 0, none⟩) 1 1) := by
    refine ⟨_, _, rfl, fun _ => ⟨w1.heap.size, 0, rfl, by simp, fun i hi => ?_⟩⟩
    have hi0 : i = 0 := by simp at hi; exact hi
    subst hi0
    refine ⟨kd, k, u, p, m, c, HRV.out _ hs2.1, fun j y hy => ?_⟩
    rw [show 0 + 0 * 7 + j = j by omega]
    exact (hs2.cell j).trans hy
  have HOF := Lib.hid (of_full (ts := [t]) (fun b h => h) hru (by simp) (fun t' ht => by simp at ht; rw [ht]; exact HWD.out))
  obtain ⟨E, hE⟩ : ∃ E, refE [t] = E := ⟨_, rfl⟩
  obtain ⟨st, hst⟩ : ∃ st, stR [t] = st := ⟨_, rfl⟩
  obtain ⟨L, hL⟩ : ∃ L, ssR [t] = L := ⟨_, rfl⟩
  rw [hE, hst, hL] at HOF
  have HE := Lib.hid (And.intro hE (And.intro hst hL))
  clear hs2 hru hE hst hL
  go_wp2_with fail
  refine HOF.out.mono ?_
  rintro _ w3 ⟨⟨sq, cq, rfl, hsv⟩, hb⟩
  have S3 := Lib.hid (S2.out.up hb).tl
  have HSV := Lib.hid (hsv.mono (E := fun b => b < w3.heap.size) (fun b h => h.2) (fun b _ _ => rfl))
  have S4 := Lib.hid (S3.out.alloc (.cells #[.int .i64 st, .slice sq L.length cq] 33))
  have HSV4 := Lib.hid (HSV.out.mono (E := fun b => b < (w3.alloc (.cells #[.int .i64 st, .slice sq L.length cq] 33)).heap.size) (w' := w3.alloc (.cells #[.int .i64 st, .slice sq L.length cq] 33)) (fun b h => by simp; omega) (fun b h _ => heap_alloc_old w3 _ h))
  clear hb hsv S1 S2 c0 c1 c2 c3 c4 c5 c6 HOF HSV S3
  go_upto_region 4 with fail
  refine at_world (fun z => Sb w z [(w3.heap.size, .cells #[.int .i64 st, .slice sq L.length cq] 33), (w.heap.size, .cells #[.int .i64 kd, .int .i64 k, .int .u64 (u 0), .int .u64 (u 1), .int .u64 (u 2), .int .u64 (u 3), .slice p m c] 29)] ∧ SV (fun b => b < z.heap.size) z L (.slice sq L.length cq)) ⟨S4.out, HSV4.out⟩ fun z hz9 => ?_
  have S5 := Lib.hid hz9.1
  have V5 := Lib.hid hz9.2
  obtain ⟨b1, hb1⟩ : ∃ b1, w3.heap.size = b1 := ⟨_, rfl⟩
  rw [hb1] at S5 ⊢
  clear hz9 S4 HSV4 hb1
  have HAL := Lib.hid alive_any
  by_cases hE0 : E = 0
  · have hne : (E != 0) = false := by simp [hE0]
    have HRE : Hid (refE [t] = 0) := Lib.hid (by rw [HE.out.1, hE0])
    have HAC := Lib.hid (acc_full (w := z) (ts := [t]) (q := sq) (c := cq) (s := s) HRE.out (fun t' ht => by simp at ht; rw [ht]; exact HOK.out) (by rw [HE.out.2.2]; exact V5.out) (by omega))
    rw [HE.out.2.1, HE.out.2.2] at HAC
    obtain ⟨A, hA⟩ : ∃ A, accT [t] s.data.toList = A := ⟨_, rfl⟩
    rw [hA] at HAC
    have HMT := Lib.hid fun v (hb : Below w.heap.size w v) => matches_any (w := v) s.data.toList (fun b h => h) HWD.out (okT_conv t HOK.out) (Nat.lt_of_lt_of_le HW0.out hb.size) (HTB.out v hb) (HRV.out v hb)
    have hmt : mtP t s.data.toList = (matB t s.data.toList, 0) := by
      unfold mtP
      rw [if_neg (by rw [msz_ok HRE.out]; simp), if_neg (by simp; omega)]
    obtain ⟨M, hM⟩ : ∃ M, matB t s.data.toList = M := ⟨_, rfl⟩
    rw [hmt, hM] at HMT
    rw [bs_data] at HMT
    simp only [] at HMT
    unfold nodeC at HMT
    have HMA : Hid ((A = [0] ∧ M = true) ∨ (A = [] ∧ M = false)) := Lib.hid (by rw [← hA, ← hM]; exact one_math HRE.out _)
    have e0 : z.cell? ⟨b1, 0, none⟩ = some (.int .i64 st) := S5.out.cell 0
    have e1 : z.cell? ⟨b1, 1, none⟩ = some (.slice sq L.length cq) := S5.out.cell 1
    clear hmt hA hM HRE HE V5 hE0
    go_wp2_with fail
    refine HAC.out.mono ?_
    rintro _ w6 ⟨⟨pa, ca, rfl, hiv⟩, hb⟩
    have S6 := Lib.hid (S5.out.up hb)
    have HIV := Lib.hid hiv
    have HMC := Lib.hid (HMT.out w6 S6.out.1)
    have c1 : w6.cell? ⟨w.heap.size, 1, none⟩ = some (.int .i64 k) := S6.out.tl.cell 1
    have c2 : w6.cell? ⟨w.heap.size, 2, none⟩ = some (.int .u64 (u 0)) := S6.out.tl.cell 2
    have c3 : w6.cell? ⟨w.heap.size, 3, none⟩ = some (.int .u64 (u 1)) := S6.out.tl.cell 3
    have c4 : w6.cell? ⟨w.heap.size, 4, none⟩ = some (.int .u64 (u 2)) := S6.out.tl.cell 4
    have c5 : w6.cell? ⟨w.heap.size, 5, none⟩ = some (.int .u64 (u 3)) := S6.out.tl.cell 5
    have c6 : w6.cell? ⟨w.heap.size, 6, none⟩ = some (.slice p m c) := S6.out.tl.cell 6
    clear hb hiv S5 HAC HMT e0 e1
    rcases HMA.out with ⟨rfl, rfl⟩ | ⟨rfl, rfl⟩
    · go_wp2_with fail
      refine HMC.out.mono ?_
      rintro _ w7 ⟨rfl, hb⟩
      have S7 := Lib.hid (S6.out.up hb)
      obtain ⟨p', c', he, hh⟩ := HIV.out
      injection he with e1 e2 e3
      subst e1
      obtain ⟨ba, oa, rfl, hba, hca⟩ := hh (by simp)
      have ca0 : w7.cell? ⟨ba, oa, none⟩ = some (.int .i64 0) := by
        have := hca 0 (by simp)
        rw [Nat.add_zero] at this
        exact (hb.cell (p := ⟨ba, oa, none⟩) hba).trans this
      clear hb HMC S6 c1 c2 c3 c4 c5 c6 hh hca HIV
      go_wp2_with fail
      refine (HAL.out w7).mono ?_
      rintro _ w8 ⟨rfl, hb⟩
      have S8 := Lib.hid (S7.out.up hb)
      clear hb S7
      go_wp2_with fail
      go_ret
      exact ⟨rfl, S8.out.1⟩
    · go_wp2_with fail
      refine HMC.out.mono ?_
      rintro _ w7 ⟨rfl, hb⟩
      have S7 := Lib.hid (S6.out.up hb)
      clear hb HMC S6 c1 c2 c3 c4 c5 c6 HIV
      go_wp2_with fail
      refine (HAL.out w7).mono ?_
      rintro _ w8 ⟨rfl, hb⟩
      have S8 := Lib.hid (S7.out.up hb)
      clear hb S7
      go_wp2_with fail
      go_ret
      exact ⟨rfl, S8.out.1⟩
  · have hne : (E != 0) = true := by simp [hE0]
    go_wp2_with fail
    refine (HAL.out z).mono ?_
    rintro _ w8 ⟨rfl, hb⟩
    have S8 := Lib.hid (S5.out.up hb)
    clear hb S5
    go_wp2_with fail
    go_ret
    exact ⟨rfl, S8.out.1⟩
end Go.Proofs.YthglciccejholaaDoor.R5
end
section
/- What the library's listed table gives the walks, and a world in which it lies. -/
namespace Go.Proofs.YthglciccejholaaDoor
open Go.ChangeShapes Go.WideShapes Go.ChangeAt Go.RowKit R5
set_option linter.unusedVariables false
abbrev lst : List (String × DataW Unit) := [("math/bits.deBruijn64tab", Rows.laid_math_bits_deBruijn64tab)]
theorem gTab : Tryd.prog.globalNamed "math/bits.deBruijn64tab" = some 0 := by kernel_rfl
theorem gTabT : (Tryd.prog.globals[0]?).map (·.type) = some 177 := by kernel_rfl
theorem cells5t : Tryd.prog.cellsOf 5 = 1 := by kernel_rfl
theorem cells177 : Tryd.prog.cellsOf 177 = 64 := by kernel_rfl
theorem tab_met (os : Os) (args : Array Value) : laidMetH Tryd.prog lst ((World.doorLaid Tryd.prog 14 os).forCall (fun _ _ => 0) ⟨#[], args, []⟩).memory :=
  laidMetH_of_parts3 (fuel := 8) (laidMet_of_run' 8 (by kernel_rfl) (by kernel_rfl)) (by kernel_rfl) (by kernel_rfl)
theorem tab_of {W : World} (h : laidMetH Tryd.prog lst W) : Tb W ∧ 0 < W.heap.size := by
  rw [MakeChecks.laidMetH_plain _ _ _ (by kernel_rfl)] at h
  have hL : laidMet Tryd.prog (("math/bits.deBruijn64tab", Lib.tabData .u8 (Lib.deBruijn64tab.map fun n : Nat => (n : Int))) :: []) W := h
  have hT := Lib.tabIs_of_head gTab gTabT Tryd.underlying177 Tryd.underlying5 cells5t cells177 hL
  have key : Tb W := fun j hj => by
    rw [hT.cell gTab j (by simpa using hj)]
    congr 2
    simp [List.getD, List.getElem?_map, List.getElem?_eq_getElem hj]
  refine ⟨key, ?_⟩
  have h0 := key 0 (by decide)
  exact World.block_lt_of_cell? W ⟨0, 0, none⟩ h0
end Go.Proofs.YthglciccejholaaDoor
end
