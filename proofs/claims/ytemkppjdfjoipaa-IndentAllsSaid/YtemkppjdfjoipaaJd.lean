/- Package indent. -/
import Derived.Test.YtemkppjdfjoipaaProg
import Derived.Test.YtemkppjdfjoipaaJc
import Derived.Great.BuildSlice
import Derived.WalkKit
import Derived.Maps.OwnSet
import Derived.Maps.OwnOps
import Derived.Maps.Own
import Derived.DeepKeys5
import Derived.BigFrame
import Derived.WalkMore
import Derived.ScopeJumps
import Derived.StillTailTactics
import Derived.Stop.BytesEq
import Derived.WalkLawsBesides
import Derived.WalkSpells
import Derived.Outline
import Derived.Lib.Walk
import Derived.Lib.Hide
import Derived.Lib.Slices
import Derived.Lib.Strings
import Derived.RegionTactic
import Derived.LoopTactic
import Derived.Below
import Derived.IntWalk
import Derived.Deep.QuietTactic
import Derived.BigQuiet
import Derived.Deep.MidRow
import Derived.Maps.AppendAt
import Derived.Laws.Rows
import Derived.Laws.Tables
import Derived.Deep.WholeRow
import Derived.Deep.Cut
import Derived.Deep.CutRange
import Derived.Lib.SliceRun
import Derived.Laws.MakeOwn
import Derived.Deep.RegionLaw
import Derived.Deep.RegionLawGrows
import Derived.Deep.RegionHeld3
import Derived.RegionCalls
import Derived.Deep.RegionWith
import Derived.Deep.Light
import Derived.Laws.CopyOwn
import Derived.Laws.ResultCell
namespace Go.Proofs.Ytemkppjdfjoipaa.I1
set_option linter.unusedSimpArgs false
set_option linter.unusedVariables false
set_option maxRecDepth 100000
open Go.RowKit
/- The document's Step. -/
theorem It.base {B C : Nat} {w : World} {x : It} (h : x.lies B w) (hc : C ≤ B) : x.lies C w := by
  cases x with
  | box b o => exact ⟨Nat.le_trans hc h.1, h.2⟩
  | row v e size n xs => exact row_base h hc
theorem Sep.join {B : Nat} {w0 w w' : World} {L M : List It} (h : Sep B w0 w L) (h2 : Sep w.heap.size w w' M) : Sep B w0 w' (M ++ L) := by
  refine ⟨h.bel.trans (h2.bel.mono h.sz), Nat.le_trans h.sz h2.bel.size, fun x hx => ?_, List.pairwise_append.2 ⟨h2.ap, h.ap, fun x hx y hy b hb hyb => ?_⟩⟩
  · rcases List.mem_append.1 hx with hx | hx
    · exact It.base (h2.li x hx) h.sz
    · exact (h.up h2.bel).li x hx
  · have h3 := (It.lt (h2.li x hx) hb).1
    have h4 := (It.lt (h.li y hy) hyb).2
    omega
set_option maxHeartbeats 64000000 in
theorem rstep_any {B : Nat} {D : Nat → Prop} {w0 w : World} {m : Mk} {k n lk : Int} {s : ByteArray} {p : Option Addr} {c : Nat} {X : List It} (hl : m.cols.length ≤ 9223372036854775806) (hss : s.size ≤ 9223372036854775806) (hD : ∀ b, D b → b < w.heap.size) (hiv : IV D w m.cols (.slice p m.cols.length c)) (hs : Sep B w0 w X) :
    Calls Try.prog 32 #[.agg (mkA (.slice p m.cols.length c) m), .string s, .agg (rwV k n lk)] w (StepP B w0 X (stQ m s k n)) := by
  obtain ⟨R, hR⟩ : ∃ R, stQ m s k n = R := ⟨_, rfl⟩
  rw [hR]
  have HR := Lib.hid hR
  clear hR
  have HMB := Lib.hid (fun (y : World) (h1 : ∀ b, D b → b < y.heap.size) (h2 : IV D y m.cols (.slice p m.cols.length c)) => may33_any hl h1 h2)
  have HCP := Lib.hid (fun (y : World) (h0 : May m) (h1 : ∀ b, D b → b < y.heap.size) (h2 : IV D y m.cols (.slice p m.cols.length c)) => copy_any h0.ne (by have := h0.len; omega) h1 h2 (Sep.start y))
  have HBK := Lib.hid (fun (y : World) (h0 : May m) (h1 : ∀ b, D b → b < y.heap.size) (h2 : IV D y m.cols (.slice p m.cols.length c)) => block_any ⟨h0.ne, h0.h0, h0.up, h0.top⟩ h0.c0 h0.len h1 h2 (Sep.start y))
  obtain ⟨bb, hbb⟩ : ∃ b, mayB m = b := ⟨_, rfl⟩
  rw [hbb] at HMB
  have HMAY := Lib.hid hbb
  clear hbb
  obtain ⟨cols, o, kk, fr, ld⟩ := m
  unfold mkA at HMB HCP HBK
  unfold mkA rwV
  simp only [] at hiv hl HMB HCP HBK ⊢
  have hz := zero24
  have S3 := Lib.hid (hs.boxes3 (.cells #[.slice p cols.length c, .int .i64 o, .int .i64 kk, .bool fr, .int .i64 ld] 36) (.cells #[.int .i64 k, .int .i64 n, .int .i64 lk] 38) (.cells zA 36))
  have hb3 : Below w.heap.size w (((w.alloc (.cells #[.slice p cols.length c, .int .i64 o, .int .i64 kk, .bool fr, .int .i64 ld] 36)).alloc (.cells #[.int .i64 k, .int .i64 n, .int .i64 lk] 38)).alloc (.cells zA 36)) := ((((Below.refl w.heap.size w).alloc (Nat.le_refl _) _).alloc (by simp) _).alloc (by simp; omega) _)
  have HIV := Lib.hid (fun (z : World) (hz : Below w.heap.size w z) => And.intro (hiv.mono (D := D) (E := D) (w' := z) (fun b h => h) (fun b hb _ => hz.block b (hD b hb))) (fun b hb => Nat.lt_of_lt_of_le (hD b hb) hz.size : ∀ b, D b → b < z.heap.size))
  have HB3 := Lib.hid hb3
  obtain ⟨bm, hbm⟩ : ∃ b, w.heap.size = b := ⟨_, rfl⟩
  rw [hbm] at S3
  have HBM := Lib.hid hbm
  clear hs hb3 hiv hD
  go_enter Try.func32, Try.ntmps32
  go_upto_region 1 with fail
  refine at_world (fun y => Sep B w0 y (bxM (bm + 1 + 1) zA :: bxR (bm + 1) #[.int .i64 k, .int .i64 n, .int .i64 lk] :: bxM bm #[.slice p cols.length c, .int .i64 o, .int .i64 kk, .bool fr, .int .i64 ld] :: X) ∧ Below w.heap.size w y) ⟨S3.out, HB3.out⟩ fun y hy => ?_
  have S4 := Lib.hid hy.1
  have HB := Lib.hid hy.2
  clear S3 hy hbm
  have c0 : y.cell? ⟨bm, 0, none⟩ = some (.slice p cols.length c) := S4.out.tl.tl.boxAt 0
  have c1 : y.cell? ⟨bm, 1, none⟩ = some (.int .i64 o) := S4.out.tl.tl.boxAt 1
  have c2 : y.cell? ⟨bm, 2, none⟩ = some (.int .i64 kk) := S4.out.tl.tl.boxAt 2
  have c3 : y.cell? ⟨bm, 3, none⟩ = some (.bool fr) := S4.out.tl.tl.boxAt 3
  have c4 : y.cell? ⟨bm, 4, none⟩ = some (.int .i64 ld) := S4.out.tl.tl.boxAt 4
  go_wp2_with fail
  refine (HMB.out _ (HIV.out y HB.out).2 (HIV.out y HB.out).1).mono ?_
  rintro _ w1 ⟨rfl, hb⟩
  have S5 := Lib.hid (S4.out.up hb)
  have HB1 := Lib.hid (HB.out.trans (hb.mono HB.out.size))
  clear hb S4 HB HMB c0 c1 c2 c3 c4
  cases bb with
  | false =>
    have HRES : Hid (R = (⟨[], 0, 0, false, 0⟩, [])) := Lib.hid (by rw [← HR.out]; unfold stQ; rw [if_neg (by rw [HMAY.out]; simp)])
    clear HR
    have z0 : w1.cell? ⟨bm + 1 + 1, 0, none⟩ = some (.slice none 0 0) := S5.out.boxAt 0
    have z1 : w1.cell? ⟨bm + 1 + 1, 1, none⟩ = some (.int .i64 0) := S5.out.boxAt 1
    have z2 : w1.cell? ⟨bm + 1 + 1, 2, none⟩ = some (.int .i64 0) := S5.out.boxAt 2
    have z3 : w1.cell? ⟨bm + 1 + 1, 3, none⟩ = some (.bool false) := S5.out.boxAt 3
    have z4 : w1.cell? ⟨bm + 1 + 1, 4, none⟩ = some (.int .i64 0) := S5.out.boxAt 4
    have zf0 : w1.frozen? ⟨bm + 1 + 1, 0, none⟩ = false := S5.out.fz 0
    have zf1 : w1.frozen? ⟨bm + 1 + 1, 1, none⟩ = false := S5.out.fz 1
    have zf2 : w1.frozen? ⟨bm + 1 + 1, 2, none⟩ = false := S5.out.fz 2
    have zf3 : w1.frozen? ⟨bm + 1 + 1, 3, none⟩ = false := S5.out.fz 3
    have zf4 : w1.frozen? ⟨bm + 1 + 1, 4, none⟩ = false := S5.out.fz 4
    have SZ := Lib.hid ((((((S5.out.setAt [] 0 (.slice none 0 0)).setAt [] 1 (.int .i64 0)).setAt [] 2 (.int .i64 0)).setAt [] 3 (.bool false)).setAt [] 4 (.int .i64 0)))
    clear S5
    go_wp2_with fail
    have e := HRES.out
    subst e
    refine bodyPost_ret (results_mt rfl _ _ (bm + 1 + 1) _ rfl SZ.out.at.2 rfl) rfl ?_
    exact ⟨_, _, rfl, ((SZ.out.sub (.cons _ (.cons _ (.cons _ (.refl _))))).none_ 3 1).none_ 40 3⟩
  | true =>
  have hm := mayB_may HMAY.out
  have hl0 := hm.l0
  have hl1 := hm.l1
  have ho0 := hm.o0
  have ho1 := hm.o1
  have hc0 := hm.c0
  have hc1 := hm.c1
  have hln := hm.len
  simp only [] at hl0 hl1 ho0 ho1 hc0 hc1 hln
  clear hm
  have r0 : w1.cell? ⟨bm + 1, 0, none⟩ = some (.int .i64 k) := S5.out.tl.boxAt 0
  have r1 : w1.cell? ⟨bm + 1, 1, none⟩ = some (.int .i64 n) := S5.out.tl.boxAt 1
  have r2 : w1.cell? ⟨bm + 1, 2, none⟩ = some (.int .i64 lk) := S5.out.tl.boxAt 2
  have c4 : w1.cell? ⟨bm, 4, none⟩ = some (.int .i64 ld) := S5.out.tl.tl.boxAt 4
  have hwl : IntKind.i64.wrap (65536 - ld) = 65536 - ld := IntWalk.i64_in (65536 - ld) (by omega)
  by_cases hn1 : n < 1
  · skip
    have HRES : Hid (R = (⟨[], 0, 0, false, 0⟩, [])) := Lib.hid (by rw [← HR.out]; unfold stQ; rw [if_neg (by unfold madeB; simp; omega)])
    clear HR
    have z0 : w1.cell? ⟨bm + 1 + 1, 0, none⟩ = some (.slice none 0 0) := S5.out.boxAt 0
    have z1 : w1.cell? ⟨bm + 1 + 1, 1, none⟩ = some (.int .i64 0) := S5.out.boxAt 1
    have z2 : w1.cell? ⟨bm + 1 + 1, 2, none⟩ = some (.int .i64 0) := S5.out.boxAt 2
    have z3 : w1.cell? ⟨bm + 1 + 1, 3, none⟩ = some (.bool false) := S5.out.boxAt 3
    have z4 : w1.cell? ⟨bm + 1 + 1, 4, none⟩ = some (.int .i64 0) := S5.out.boxAt 4
    have zf0 : w1.frozen? ⟨bm + 1 + 1, 0, none⟩ = false := S5.out.fz 0
    have zf1 : w1.frozen? ⟨bm + 1 + 1, 1, none⟩ = false := S5.out.fz 1
    have zf2 : w1.frozen? ⟨bm + 1 + 1, 2, none⟩ = false := S5.out.fz 2
    have zf3 : w1.frozen? ⟨bm + 1 + 1, 3, none⟩ = false := S5.out.fz 3
    have zf4 : w1.frozen? ⟨bm + 1 + 1, 4, none⟩ = false := S5.out.fz 4
    have SZ := Lib.hid ((((((S5.out.setAt [] 0 (.slice none 0 0)).setAt [] 1 (.int .i64 0)).setAt [] 2 (.int .i64 0)).setAt [] 3 (.bool false)).setAt [] 4 (.int .i64 0)))
    clear S5
    go_wp2_with fail
    have e := HRES.out
    subst e
    refine bodyPost_ret (results_mt rfl _ _ (bm + 1 + 1) _ rfl SZ.out.at.2 rfl) rfl ?_
    exact ⟨_, _, rfl, ((SZ.out.sub (.cons _ (.cons _ (.cons _ (.refl _))))).none_ 3 1).none_ 40 3⟩
  by_cases hn2 : (s.size : Int) = n
  case neg =>
    have hn2I : ((s.size : Int) != n) = true := by simpa using hn2
    have HRES : Hid (R = (⟨[], 0, 0, false, 0⟩, [])) := Lib.hid (by rw [← HR.out]; unfold stQ; rw [if_neg (by unfold madeB; simp; omega)])
    clear HR
    have z0 : w1.cell? ⟨bm + 1 + 1, 0, none⟩ = some (.slice none 0 0) := S5.out.boxAt 0
    have z1 : w1.cell? ⟨bm + 1 + 1, 1, none⟩ = some (.int .i64 0) := S5.out.boxAt 1
    have z2 : w1.cell? ⟨bm + 1 + 1, 2, none⟩ = some (.int .i64 0) := S5.out.boxAt 2
    have z3 : w1.cell? ⟨bm + 1 + 1, 3, none⟩ = some (.bool false) := S5.out.boxAt 3
    have z4 : w1.cell? ⟨bm + 1 + 1, 4, none⟩ = some (.int .i64 0) := S5.out.boxAt 4
    have zf0 : w1.frozen? ⟨bm + 1 + 1, 0, none⟩ = false := S5.out.fz 0
    have zf1 : w1.frozen? ⟨bm + 1 + 1, 1, none⟩ = false := S5.out.fz 1
    have zf2 : w1.frozen? ⟨bm + 1 + 1, 2, none⟩ = false := S5.out.fz 2
    have zf3 : w1.frozen? ⟨bm + 1 + 1, 3, none⟩ = false := S5.out.fz 3
    have zf4 : w1.frozen? ⟨bm + 1 + 1, 4, none⟩ = false := S5.out.fz 4
    have SZ := Lib.hid ((((((S5.out.setAt [] 0 (.slice none 0 0)).setAt [] 1 (.int .i64 0)).setAt [] 2 (.int .i64 0)).setAt [] 3 (.bool false)).setAt [] 4 (.int .i64 0)))
    clear S5
    go_wp2_with fail
    have e := HRES.out
    subst e
    refine bodyPost_ret (results_mt rfl _ _ (bm + 1 + 1) _ rfl SZ.out.at.2 rfl) rfl ?_
    exact ⟨_, _, rfl, ((SZ.out.sub (.cons _ (.cons _ (.cons _ (.refl _))))).none_ 3 1).none_ 40 3⟩
  have hn2I : ((s.size : Int) != n) = false := by simpa using hn2
  by_cases hn3 : 65536 - ld < n
  · skip
    have HRES : Hid (R = (⟨[], 0, 0, false, 0⟩, [])) := Lib.hid (by rw [← HR.out]; unfold stQ; rw [if_neg (by unfold madeB; simp; omega)])
    clear HR
    have z0 : w1.cell? ⟨bm + 1 + 1, 0, none⟩ = some (.slice none 0 0) := S5.out.boxAt 0
    have z1 : w1.cell? ⟨bm + 1 + 1, 1, none⟩ = some (.int .i64 0) := S5.out.boxAt 1
    have z2 : w1.cell? ⟨bm + 1 + 1, 2, none⟩ = some (.int .i64 0) := S5.out.boxAt 2
    have z3 : w1.cell? ⟨bm + 1 + 1, 3, none⟩ = some (.bool false) := S5.out.boxAt 3
    have z4 : w1.cell? ⟨bm + 1 + 1, 4, none⟩ = some (.int .i64 0) := S5.out.boxAt 4
    have zf0 : w1.frozen? ⟨bm + 1 + 1, 0, none⟩ = false := S5.out.fz 0
    have zf1 : w1.frozen? ⟨bm + 1 + 1, 1, none⟩ = false := S5.out.fz 1
    have zf2 : w1.frozen? ⟨bm + 1 + 1, 2, none⟩ = false := S5.out.fz 2
    have zf3 : w1.frozen? ⟨bm + 1 + 1, 3, none⟩ = false := S5.out.fz 3
    have zf4 : w1.frozen? ⟨bm + 1 + 1, 4, none⟩ = false := S5.out.fz 4
    have SZ := Lib.hid ((((((S5.out.setAt [] 0 (.slice none 0 0)).setAt [] 1 (.int .i64 0)).setAt [] 2 (.int .i64 0)).setAt [] 3 (.bool false)).setAt [] 4 (.int .i64 0)))
    clear S5
    go_wp2_with fail
    have e := HRES.out
    subst e
    refine bodyPost_ret (results_mt rfl _ _ (bm + 1 + 1) _ rfl SZ.out.at.2 rfl) rfl ?_
    exact ⟨_, _, rfl, ((SZ.out.sub (.cons _ (.cons _ (.cons _ (.refl _))))).none_ 3 1).none_ 40 3⟩
  have HRES0 : Hid (R = stepF ⟨cols, o, kk, fr, ld⟩ (bl s) k n) := Lib.hid (by rw [← HR.out]; unfold stQ; rw [if_pos ⟨HMAY.out, by unfold madeB; simp; omega⟩])
  have HSS : Hid (s.size ≤ 65536) := Lib.hid (by omega)
  have hadd : IntKind.i64.wrap (ld + n) = ld + n := IntWalk.i64_in (ld + n) (by omega)
  clear HR
  go_upto_region 3 with fail
  clear r0 r1 r2 c4
  have c0 : w1.cell? ⟨bm, 0, none⟩ = some (.slice p cols.length c) := S5.out.tl.tl.boxAt 0
  have c1 : w1.cell? ⟨bm, 1, none⟩ = some (.int .i64 o) := S5.out.tl.tl.boxAt 1
  have c2 : w1.cell? ⟨bm, 2, none⟩ = some (.int .i64 kk) := S5.out.tl.tl.boxAt 2
  have c3 : w1.cell? ⟨bm, 3, none⟩ = some (.bool fr) := S5.out.tl.tl.boxAt 3
  have c4 : w1.cell? ⟨bm, 4, none⟩ = some (.int .i64 ld) := S5.out.tl.tl.boxAt 4
  go_wp2_with fail
  refine (HCP.out w1 (mayB_may HMAY.out) (HIV.out w1 HB1.out).2 (HIV.out w1 HB1.out).1).mono ?_
  rintro _ w2 ⟨v2, rfl, hs2⟩
  obtain ⟨p2, cp2, rfl⟩ := row_form hs2.at
  unfold mkA
  simp only [] at hs2 ⊢
  obtain ⟨b8, hb8⟩ : ∃ b, w2.heap.size = b := ⟨_, rfl⟩
  have S6 := Lib.hid (((S5.out.join hs2).perm (List.perm_middle (l₁ := [_, _, _]) (l₂ := X)).symm).allocAt hb8 (.cells #[.slice p2 cols.length cp2, .int .i64 o, .int .i64 kk, .bool fr, .int .i64 ld] 36))
  have HG : Hid (Below w.heap.size w w2) := Lib.hid (HB1.out.trans (hs2.bel.mono HB1.out.size))
  clear hs2 S5 HCP c0 c1 c2 c3 c4
  
  go_upto_region 4 with fail
  refine at_world (fun y => Sep B w0 y (bxM b8 #[.slice p2 cols.length cp2, .int .i64 o, .int .i64 kk, .bool fr, .int .i64 ld] :: bxM (bm + 1 + 1) zA :: bxR (bm + 1) #[.int .i64 k, .int .i64 n, .int .i64 lk] :: bxM bm #[.slice p cols.length c, .int .i64 o, .int .i64 kk, .bool fr, .int .i64 ld] :: rI (.slice p2 cols.length cp2) cols :: X) ∧ Below w.heap.size w y) ⟨S6.out, HG.out.alloc HG.out.size _⟩ fun y4 hy4 => ?_
  have S7 := Lib.hid hy4.1
  have HG4 := Lib.hid hy4.2
  clear S6 HG hy4 hb8
  by_cases h25 : k = 25
  · subst h25
    have q0 : y4.cell? ⟨bm + 1, 0, none⟩ = some (.int .i64 25) := S7.out.tl.tl.boxAt 0
    go_upto_region 5 with fail
    clear q0
    have r1 : y4.cell? ⟨bm + 1, 1, none⟩ = some (.int .i64 n) := S7.out.tl.tl.boxAt 1
    have m4 : y4.cell? ⟨bm, 4, none⟩ = some (.int .i64 ld) := S7.out.tl.tl.tl.boxAt 4
    have s4 : y4.cell? ⟨b8, 4, none⟩ = some (.int .i64 ld) := S7.out.boxAt 4
    have sf4 : y4.frozen? ⟨b8, 4, none⟩ = false := S7.out.fz 4
    go_upto_region 6 with fail
    refine at_world (fun y => Sep B w0 y (bxM b8 #[.slice p2 cols.length cp2, .int .i64 o, .int .i64 kk, .bool fr, .int .i64 (ld + n)] :: bxM (bm + 1 + 1) zA :: bxR (bm + 1) #[.int .i64 25, .int .i64 n, .int .i64 lk] :: bxM bm #[.slice p cols.length c, .int .i64 o, .int .i64 kk, .bool fr, .int .i64 ld] :: rI (.slice p2 cols.length cp2) cols :: X)) (S7.out.setAt [] 4 (.int .i64 (ld + n))) fun y5 hy5 => ?_
    have S8 := Lib.hid hy5
    clear hy5 S7 s4 sf4
    clear r1 m4
    cases fr with
    | false =>
      have HRES : Hid (R = (⟨cols, o, kk, false, ld + n⟩, [])) := Lib.hid (by rw [HRES0.out]; unfold stepF begF; rw [if_pos rfl, if_neg (by simp)])
      have m3 : y5.cell? ⟨bm, 3, none⟩ = some (.bool false) := S8.out.tl.tl.tl.boxAt 3
      go_upto_region 8 with fail
      clear m3
      have a0 : y5.cell? ⟨b8, 0, none⟩ = some (.slice p2 cols.length cp2) := S8.out.boxAt 0
      have a1 : y5.cell? ⟨b8, 1, none⟩ = some (.int .i64 o) := S8.out.boxAt 1
      have a2 : y5.cell? ⟨b8, 2, none⟩ = some (.int .i64 kk) := S8.out.boxAt 2
      have a3 : y5.cell? ⟨b8, 3, none⟩ = some (.bool false) := S8.out.boxAt 3
      have a4 : y5.cell? ⟨b8, 4, none⟩ = some (.int .i64 (ld + n)) := S8.out.boxAt 4
      have z0 : y5.cell? ⟨bm + 1 + 1, 0, none⟩ = some (.slice none 0 0) := S8.out.tl.boxAt 0
      have z1 : y5.cell? ⟨bm + 1 + 1, 1, none⟩ = some (.int .i64 0) := S8.out.tl.boxAt 1
      have z2 : y5.cell? ⟨bm + 1 + 1, 2, none⟩ = some (.int .i64 0) := S8.out.tl.boxAt 2
      have z3 : y5.cell? ⟨bm + 1 + 1, 3, none⟩ = some (.bool false) := S8.out.tl.boxAt 3
      have z4 : y5.cell? ⟨bm + 1 + 1, 4, none⟩ = some (.int .i64 0) := S8.out.tl.boxAt 4
      have zf0 : y5.frozen? ⟨bm + 1 + 1, 0, none⟩ = false := S8.out.tl.fz 0
      have zf1 : y5.frozen? ⟨bm + 1 + 1, 1, none⟩ = false := S8.out.tl.fz 1
      have zf2 : y5.frozen? ⟨bm + 1 + 1, 2, none⟩ = false := S8.out.tl.fz 2
      have zf3 : y5.frozen? ⟨bm + 1 + 1, 3, none⟩ = false := S8.out.tl.fz 3
      have zf4 : y5.frozen? ⟨bm + 1 + 1, 4, none⟩ = false := S8.out.tl.fz 4
      have SZ := Lib.hid ((((((S8.out.setAt [_] 0 (.slice p2 cols.length cp2)).setAt [_] 1 (.int .i64 o)).setAt [_] 2 (.int .i64 kk)).setAt [_] 3 (.bool false)).setAt [_] 4 (.int .i64 (ld + n))))
      clear S8
      go_wp2_with fail
      have e := HRES.out
      subst e
      refine bodyPost_ret (results_mt rfl _ _ (bm + 1 + 1) _ rfl SZ.out.tl.at.2 rfl) rfl ?_
      exact ⟨_, _, rfl, (SZ.out.sub (.cons _ (.cons _ (.cons _ (.cons _ (.refl _)))))).none_ 40 3⟩
    | true =>
      have m1 : y5.cell? ⟨bm, 1, none⟩ = some (.int .i64 o) := S8.out.tl.tl.tl.boxAt 1
      have m2 : y5.cell? ⟨bm, 2, none⟩ = some (.int .i64 kk) := S8.out.tl.tl.tl.boxAt 2
      have m3 : y5.cell? ⟨bm, 3, none⟩ = some (.bool true) := S8.out.tl.tl.tl.boxAt 3
      by_cases ho : o = 0
      case neg =>
        have hoI : (o == 0) = false := by simpa using ho
        have HRES : Hid (R = (⟨cols, o, kk, true, ld + n⟩, [])) := Lib.hid (by rw [HRES0.out]; unfold stepF begF; rw [if_pos rfl, if_neg (by simp [ho])])
        go_upto_region 8 with fail
        clear m1 m2 m3
        have a0 : y5.cell? ⟨b8, 0, none⟩ = some (.slice p2 cols.length cp2) := S8.out.boxAt 0
        have a1 : y5.cell? ⟨b8, 1, none⟩ = some (.int .i64 o) := S8.out.boxAt 1
        have a2 : y5.cell? ⟨b8, 2, none⟩ = some (.int .i64 kk) := S8.out.boxAt 2
        have a3 : y5.cell? ⟨b8, 3, none⟩ = some (.bool true) := S8.out.boxAt 3
        have a4 : y5.cell? ⟨b8, 4, none⟩ = some (.int .i64 (ld + n)) := S8.out.boxAt 4
        have z0 : y5.cell? ⟨bm + 1 + 1, 0, none⟩ = some (.slice none 0 0) := S8.out.tl.boxAt 0
        have z1 : y5.cell? ⟨bm + 1 + 1, 1, none⟩ = some (.int .i64 0) := S8.out.tl.boxAt 1
        have z2 : y5.cell? ⟨bm + 1 + 1, 2, none⟩ = some (.int .i64 0) := S8.out.tl.boxAt 2
        have z3 : y5.cell? ⟨bm + 1 + 1, 3, none⟩ = some (.bool false) := S8.out.tl.boxAt 3
        have z4 : y5.cell? ⟨bm + 1 + 1, 4, none⟩ = some (.int .i64 0) := S8.out.tl.boxAt 4
        have zf0 : y5.frozen? ⟨bm + 1 + 1, 0, none⟩ = false := S8.out.tl.fz 0
        have zf1 : y5.frozen? ⟨bm + 1 + 1, 1, none⟩ = false := S8.out.tl.fz 1
        have zf2 : y5.frozen? ⟨bm + 1 + 1, 2, none⟩ = false := S8.out.tl.fz 2
        have zf3 : y5.frozen? ⟨bm + 1 + 1, 3, none⟩ = false := S8.out.tl.fz 3
        have zf4 : y5.frozen? ⟨bm + 1 + 1, 4, none⟩ = false := S8.out.tl.fz 4
        have SZ := Lib.hid ((((((S8.out.setAt [_] 0 (.slice p2 cols.length cp2)).setAt [_] 1 (.int .i64 o)).setAt [_] 2 (.int .i64 kk)).setAt [_] 3 (.bool true)).setAt [_] 4 (.int .i64 (ld + n))))
        clear S8
        go_wp2_with fail
        have e := HRES.out
        subst e
        refine bodyPost_ret (results_mt rfl _ _ (bm + 1 + 1) _ rfl SZ.out.tl.at.2 rfl) rfl ?_
        exact ⟨_, _, rfl, (SZ.out.sub (.cons _ (.cons _ (.cons _ (.cons _ (.refl _)))))).none_ 40 3⟩
      have hoI : (o == 0) = true := by simpa using ho
      have HRES : Hid (R = (⟨cols, o, colC kk (bl s), true, ld + n⟩, [])) := Lib.hid (by rw [HRES0.out]; unfold stepF begF; rw [if_pos rfl, if_pos (by simp [ho])])
      clear ho
      obtain ⟨cv, hcv⟩ : ∃ cv, colC kk (bl s) = cv := ⟨_, rfl⟩
      have HCO := Lib.hid (lead_any (w := y5) (c := kk) (s := s) hc0 hc1 HSS.out)
      rw [hcv] at HCO HRES
      clear hcv
      go_wp2_with fail
      refine HCO.out.mono ?_
      rintro _ yq ⟨rfl, hyq⟩
      rw [hyq]
      clear HCO m1 m2 m3 hyq
      have s2 : y5.cell? ⟨b8, 2, none⟩ = some (.int .i64 kk) := S8.out.boxAt 2
      have sf2 : y5.frozen? ⟨b8, 2, none⟩ = false := S8.out.fz 2
      go_upto_region 8 with fail
      refine at_world (fun y => Sep B w0 y (bxM b8 #[.slice p2 cols.length cp2, .int .i64 o, .int .i64 cv, .bool true, .int .i64 (ld + n)] :: bxM (bm + 1 + 1) zA :: bxR (bm + 1) #[.int .i64 25, .int .i64 n, .int .i64 lk] :: bxM bm #[.slice p cols.length c, .int .i64 o, .int .i64 kk, .bool true, .int .i64 ld] :: rI (.slice p2 cols.length cp2) cols :: X)) (S8.out.setAt [] 2 (.int .i64 cv)) fun y6 hy6 => ?_
      have S9 := Lib.hid hy6
      clear hy6 S8 s2 sf2
      have a0 : y6.cell? ⟨b8, 0, none⟩ = some (.slice p2 cols.length cp2) := S9.out.boxAt 0
      have a1 : y6.cell? ⟨b8, 1, none⟩ = some (.int .i64 o) := S9.out.boxAt 1
      have a2 : y6.cell? ⟨b8, 2, none⟩ = some (.int .i64 cv) := S9.out.boxAt 2
      have a3 : y6.cell? ⟨b8, 3, none⟩ = some (.bool true) := S9.out.boxAt 3
      have a4 : y6.cell? ⟨b8, 4, none⟩ = some (.int .i64 (ld + n)) := S9.out.boxAt 4
      have z0 : y6.cell? ⟨bm + 1 + 1, 0, none⟩ = some (.slice none 0 0) := S9.out.tl.boxAt 0
      have z1 : y6.cell? ⟨bm + 1 + 1, 1, none⟩ = some (.int .i64 0) := S9.out.tl.boxAt 1
      have z2 : y6.cell? ⟨bm + 1 + 1, 2, none⟩ = some (.int .i64 0) := S9.out.tl.boxAt 2
      have z3 : y6.cell? ⟨bm + 1 + 1, 3, none⟩ = some (.bool false) := S9.out.tl.boxAt 3
      have z4 : y6.cell? ⟨bm + 1 + 1, 4, none⟩ = some (.int .i64 0) := S9.out.tl.boxAt 4
      have zf0 : y6.frozen? ⟨bm + 1 + 1, 0, none⟩ = false := S9.out.tl.fz 0
      have zf1 : y6.frozen? ⟨bm + 1 + 1, 1, none⟩ = false := S9.out.tl.fz 1
      have zf2 : y6.frozen? ⟨bm + 1 + 1, 2, none⟩ = false := S9.out.tl.fz 2
      have zf3 : y6.frozen? ⟨bm + 1 + 1, 3, none⟩ = false := S9.out.tl.fz 3
      have zf4 : y6.frozen? ⟨bm + 1 + 1, 4, none⟩ = false := S9.out.tl.fz 4
      have SZ := Lib.hid ((((((S9.out.setAt [_] 0 (.slice p2 cols.length cp2)).setAt [_] 1 (.int .i64 o)).setAt [_] 2 (.int .i64 cv)).setAt [_] 3 (.bool true)).setAt [_] 4 (.int .i64 (ld + n))))
      clear S9
      go_wp2_with fail
      have e := HRES.out
      subst e
      refine bodyPost_ret (results_mt rfl _ _ (bm + 1 + 1) _ rfl SZ.out.tl.at.2 rfl) rfl ?_
      exact ⟨_, _, rfl, (SZ.out.sub (.cons _ (.cons _ (.cons _ (.cons _ (.refl _)))))).none_ 40 3⟩
  have hk25 : (k == 25) = false := by simpa using h25
  by_cases h26 : k = 26
  · subst h26
    have HRES : Hid (R = (⟨cols, o, kk, fr, ld + n⟩, [])) := Lib.hid (by rw [HRES0.out]; unfold stepF; rw [if_neg (by decide), if_pos (.inl rfl)])
    have q0 : y4.cell? ⟨bm + 1, 0, none⟩ = some (.int .i64 26) := S7.out.tl.tl.boxAt 0
    go_upto_region 10 with fail
    clear q0
    have r1 : y4.cell? ⟨bm + 1, 1, none⟩ = some (.int .i64 n) := S7.out.tl.tl.boxAt 1
    have m4 : y4.cell? ⟨bm, 4, none⟩ = some (.int .i64 ld) := S7.out.tl.tl.tl.boxAt 4
    have s4 : y4.cell? ⟨b8, 4, none⟩ = some (.int .i64 ld) := S7.out.boxAt 4
    have sf4 : y4.frozen? ⟨b8, 4, none⟩ = false := S7.out.fz 4
    go_upto_region 11 with fail
    refine at_world (fun y => Sep B w0 y (bxM b8 #[.slice p2 cols.length cp2, .int .i64 o, .int .i64 kk, .bool fr, .int .i64 (ld + n)] :: bxM (bm + 1 + 1) zA :: bxR (bm + 1) #[.int .i64 26, .int .i64 n, .int .i64 lk] :: bxM bm #[.slice p cols.length c, .int .i64 o, .int .i64 kk, .bool fr, .int .i64 ld] :: rI (.slice p2 cols.length cp2) cols :: X)) (S7.out.setAt [] 4 (.int .i64 (ld + n))) fun y5 hy5 => ?_
    have S8 := Lib.hid hy5
    clear hy5 S7 s4 sf4
    clear r1 m4
    have a0 : y5.cell? ⟨b8, 0, none⟩ = some (.slice p2 cols.length cp2) := S8.out.boxAt 0
    have a1 : y5.cell? ⟨b8, 1, none⟩ = some (.int .i64 o) := S8.out.boxAt 1
    have a2 : y5.cell? ⟨b8, 2, none⟩ = some (.int .i64 kk) := S8.out.boxAt 2
    have a3 : y5.cell? ⟨b8, 3, none⟩ = some (.bool fr) := S8.out.boxAt 3
    have a4 : y5.cell? ⟨b8, 4, none⟩ = some (.int .i64 (ld + n)) := S8.out.boxAt 4
    have z0 : y5.cell? ⟨bm + 1 + 1, 0, none⟩ = some (.slice none 0 0) := S8.out.tl.boxAt 0
    have z1 : y5.cell? ⟨bm + 1 + 1, 1, none⟩ = some (.int .i64 0) := S8.out.tl.boxAt 1
    have z2 : y5.cell? ⟨bm + 1 + 1, 2, none⟩ = some (.int .i64 0) := S8.out.tl.boxAt 2
    have z3 : y5.cell? ⟨bm + 1 + 1, 3, none⟩ = some (.bool false) := S8.out.tl.boxAt 3
    have z4 : y5.cell? ⟨bm + 1 + 1, 4, none⟩ = some (.int .i64 0) := S8.out.tl.boxAt 4
    have zf0 : y5.frozen? ⟨bm + 1 + 1, 0, none⟩ = false := S8.out.tl.fz 0
    have zf1 : y5.frozen? ⟨bm + 1 + 1, 1, none⟩ = false := S8.out.tl.fz 1
    have zf2 : y5.frozen? ⟨bm + 1 + 1, 2, none⟩ = false := S8.out.tl.fz 2
    have zf3 : y5.frozen? ⟨bm + 1 + 1, 3, none⟩ = false := S8.out.tl.fz 3
    have zf4 : y5.frozen? ⟨bm + 1 + 1, 4, none⟩ = false := S8.out.tl.fz 4
    have SZ := Lib.hid ((((((S8.out.setAt [_] 0 (.slice p2 cols.length cp2)).setAt [_] 1 (.int .i64 o)).setAt [_] 2 (.int .i64 kk)).setAt [_] 3 (.bool fr)).setAt [_] 4 (.int .i64 (ld + n))))
    clear S8
    go_wp2_with fail
    have e := HRES.out
    subst e
    refine bodyPost_ret (results_mt rfl _ _ (bm + 1 + 1) _ rfl SZ.out.tl.at.2 rfl) rfl ?_
    exact ⟨_, _, rfl, (SZ.out.sub (.cons _ (.cons _ (.cons _ (.cons _ (.refl _)))))).none_ 40 3⟩
  have hk26 : (k == 26) = false := by simpa using h26
  by_cases h27 : k = 27
  · subst h27
    have HRES : Hid (R = (⟨cols, o, kk, fr, ld + n⟩, [])) := Lib.hid (by rw [HRES0.out]; unfold stepF; rw [if_neg (by decide), if_pos (.inr rfl)])
    have q0 : y4.cell? ⟨bm + 1, 0, none⟩ = some (.int .i64 27) := S7.out.tl.tl.boxAt 0
    go_upto_region 10 with fail
    clear q0
    have r1 : y4.cell? ⟨bm + 1, 1, none⟩ = some (.int .i64 n) := S7.out.tl.tl.boxAt 1
    have m4 : y4.cell? ⟨bm, 4, none⟩ = some (.int .i64 ld) := S7.out.tl.tl.tl.boxAt 4
    have s4 : y4.cell? ⟨b8, 4, none⟩ = some (.int .i64 ld) := S7.out.boxAt 4
    have sf4 : y4.frozen? ⟨b8, 4, none⟩ = false := S7.out.fz 4
    go_upto_region 11 with fail
    refine at_world (fun y => Sep B w0 y (bxM b8 #[.slice p2 cols.length cp2, .int .i64 o, .int .i64 kk, .bool fr, .int .i64 (ld + n)] :: bxM (bm + 1 + 1) zA :: bxR (bm + 1) #[.int .i64 27, .int .i64 n, .int .i64 lk] :: bxM bm #[.slice p cols.length c, .int .i64 o, .int .i64 kk, .bool fr, .int .i64 ld] :: rI (.slice p2 cols.length cp2) cols :: X)) (S7.out.setAt [] 4 (.int .i64 (ld + n))) fun y5 hy5 => ?_
    have S8 := Lib.hid hy5
    clear hy5 S7 s4 sf4
    clear r1 m4
    have a0 : y5.cell? ⟨b8, 0, none⟩ = some (.slice p2 cols.length cp2) := S8.out.boxAt 0
    have a1 : y5.cell? ⟨b8, 1, none⟩ = some (.int .i64 o) := S8.out.boxAt 1
    have a2 : y5.cell? ⟨b8, 2, none⟩ = some (.int .i64 kk) := S8.out.boxAt 2
    have a3 : y5.cell? ⟨b8, 3, none⟩ = some (.bool fr) := S8.out.boxAt 3
    have a4 : y5.cell? ⟨b8, 4, none⟩ = some (.int .i64 (ld + n)) := S8.out.boxAt 4
    have z0 : y5.cell? ⟨bm + 1 + 1, 0, none⟩ = some (.slice none 0 0) := S8.out.tl.boxAt 0
    have z1 : y5.cell? ⟨bm + 1 + 1, 1, none⟩ = some (.int .i64 0) := S8.out.tl.boxAt 1
    have z2 : y5.cell? ⟨bm + 1 + 1, 2, none⟩ = some (.int .i64 0) := S8.out.tl.boxAt 2
    have z3 : y5.cell? ⟨bm + 1 + 1, 3, none⟩ = some (.bool false) := S8.out.tl.boxAt 3
    have z4 : y5.cell? ⟨bm + 1 + 1, 4, none⟩ = some (.int .i64 0) := S8.out.tl.boxAt 4
    have zf0 : y5.frozen? ⟨bm + 1 + 1, 0, none⟩ = false := S8.out.tl.fz 0
    have zf1 : y5.frozen? ⟨bm + 1 + 1, 1, none⟩ = false := S8.out.tl.fz 1
    have zf2 : y5.frozen? ⟨bm + 1 + 1, 2, none⟩ = false := S8.out.tl.fz 2
    have zf3 : y5.frozen? ⟨bm + 1 + 1, 3, none⟩ = false := S8.out.tl.fz 3
    have zf4 : y5.frozen? ⟨bm + 1 + 1, 4, none⟩ = false := S8.out.tl.fz 4
    have SZ := Lib.hid ((((((S8.out.setAt [_] 0 (.slice p2 cols.length cp2)).setAt [_] 1 (.int .i64 o)).setAt [_] 2 (.int .i64 kk)).setAt [_] 3 (.bool fr)).setAt [_] 4 (.int .i64 (ld + n))))
    clear S8
    go_wp2_with fail
    have e := HRES.out
    subst e
    refine bodyPost_ret (results_mt rfl _ _ (bm + 1 + 1) _ rfl SZ.out.tl.at.2 rfl) rfl ?_
    exact ⟨_, _, rfl, (SZ.out.sub (.cons _ (.cons _ (.cons _ (.cons _ (.refl _)))))).none_ 40 3⟩
  have hk27 : (k == 27) = false := by simpa using h27
  by_cases h19 : k = 19
  · subst h19
    have q0 : y4.cell? ⟨bm + 1, 0, none⟩ = some (.int .i64 19) := S7.out.tl.tl.boxAt 0
    have q1 : y4.cell? ⟨bm + 1, 1, none⟩ = some (.int .i64 n) := S7.out.tl.tl.boxAt 1
    cases fr with
    | false =>
      have m1 : y4.cell? ⟨bm, 1, none⟩ = some (.int .i64 o) := S7.out.tl.tl.tl.boxAt 1
      have m3 : y4.cell? ⟨bm, 3, none⟩ = some (.bool false) := S7.out.tl.tl.tl.boxAt 3
      have m4 : y4.cell? ⟨bm, 4, none⟩ = some (.int .i64 ld) := S7.out.tl.tl.tl.boxAt 4
      by_cases ho : o = 0
      · have hoI : (o == 0) = true := by simpa using ho
        have HRES : Hid (R = (⟨cols, o, 0, true, 0⟩, [(19, ld, n)])) := Lib.hid (by rw [HRES0.out]; unfold stepF; rw [if_neg (by decide), if_neg (by decide), if_pos rfl, if_pos ⟨rfl, ho⟩])
        clear ho
        go_upto_region 13 with fail
        clear q0 q1 m1 m3 m4
        have s4 : y4.cell? ⟨b8, 4, none⟩ = some (.int .i64 ld) := S7.out.boxAt 4
        have sf4 : y4.frozen? ⟨b8, 4, none⟩ = false := S7.out.fz 4
        go_upto_region 14 with fail
        refine at_world (fun y => Sep B w0 y (bxM b8 #[.slice p2 cols.length cp2, .int .i64 o, .int .i64 kk, .bool false, .int .i64 0] :: bxM (bm + 1 + 1) zA :: bxR (bm + 1) #[.int .i64 19, .int .i64 n, .int .i64 lk] :: bxM bm #[.slice p cols.length c, .int .i64 o, .int .i64 kk, .bool false, .int .i64 ld] :: rI (.slice p2 cols.length cp2) cols :: X)) (S7.out.setAt [] 4 (.int .i64 0)) fun y5 hy5 => ?_
        have S8 := Lib.hid hy5
        clear hy5 S7 s4 sf4
        have s2 : y5.cell? ⟨b8, 2, none⟩ = some (.int .i64 kk) := S8.out.boxAt 2
        have sf2 : y5.frozen? ⟨b8, 2, none⟩ = false := S8.out.fz 2
        go_upto_region 15 with fail
        refine at_world (fun y => Sep B w0 y (bxM b8 #[.slice p2 cols.length cp2, .int .i64 o, .int .i64 0, .bool false, .int .i64 0] :: bxM (bm + 1 + 1) zA :: bxR (bm + 1) #[.int .i64 19, .int .i64 n, .int .i64 lk] :: bxM bm #[.slice p cols.length c, .int .i64 o, .int .i64 kk, .bool false, .int .i64 ld] :: rI (.slice p2 cols.length cp2) cols :: X)) (S8.out.setAt [] 2 (.int .i64 0)) fun y6 hy6 => ?_
        have S9 := Lib.hid hy6
        clear hy6 S8 s2 sf2
        have s3 : y6.cell? ⟨b8, 3, none⟩ = some (.bool false) := S9.out.boxAt 3
        have sf3 : y6.frozen? ⟨b8, 3, none⟩ = false := S9.out.fz 3
        go_upto_region 16 with fail
        refine at_world (fun y => Sep B w0 y (bxM b8 #[.slice p2 cols.length cp2, .int .i64 o, .int .i64 0, .bool true, .int .i64 0] :: bxM (bm + 1 + 1) zA :: bxR (bm + 1) #[.int .i64 19, .int .i64 n, .int .i64 lk] :: bxM bm #[.slice p cols.length c, .int .i64 o, .int .i64 kk, .bool false, .int .i64 ld] :: rI (.slice p2 cols.length cp2) cols :: X)) (S9.out.setAt [] 3 (.bool true)) fun y7 hy7 => ?_
        have SA := Lib.hid hy7
        clear hy7 S9 s3 sf3
        have SB := Lib.hid SA.out.drew
        have HS3 := Lib.hid (And.intro SB.out.at.2 (And.intro SB.out.tl.tl.tl.at.2 SB.out.tl.tl.at.2))
        obtain ⟨b9, hb9⟩ : ∃ b, y7.drew.heap.size = b := ⟨_, rfl⟩
        have SC := Lib.hid (SB.out.allocAt hb9 (.cells #[.int .i64 19, .int .i64 ld, .int .i64 n] 40))
        have hb9' : y7.heap.size = b9 := hb9
        clear SA
        refine wp_region_held_drew (S := fun v => v.heap[b8]? = some (.cells #[.slice p2 cols.length cp2, .int .i64 o, .int .i64 0, .bool true, .int .i64 0] 36 (0, 0)) ∧ v.heap[bm]? = some (.cells #[.slice p cols.length c, .int .i64 o, .int .i64 kk, .bool false, .int .i64 ld] 36 (0, 0)) ∧ v.heap[bm + 1]? = some (.cells #[.int .i64 19, .int .i64 n, .int .i64 lk] 38 (0, 0))) (by kernel_rfl) HS3.out (fun hHeld => ?_)
        refine wpAnyH_take (i := 0) (v := (.agg #[.slice p2 cols.length cp2, .int .i64 o, .int .i64 0, .bool true, .int .i64 0])) rfl (by kernel_rfl) (by kernel_rfl) (by kernel_rfl) (fun _ _ _ h => h) (Or.inl ⟨by rfl, by (intro w hSw; have q0 : w.cell? ⟨b8, 0, none⟩ = some (.slice p2 cols.length cp2) := cell_of_row w b8 0 _ 36 (0, 0) hSw.1; have q1 : w.cell? ⟨b8, 1, none⟩ = some (.int .i64 o) := cell_of_row w b8 1 _ 36 (0, 0) hSw.1; have q2 : w.cell? ⟨b8, 2, none⟩ = some (.int .i64 0) := cell_of_row w b8 2 _ 36 (0, 0) hSw.1; have q3 : w.cell? ⟨b8, 3, none⟩ = some (.bool true) := cell_of_row w b8 3 _ 36 (0, 0) hSw.1; have q4 : w.cell? ⟨b8, 4, none⟩ = some (.int .i64 0) := cell_of_row w b8 4 _ 36 (0, 0) hSw.1; go_simp)⟩) hHeld ?_
        (try simp only [Act.put, List.getElem_toArray, List.getElem_cons_zero, List.getElem_cons_succ, List.setIfInBounds_toArray, List.set_cons_zero, List.set_cons_succ])
        refine wpAnyH_take (i := 1) (v := (.pointer (some ⟨bm, 4, none⟩))) rfl (by kernel_rfl) (by kernel_rfl) (by kernel_rfl) (fun _ _ _ h => h) (Or.inl ⟨by rfl, by (intro w hSw; (try dsimp only at hSw); go_simp)⟩) hHeld ?_
        (try simp only [Act.put, List.getElem_toArray, List.getElem_cons_zero, List.getElem_cons_succ, List.setIfInBounds_toArray, List.set_cons_zero, List.set_cons_succ])
        refine wpAnyH_take (i := 2) (v := (.int .i64 ld)) rfl (by kernel_rfl) (by kernel_rfl) (by kernel_rfl) (fun _ _ _ h => h) (Or.inl ⟨by rfl, by (intro w hSw; have q4 : w.cell? ⟨bm, 4, none⟩ = some (.int .i64 ld) := cell_of_row w bm 4 _ 36 (0, 0) hSw.2.1; go_simp)⟩) hHeld ?_
        (try simp only [Act.put, List.getElem_toArray, List.getElem_cons_zero, List.getElem_cons_succ, List.setIfInBounds_toArray, List.set_cons_zero, List.set_cons_succ])
        refine wpAnyH_take (i := 3) (v := (.pointer (some ⟨bm + 1, 1, none⟩))) rfl (by kernel_rfl) (by kernel_rfl) (by kernel_rfl) (fun _ _ _ h => h) (Or.inl ⟨by rfl, by (intro w hSw; (try dsimp only at hSw); go_simp)⟩) hHeld ?_
        (try simp only [Act.put, List.getElem_toArray, List.getElem_cons_zero, List.getElem_cons_succ, List.setIfInBounds_toArray, List.set_cons_zero, List.set_cons_succ])
        refine wpAnyH_take (i := 4) (v := (.int .i64 n)) rfl (by kernel_rfl) (by kernel_rfl) (by kernel_rfl) (fun _ _ _ h => h) (Or.inl ⟨by rfl, by (intro w hSw; have q1 : w.cell? ⟨bm + 1, 1, none⟩ = some (.int .i64 n) := cell_of_row w (bm + 1) 1 _ 38 (0, 0) hSw.2.2; go_simp)⟩) hHeld ?_
        (try simp only [Act.put, List.getElem_toArray, List.getElem_cons_zero, List.getElem_cons_succ, List.setIfInBounds_toArray, List.set_cons_zero, List.set_cons_succ])
        refine wpAnyH_take (i := 5) (v := (.agg #[.int .i64 19, .int .i64 ld, .int .i64 n])) rfl (by kernel_rfl) (by kernel_rfl) (by kernel_rfl) (fun _ _ _ h => h) (Or.inl ⟨by rfl, by (intro w hSw; (try dsimp only at hSw); go_simp)⟩) hHeld ?_
        (try simp only [Act.put, List.getElem_toArray, List.getElem_cons_zero, List.getElem_cons_succ, List.setIfInBounds_toArray, List.set_cons_zero, List.set_cons_succ])
        refine wpAnyH_ready (rs := [6, 7]) (by kernel_rfl) (by simp) ?_
        refine AllReadyH.cons rfl (fun K hK => ?_) (AllReadyH.cons rfl (fun K hK => ?_) AllReadyH.nil)
        · rw [if_pos (by rfl)]
          go_wp2_with fail
          refine hK.out _ _ (⟨SC.out.tl.at.2, SC.out.tl.tl.tl.tl.at.2, SC.out.tl.tl.tl.at.2⟩) (fun hHeld2 => ?_)
          clear hHeld hK
          have hHeld := hHeld2
          clear hHeld2
          (try simp only [Act.put, List.getElem_toArray, List.getElem_cons_zero, List.getElem_cons_succ, List.setIfInBounds_toArray, List.set_cons_zero, List.set_cons_succ])
          refine wpAnyH_ready (rs := [7]) (by kernel_rfl) (by simp) ?_
          refine AllReadyH.cons rfl (fun K hK => ?_) (AllReadyH.nil)
          rw [if_pos (by rfl)]
          refine wp_store_row 36 (.tmp 6) (.tmp 93) rfl (bm + 1 + 1) #[.slice p2 cols.length cp2, .int .i64 o, .int .i64 0, .bool true, .int .i64 0] rfl rfl 36 _ SC.out.tl.tl.at.2 info24 rfl (by simp [Value.oneCell']) ?_
          have SD := Lib.hid (Sep.putRow (SC.out.to 2 (by simp)) #[.slice p2 cols.length cp2, .int .i64 o, .int .i64 0, .bool true, .int .i64 0])
          refine hK.out _ _ (⟨SD.out.tl.tl.at.2, SD.out.tl.tl.tl.tl.at.2, SD.out.tl.tl.tl.at.2⟩) (fun hHeld2 => ?_)
          clear hHeld hK
          have hHeld := hHeld2
          clear hHeld2
          (try simp only [Act.put, List.getElem_toArray, List.getElem_cons_zero, List.getElem_cons_succ, List.setIfInBounds_toArray, List.set_cons_zero, List.set_cons_succ])
          refine wpAnyH_take (i := 8) (v := (.slice (some ⟨b9, 0, none⟩) 1 1)) rfl (by kernel_rfl) (by kernel_rfl) (by kernel_rfl) (fun _ _ _ h => h) (Or.inl ⟨by rfl, by (intro w hSw; (try dsimp only at hSw); go_simp)⟩) hHeld ?_
          (try simp only [Act.put, List.getElem_toArray, List.getElem_cons_zero, List.getElem_cons_succ, List.setIfInBounds_toArray, List.set_cons_zero, List.set_cons_succ])
          refine wpAnyH_done (by kernel_rfl) ?_ _
          go_wp2_with fail
          have e := HRES.out
          subst e
          refine bodyPost_ret (results_mt rfl _ _ (bm + 1 + 1) _ rfl SD.out.at.2 rfl) rfl ?_
          exact ⟨_, _, rfl, Sep.oneT (SD.out.sub (.cons _ (List.Sublist.cons_cons _ (.cons _ (.cons _ (.cons _ (.refl _)))))))⟩
        · rw [if_pos (by rfl)]
          refine wp_store_row 36 (.tmp 6) (.tmp 93) rfl (bm + 1 + 1) #[.slice p2 cols.length cp2, .int .i64 o, .int .i64 0, .bool true, .int .i64 0] rfl rfl 36 _ SB.out.tl.at.2 info24 rfl (by simp [Value.oneCell']) ?_
          have SE := Lib.hid (Sep.putRow (SB.out.to 1 (by simp)) #[.slice p2 cols.length cp2, .int .i64 o, .int .i64 0, .bool true, .int .i64 0])
          refine hK.out _ _ (⟨SE.out.tl.at.2, SE.out.tl.tl.tl.at.2, SE.out.tl.tl.at.2⟩) (fun hHeld2 => ?_)
          clear hHeld hK
          have hHeld := hHeld2
          clear hHeld2
          (try simp only [Act.put, List.getElem_toArray, List.getElem_cons_zero, List.getElem_cons_succ, List.setIfInBounds_toArray, List.set_cons_zero, List.set_cons_succ])
          refine wpAnyH_ready (rs := [6]) (by kernel_rfl) (by simp) ?_
          refine AllReadyH.cons rfl (fun K hK => ?_) (AllReadyH.nil)
          have SF := Lib.hid (SE.out.allocAt (b := b9) (by simp [hb9']) (.cells #[.int .i64 19, .int .i64 ld, .int .i64 n] 40))
          rw [if_pos (by rfl)]
          go_wp2_with fail
          refine hK.out _ _ (⟨SF.out.tl.tl.at.2, SF.out.tl.tl.tl.tl.at.2, SF.out.tl.tl.tl.at.2⟩) (fun hHeld2 => ?_)
          clear hHeld hK
          have hHeld := hHeld2
          clear hHeld2
          (try simp only [Act.put, List.getElem_toArray, List.getElem_cons_zero, List.getElem_cons_succ, List.setIfInBounds_toArray, List.set_cons_zero, List.set_cons_succ])
          refine wpAnyH_take (i := 8) (v := (.slice (some ⟨b9, 0, none⟩) 1 1)) rfl (by kernel_rfl) (by kernel_rfl) (by kernel_rfl) (fun _ _ _ h => h) (Or.inl ⟨by rfl, by (intro w hSw; (try dsimp only at hSw); go_simp)⟩) hHeld ?_
          (try simp only [Act.put, List.getElem_toArray, List.getElem_cons_zero, List.getElem_cons_succ, List.setIfInBounds_toArray, List.set_cons_zero, List.set_cons_succ])
          refine wpAnyH_done (by kernel_rfl) ?_ _
          have SD := Lib.hid (SF.out.to 1 (by simp))
          go_wp2_with fail
          have e := HRES.out
          subst e
          refine bodyPost_ret (results_mt rfl _ _ (bm + 1 + 1) _ rfl SD.out.at.2 rfl) rfl ?_
          exact ⟨_, _, rfl, Sep.oneT (SD.out.sub (.cons _ (List.Sublist.cons_cons _ (.cons _ (.cons _ (.cons _ (.refl _)))))))⟩
      · skip
        have hoI : (o == 0) = false := by simpa using ho
        have HRES : Hid (R = (⟨cols, o, kk, false, ld + n⟩, [])) := Lib.hid (by rw [HRES0.out]; unfold stepF; rw [if_neg (by decide), if_neg (by decide), if_pos rfl, if_neg (by simp [ho]), if_neg ho])
        go_upto_region 18 with fail
        clear q0 q1 m1 m3 m4
        have r1 : y4.cell? ⟨bm + 1, 1, none⟩ = some (.int .i64 n) := S7.out.tl.tl.boxAt 1
        have m4 : y4.cell? ⟨bm, 4, none⟩ = some (.int .i64 ld) := S7.out.tl.tl.tl.boxAt 4
        have s4 : y4.cell? ⟨b8, 4, none⟩ = some (.int .i64 ld) := S7.out.boxAt 4
        have sf4 : y4.frozen? ⟨b8, 4, none⟩ = false := S7.out.fz 4
        go_upto_region 19 with fail
        refine at_world (fun y => Sep B w0 y (bxM b8 #[.slice p2 cols.length cp2, .int .i64 o, .int .i64 kk, .bool false, .int .i64 (ld + n)] :: bxM (bm + 1 + 1) zA :: bxR (bm + 1) #[.int .i64 19, .int .i64 n, .int .i64 lk] :: bxM bm #[.slice p cols.length c, .int .i64 o, .int .i64 kk, .bool false, .int .i64 ld] :: rI (.slice p2 cols.length cp2) cols :: X)) (S7.out.setAt [] 4 (.int .i64 (ld + n))) fun y5 hy5 => ?_
        have S8 := Lib.hid hy5
        clear hy5 S7 s4 sf4
        clear r1 m4
        have m1 : y5.cell? ⟨bm, 1, none⟩ = some (.int .i64 o) := S8.out.tl.tl.tl.boxAt 1
        go_upto_region 21 with fail
        clear m1
        have a0 : y5.cell? ⟨b8, 0, none⟩ = some (.slice p2 cols.length cp2) := S8.out.boxAt 0
        have a1 : y5.cell? ⟨b8, 1, none⟩ = some (.int .i64 o) := S8.out.boxAt 1
        have a2 : y5.cell? ⟨b8, 2, none⟩ = some (.int .i64 kk) := S8.out.boxAt 2
        have a3 : y5.cell? ⟨b8, 3, none⟩ = some (.bool false) := S8.out.boxAt 3
        have a4 : y5.cell? ⟨b8, 4, none⟩ = some (.int .i64 (ld + n)) := S8.out.boxAt 4
        have z0 : y5.cell? ⟨bm + 1 + 1, 0, none⟩ = some (.slice none 0 0) := S8.out.tl.boxAt 0
        have z1 : y5.cell? ⟨bm + 1 + 1, 1, none⟩ = some (.int .i64 0) := S8.out.tl.boxAt 1
        have z2 : y5.cell? ⟨bm + 1 + 1, 2, none⟩ = some (.int .i64 0) := S8.out.tl.boxAt 2
        have z3 : y5.cell? ⟨bm + 1 + 1, 3, none⟩ = some (.bool false) := S8.out.tl.boxAt 3
        have z4 : y5.cell? ⟨bm + 1 + 1, 4, none⟩ = some (.int .i64 0) := S8.out.tl.boxAt 4
        have zf0 : y5.frozen? ⟨bm + 1 + 1, 0, none⟩ = false := S8.out.tl.fz 0
        have zf1 : y5.frozen? ⟨bm + 1 + 1, 1, none⟩ = false := S8.out.tl.fz 1
        have zf2 : y5.frozen? ⟨bm + 1 + 1, 2, none⟩ = false := S8.out.tl.fz 2
        have zf3 : y5.frozen? ⟨bm + 1 + 1, 3, none⟩ = false := S8.out.tl.fz 3
        have zf4 : y5.frozen? ⟨bm + 1 + 1, 4, none⟩ = false := S8.out.tl.fz 4
        have SZ := Lib.hid ((((((S8.out.setAt [_] 0 (.slice p2 cols.length cp2)).setAt [_] 1 (.int .i64 o)).setAt [_] 2 (.int .i64 kk)).setAt [_] 3 (.bool false)).setAt [_] 4 (.int .i64 (ld + n))))
        clear S8
        go_wp2_with fail
        have e := HRES.out
        subst e
        refine bodyPost_ret (results_mt rfl _ _ (bm + 1 + 1) _ rfl SZ.out.tl.at.2 rfl) rfl ?_
        exact ⟨_, _, rfl, (SZ.out.sub (.cons _ (.cons _ (.cons _ (.cons _ (.refl _)))))).none_ 40 3⟩
    | true =>
      have m1 : y4.cell? ⟨bm, 1, none⟩ = some (.int .i64 o) := S7.out.tl.tl.tl.boxAt 1
      have m3 : y4.cell? ⟨bm, 3, none⟩ = some (.bool true) := S7.out.tl.tl.tl.boxAt 3
      have m4 : y4.cell? ⟨bm, 4, none⟩ = some (.int .i64 ld) := S7.out.tl.tl.tl.boxAt 4
      by_cases ho : o = 0
      · have hoI : (o == 0) = true := by simpa using ho
        have HRES : Hid (R = (⟨cols, o, 0, true, ld + n⟩, [])) := Lib.hid (by rw [HRES0.out]; unfold stepF; rw [if_neg (by decide), if_neg (by decide), if_pos rfl, if_neg (by simp), if_pos ho])
        clear ho
        go_upto_region 18 with fail
        clear q0 q1 m1 m3 m4
        have r1 : y4.cell? ⟨bm + 1, 1, none⟩ = some (.int .i64 n) := S7.out.tl.tl.boxAt 1
        have m4 : y4.cell? ⟨bm, 4, none⟩ = some (.int .i64 ld) := S7.out.tl.tl.tl.boxAt 4
        have s4 : y4.cell? ⟨b8, 4, none⟩ = some (.int .i64 ld) := S7.out.boxAt 4
        have sf4 : y4.frozen? ⟨b8, 4, none⟩ = false := S7.out.fz 4
        go_upto_region 19 with fail
        refine at_world (fun y => Sep B w0 y (bxM b8 #[.slice p2 cols.length cp2, .int .i64 o, .int .i64 kk, .bool true, .int .i64 (ld + n)] :: bxM (bm + 1 + 1) zA :: bxR (bm + 1) #[.int .i64 19, .int .i64 n, .int .i64 lk] :: bxM bm #[.slice p cols.length c, .int .i64 o, .int .i64 kk, .bool true, .int .i64 ld] :: rI (.slice p2 cols.length cp2) cols :: X)) (S7.out.setAt [] 4 (.int .i64 (ld + n))) fun y5 hy5 => ?_
        have S8 := Lib.hid hy5
        clear hy5 S7 s4 sf4
        clear r1 m4
        have m1 : y5.cell? ⟨bm, 1, none⟩ = some (.int .i64 o) := S8.out.tl.tl.tl.boxAt 1
        go_upto_region 20 with fail
        clear m1
        have s2 : y5.cell? ⟨b8, 2, none⟩ = some (.int .i64 kk) := S8.out.boxAt 2
        have sf2 : y5.frozen? ⟨b8, 2, none⟩ = false := S8.out.fz 2
        go_upto_region 21 with fail
        refine at_world (fun y => Sep B w0 y (bxM b8 #[.slice p2 cols.length cp2, .int .i64 o, .int .i64 0, .bool true, .int .i64 (ld + n)] :: bxM (bm + 1 + 1) zA :: bxR (bm + 1) #[.int .i64 19, .int .i64 n, .int .i64 lk] :: bxM bm #[.slice p cols.length c, .int .i64 o, .int .i64 kk, .bool true, .int .i64 ld] :: rI (.slice p2 cols.length cp2) cols :: X)) (S8.out.setAt [] 2 (.int .i64 0)) fun y6 hy6 => ?_
        have S9 := Lib.hid hy6
        clear hy6 S8 s2 sf2
        have a0 : y6.cell? ⟨b8, 0, none⟩ = some (.slice p2 cols.length cp2) := S9.out.boxAt 0
        have a1 : y6.cell? ⟨b8, 1, none⟩ = some (.int .i64 o) := S9.out.boxAt 1
        have a2 : y6.cell? ⟨b8, 2, none⟩ = some (.int .i64 0) := S9.out.boxAt 2
        have a3 : y6.cell? ⟨b8, 3, none⟩ = some (.bool true) := S9.out.boxAt 3
        have a4 : y6.cell? ⟨b8, 4, none⟩ = some (.int .i64 (ld + n)) := S9.out.boxAt 4
        have z0 : y6.cell? ⟨bm + 1 + 1, 0, none⟩ = some (.slice none 0 0) := S9.out.tl.boxAt 0
        have z1 : y6.cell? ⟨bm + 1 + 1, 1, none⟩ = some (.int .i64 0) := S9.out.tl.boxAt 1
        have z2 : y6.cell? ⟨bm + 1 + 1, 2, none⟩ = some (.int .i64 0) := S9.out.tl.boxAt 2
        have z3 : y6.cell? ⟨bm + 1 + 1, 3, none⟩ = some (.bool false) := S9.out.tl.boxAt 3
        have z4 : y6.cell? ⟨bm + 1 + 1, 4, none⟩ = some (.int .i64 0) := S9.out.tl.boxAt 4
        have zf0 : y6.frozen? ⟨bm + 1 + 1, 0, none⟩ = false := S9.out.tl.fz 0
        have zf1 : y6.frozen? ⟨bm + 1 + 1, 1, none⟩ = false := S9.out.tl.fz 1
        have zf2 : y6.frozen? ⟨bm + 1 + 1, 2, none⟩ = false := S9.out.tl.fz 2
        have zf3 : y6.frozen? ⟨bm + 1 + 1, 3, none⟩ = false := S9.out.tl.fz 3
        have zf4 : y6.frozen? ⟨bm + 1 + 1, 4, none⟩ = false := S9.out.tl.fz 4
        have SZ := Lib.hid ((((((S9.out.setAt [_] 0 (.slice p2 cols.length cp2)).setAt [_] 1 (.int .i64 o)).setAt [_] 2 (.int .i64 0)).setAt [_] 3 (.bool true)).setAt [_] 4 (.int .i64 (ld + n))))
        clear S9
        go_wp2_with fail
        have e := HRES.out
        subst e
        refine bodyPost_ret (results_mt rfl _ _ (bm + 1 + 1) _ rfl SZ.out.tl.at.2 rfl) rfl ?_
        exact ⟨_, _, rfl, (SZ.out.sub (.cons _ (.cons _ (.cons _ (.cons _ (.refl _)))))).none_ 40 3⟩
      · skip
        have hoI : (o == 0) = false := by simpa using ho
        have HRES : Hid (R = (⟨cols, o, kk, true, ld + n⟩, [])) := Lib.hid (by rw [HRES0.out]; unfold stepF; rw [if_neg (by decide), if_neg (by decide), if_pos rfl, if_neg (by simp [ho]), if_neg ho])
        go_upto_region 18 with fail
        clear q0 q1 m1 m3 m4
        have r1 : y4.cell? ⟨bm + 1, 1, none⟩ = some (.int .i64 n) := S7.out.tl.tl.boxAt 1
        have m4 : y4.cell? ⟨bm, 4, none⟩ = some (.int .i64 ld) := S7.out.tl.tl.tl.boxAt 4
        have s4 : y4.cell? ⟨b8, 4, none⟩ = some (.int .i64 ld) := S7.out.boxAt 4
        have sf4 : y4.frozen? ⟨b8, 4, none⟩ = false := S7.out.fz 4
        go_upto_region 19 with fail
        refine at_world (fun y => Sep B w0 y (bxM b8 #[.slice p2 cols.length cp2, .int .i64 o, .int .i64 kk, .bool true, .int .i64 (ld + n)] :: bxM (bm + 1 + 1) zA :: bxR (bm + 1) #[.int .i64 19, .int .i64 n, .int .i64 lk] :: bxM bm #[.slice p cols.length c, .int .i64 o, .int .i64 kk, .bool true, .int .i64 ld] :: rI (.slice p2 cols.length cp2) cols :: X)) (S7.out.setAt [] 4 (.int .i64 (ld + n))) fun y5 hy5 => ?_
        have S8 := Lib.hid hy5
        clear hy5 S7 s4 sf4
        clear r1 m4
        have m1 : y5.cell? ⟨bm, 1, none⟩ = some (.int .i64 o) := S8.out.tl.tl.tl.boxAt 1
        go_upto_region 21 with fail
        clear m1
        have a0 : y5.cell? ⟨b8, 0, none⟩ = some (.slice p2 cols.length cp2) := S8.out.boxAt 0
        have a1 : y5.cell? ⟨b8, 1, none⟩ = some (.int .i64 o) := S8.out.boxAt 1
        have a2 : y5.cell? ⟨b8, 2, none⟩ = some (.int .i64 kk) := S8.out.boxAt 2
        have a3 : y5.cell? ⟨b8, 3, none⟩ = some (.bool true) := S8.out.boxAt 3
        have a4 : y5.cell? ⟨b8, 4, none⟩ = some (.int .i64 (ld + n)) := S8.out.boxAt 4
        have z0 : y5.cell? ⟨bm + 1 + 1, 0, none⟩ = some (.slice none 0 0) := S8.out.tl.boxAt 0
        have z1 : y5.cell? ⟨bm + 1 + 1, 1, none⟩ = some (.int .i64 0) := S8.out.tl.boxAt 1
        have z2 : y5.cell? ⟨bm + 1 + 1, 2, none⟩ = some (.int .i64 0) := S8.out.tl.boxAt 2
        have z3 : y5.cell? ⟨bm + 1 + 1, 3, none⟩ = some (.bool false) := S8.out.tl.boxAt 3
        have z4 : y5.cell? ⟨bm + 1 + 1, 4, none⟩ = some (.int .i64 0) := S8.out.tl.boxAt 4
        have zf0 : y5.frozen? ⟨bm + 1 + 1, 0, none⟩ = false := S8.out.tl.fz 0
        have zf1 : y5.frozen? ⟨bm + 1 + 1, 1, none⟩ = false := S8.out.tl.fz 1
        have zf2 : y5.frozen? ⟨bm + 1 + 1, 2, none⟩ = false := S8.out.tl.fz 2
        have zf3 : y5.frozen? ⟨bm + 1 + 1, 3, none⟩ = false := S8.out.tl.fz 3
        have zf4 : y5.frozen? ⟨bm + 1 + 1, 4, none⟩ = false := S8.out.tl.fz 4
        have SZ := Lib.hid ((((((S8.out.setAt [_] 0 (.slice p2 cols.length cp2)).setAt [_] 1 (.int .i64 o)).setAt [_] 2 (.int .i64 kk)).setAt [_] 3 (.bool true)).setAt [_] 4 (.int .i64 (ld + n))))
        clear S8
        go_wp2_with fail
        have e := HRES.out
        subst e
        refine bodyPost_ret (results_mt rfl _ _ (bm + 1 + 1) _ rfl SZ.out.tl.at.2 rfl) rfl ?_
        exact ⟨_, _, rfl, (SZ.out.sub (.cons _ (.cons _ (.cons _ (.cons _ (.refl _)))))).none_ 40 3⟩
  have hk19 : (k == 19) = false := by simpa using h19
  have HTK : Hid (R = tokF ⟨cols, o, kk, fr, ld⟩ k n) := Lib.hid (by rw [HRES0.out]; unfold stepF; rw [if_neg h25, if_neg (fun h => h.elim h26 h27), if_neg h19])
  clear HRES0
  have q0 : y4.cell? ⟨bm + 1, 0, none⟩ = some (.int .i64 k) := S7.out.tl.tl.boxAt 0
  have m0 : y4.cell? ⟨bm, 0, none⟩ = some (.slice p cols.length c) := S7.out.tl.tl.tl.boxAt 0
  have m1 : y4.cell? ⟨bm, 1, none⟩ = some (.int .i64 o) := S7.out.tl.tl.tl.boxAt 1
  have m2 : y4.cell? ⟨bm, 2, none⟩ = some (.int .i64 kk) := S7.out.tl.tl.tl.boxAt 2
  have m3 : y4.cell? ⟨bm, 3, none⟩ = some (.bool fr) := S7.out.tl.tl.tl.boxAt 3
  have m4 : y4.cell? ⟨bm, 4, none⟩ = some (.int .i64 ld) := S7.out.tl.tl.tl.boxAt 4
  go_upto_region 22 with fail
  go_wp2_with fail
  refine (HBK.out y4 (mayB_may HMAY.out) (HIV.out y4 HG4.out).2 (HIV.out y4 HG4.out).1).mono ?_
  rintro _ w6 ⟨v6, t6, rfl, hs6⟩
  obtain ⟨⟨cq, lq⟩, hbq⟩ : ∃ z, blkQ ⟨cols, o, kk, fr, ld⟩ = z := ⟨_, rfl⟩
  rw [hbq] at hs6
  have HBQ := Lib.hid hbq
  simp only [] at hs6
  obtain ⟨p6, cp6, rfl⟩ := row_form hs6.tl.at
  have S8 := Lib.hid (S7.out.join hs6)
  clear hs6 S7 HBK q0 m0 m1 m2 m3 m4 hbq
  have HRT : Hid (R = (⟨cq, opnF k o, 0, false, 0⟩, leadF ld (lq ++ [(k, 0, n)]))) := Lib.hid (by
    have hq := HBQ.out
    rw [HTK.out]
    unfold blkQ at hq
    unfold tokF
    split
    · rename_i hb
      rw [if_pos hb] at hq
      simp only [] at hq ⊢
      rw [hq]
    · rename_i hb
      rw [if_neg hb] at hq
      injection hq with h1 h2
      rw [← h1, ← h2]; rfl)
  have HLQ : Hid (lq.length + 1 ≤ 1000000000000) := Lib.hid (by
    have hq := HBQ.out
    unfold blkQ at hq
    split at hq
    · have := (blkF_len cols kk).2
      simp only [] at hq
      rw [hq] at this
      simp only [] at this
      omega
    · injection hq with h1 h2
      rw [← h2]; simp)
  clear HTK HBQ
  
  obtain ⟨b9, hb9⟩ : ∃ b, w6.heap.size = b := ⟨_, rfl⟩
  have S9 := Lib.hid (S8.out.allocAt hb9 (.cells #[.int .i64 k, .int .i64 0, .int .i64 n] 40))
  have q0 : w6.cell? ⟨bm + 1, 0, none⟩ = some (.int .i64 k) := S8.out.tl.tl.tl.tl.boxAt 0
  have q1 : w6.cell? ⟨bm + 1, 1, none⟩ = some (.int .i64 n) := S8.out.tl.tl.tl.tl.boxAt 1
  clear S8
  go_upto_region 23 with fail
  go_wp2_with (at_builtin; refine wp_appT (B := B) (w0 := w0) (L := .box b9 (.cells #[.int .i64 k, .int .i64 0, .int .i64 n] 40) :: _) _ rfl (.tmp 120) (.tmp 126) rfl rfl S9.out.swap ⟨b9, 0, none⟩ 1 [(k, 0, n)] rfl (newsT S9.out) HLQ.out ?_)
  intro t7 w7 hs7
  have SA := Lib.hid hs7.swap.tl
  clear S9 hs7 q0 q1 hb9
  obtain ⟨x, r, hxr⟩ : ∃ x r, lq ++ [(k, 0, n)] = x :: r := by cases h : lq with
    | nil => exact ⟨_, _, rfl⟩
    | cons a b => exact ⟨_, _, rfl⟩
  have HRES1 : Hid (R = (⟨cq, opnF k o, 0, false, 0⟩, leadF ld (x :: r))) := Lib.hid (by rw [← hxr]; exact HRT.out)
  rw [hxr] at SA
  obtain ⟨g2, cap2, rfl, hcap2⟩ := row_own SA.out.at (by simp)
  obtain ⟨hg1, hgf, hgs⟩ := Sep.lead ld SA.out
  have m4 : w7.cell? ⟨bm, 4, none⟩ = some (.int .i64 ld) := SA.out.tl.tl.tl.tl.tl.boxAt 4
  have HLX : Hid ((x :: r).length = r.length + 1) := Lib.hid rfl
  have SB := Lib.hid hgs
  rw [HLX.out] at SB hcap2 ⊢
  clear hgs SA hxr HRT
  have hl0' : (0 : Int) < ((r.length + 1 : Nat) : Int) := by omega
  go_upto_region 25 with fail
  refine at_world (fun y => Sep B w0 y (rT (.slice (some ⟨g2, 0, none⟩) (r.length + 1) cap2) (leadF ld (x :: r)) :: rI (.slice p6 cq.length cp6) cq :: bxM b8 #[.slice p2 cols.length cp2, .int .i64 o, .int .i64 kk, .bool fr, .int .i64 ld] :: bxM (bm + 1 + 1) zA :: bxR (bm + 1) #[.int .i64 k, .int .i64 n, .int .i64 lk] :: bxM bm #[.slice p cols.length c, .int .i64 o, .int .i64 kk, .bool fr, .int .i64 ld] :: rI (.slice p2 cols.length cp2) cols :: X)) SB.out fun z5 hz5 => ?_
  have SC := Lib.hid hz5
  clear hz5 SB hg1 hgf m4
  have s0 : z5.cell? ⟨b8, 0, none⟩ = some (.slice p2 cols.length cp2) := SC.out.tl.tl.boxAt 0
  have sf0 : z5.frozen? ⟨b8, 0, none⟩ = false := SC.out.tl.tl.fz 0
  go_upto_region 26 with fail
  refine at_world (fun y => Sep B w0 y (rT (.slice (some ⟨g2, 0, none⟩) (r.length + 1) cap2) (leadF ld (x :: r)) :: rI (.slice p6 cq.length cp6) cq :: bxM b8 #[.slice p6 cq.length cp6, .int .i64 o, .int .i64 kk, .bool fr, .int .i64 ld] :: bxM (bm + 1 + 1) zA :: bxR (bm + 1) #[.int .i64 k, .int .i64 n, .int .i64 lk] :: bxM bm #[.slice p cols.length c, .int .i64 o, .int .i64 kk, .bool fr, .int .i64 ld] :: rI (.slice p2 cols.length cp2) cols :: X)) (SC.out.setAt [_, _] 0 (.slice p6 cq.length cp6)) fun z6 hz6 => ?_
  have SD := Lib.hid hz6
  clear hz6 SC s0 sf0
  have s4 : z6.cell? ⟨b8, 4, none⟩ = some (.int .i64 ld) := SD.out.tl.tl.boxAt 4
  have sf4 : z6.frozen? ⟨b8, 4, none⟩ = false := SD.out.tl.tl.fz 4
  go_upto_region 27 with fail
  refine at_world (fun y => Sep B w0 y (rT (.slice (some ⟨g2, 0, none⟩) (r.length + 1) cap2) (leadF ld (x :: r)) :: rI (.slice p6 cq.length cp6) cq :: bxM b8 #[.slice p6 cq.length cp6, .int .i64 o, .int .i64 kk, .bool fr, .int .i64 0] :: bxM (bm + 1 + 1) zA :: bxR (bm + 1) #[.int .i64 k, .int .i64 n, .int .i64 lk] :: bxM bm #[.slice p cols.length c, .int .i64 o, .int .i64 kk, .bool fr, .int .i64 ld] :: rI (.slice p2 cols.length cp2) cols :: X)) (SD.out.setAt [_, _] 4 (.int .i64 0)) fun z7 hz7 => ?_
  have SE := Lib.hid hz7
  clear hz7 SD s4 sf4
  have s2 : z7.cell? ⟨b8, 2, none⟩ = some (.int .i64 kk) := SE.out.tl.tl.boxAt 2
  have sf2 : z7.frozen? ⟨b8, 2, none⟩ = false := SE.out.tl.tl.fz 2
  go_upto_region 28 with fail
  refine at_world (fun y => Sep B w0 y (rT (.slice (some ⟨g2, 0, none⟩) (r.length + 1) cap2) (leadF ld (x :: r)) :: rI (.slice p6 cq.length cp6) cq :: bxM b8 #[.slice p6 cq.length cp6, .int .i64 o, .int .i64 0, .bool fr, .int .i64 0] :: bxM (bm + 1 + 1) zA :: bxR (bm + 1) #[.int .i64 k, .int .i64 n, .int .i64 lk] :: bxM bm #[.slice p cols.length c, .int .i64 o, .int .i64 kk, .bool fr, .int .i64 ld] :: rI (.slice p2 cols.length cp2) cols :: X)) (SE.out.setAt [_, _] 2 (.int .i64 0)) fun z8 hz8 => ?_
  have SF := Lib.hid hz8
  clear hz8 SE s2 sf2
  have s3 : z8.cell? ⟨b8, 3, none⟩ = some (.bool fr) := SF.out.tl.tl.boxAt 3
  have sf3 : z8.frozen? ⟨b8, 3, none⟩ = false := SF.out.tl.tl.fz 3
  go_upto_region 29 with fail
  refine at_world (fun y => Sep B w0 y (rT (.slice (some ⟨g2, 0, none⟩) (r.length + 1) cap2) (leadF ld (x :: r)) :: rI (.slice p6 cq.length cp6) cq :: bxM b8 #[.slice p6 cq.length cp6, .int .i64 o, .int .i64 0, .bool false, .int .i64 0] :: bxM (bm + 1 + 1) zA :: bxR (bm + 1) #[.int .i64 k, .int .i64 n, .int .i64 lk] :: bxM bm #[.slice p cols.length c, .int .i64 o, .int .i64 kk, .bool fr, .int .i64 ld] :: rI (.slice p2 cols.length cp2) cols :: X)) (SF.out.setAt [_, _] 3 (.bool false)) fun z9 hz9 => ?_
  have SG := Lib.hid hz9
  clear hz9 SF s3 sf3
  by_cases h9 : k = 9
  · subst h9
    have q0 : z9.cell? ⟨bm + 1, 0, none⟩ = some (.int .i64 9) := SG.out.tl.tl.tl.tl.boxAt 0
    have a1 : z9.cell? ⟨b8, 1, none⟩ = some (.int .i64 o) := SG.out.tl.tl.boxAt 1
    have hwo : IntKind.i64.wrap (o + 1) = o + 1 := IntWalk.i64_in (o + 1) (by omega)
    by_cases hoc : o < 65536
    · have HRES : Hid (R = (⟨cq, o + 1, 0, false, 0⟩, leadF ld (x :: r))) := Lib.hid (by rw [HRES1.out, show opnF 9 o = o + 1 from by unfold opnF; rw [if_pos rfl]; omega])
      go_upto_region 30 with fail
      clear q0 a1
      have s1 : z9.cell? ⟨b8, 1, none⟩ = some (.int .i64 o) := SG.out.tl.tl.boxAt 1
      have sf1 : z9.frozen? ⟨b8, 1, none⟩ = false := SG.out.tl.tl.fz 1
      go_upto_region 31 with fail
      refine at_world (fun y => Sep B w0 y (rT (.slice (some ⟨g2, 0, none⟩) (r.length + 1) cap2) (leadF ld (x :: r)) :: rI (.slice p6 cq.length cp6) cq :: bxM b8 #[.slice p6 cq.length cp6, .int .i64 (o + 1), .int .i64 0, .bool false, .int .i64 0] :: bxM (bm + 1 + 1) zA :: bxR (bm + 1) #[.int .i64 9, .int .i64 n, .int .i64 lk] :: bxM bm #[.slice p cols.length c, .int .i64 o, .int .i64 kk, .bool fr, .int .i64 ld] :: rI (.slice p2 cols.length cp2) cols :: X)) (SG.out.setAt [_, _] 1 (.int .i64 (o + 1))) fun za hza => ?_
      have SH := Lib.hid hza
      clear hza SG s1 sf1
      have q0 : za.cell? ⟨bm + 1, 0, none⟩ = some (.int .i64 9) := SH.out.tl.tl.tl.tl.boxAt 0
      have a0 : za.cell? ⟨b8, 0, none⟩ = some (.slice p6 cq.length cp6) := SH.out.tl.tl.boxAt 0
      have a1 : za.cell? ⟨b8, 1, none⟩ = some (.int .i64 (o + 1)) := SH.out.tl.tl.boxAt 1
      have a2 : za.cell? ⟨b8, 2, none⟩ = some (.int .i64 0) := SH.out.tl.tl.boxAt 2
      have a3 : za.cell? ⟨b8, 3, none⟩ = some (.bool false) := SH.out.tl.tl.boxAt 3
      have a4 : za.cell? ⟨b8, 4, none⟩ = some (.int .i64 0) := SH.out.tl.tl.boxAt 4
      have z0 : za.cell? ⟨bm + 1 + 1, 0, none⟩ = some (.slice none 0 0) := SH.out.tl.tl.tl.boxAt 0
      have z1 : za.cell? ⟨bm + 1 + 1, 1, none⟩ = some (.int .i64 0) := SH.out.tl.tl.tl.boxAt 1
      have z2 : za.cell? ⟨bm + 1 + 1, 2, none⟩ = some (.int .i64 0) := SH.out.tl.tl.tl.boxAt 2
      have z3 : za.cell? ⟨bm + 1 + 1, 3, none⟩ = some (.bool false) := SH.out.tl.tl.tl.boxAt 3
      have z4 : za.cell? ⟨bm + 1 + 1, 4, none⟩ = some (.int .i64 0) := SH.out.tl.tl.tl.boxAt 4
      have zf0 : za.frozen? ⟨bm + 1 + 1, 0, none⟩ = false := SH.out.tl.tl.tl.fz 0
      have zf1 : za.frozen? ⟨bm + 1 + 1, 1, none⟩ = false := SH.out.tl.tl.tl.fz 1
      have zf2 : za.frozen? ⟨bm + 1 + 1, 2, none⟩ = false := SH.out.tl.tl.tl.fz 2
      have zf3 : za.frozen? ⟨bm + 1 + 1, 3, none⟩ = false := SH.out.tl.tl.tl.fz 3
      have zf4 : za.frozen? ⟨bm + 1 + 1, 4, none⟩ = false := SH.out.tl.tl.tl.fz 4
      have SZ := Lib.hid ((((((SH.out.setAt [_, _, _] 0 (.slice p6 cq.length cp6)).setAt [_, _, _] 1 (.int .i64 (o + 1))).setAt [_, _, _] 2 (.int .i64 0)).setAt [_, _, _] 3 (.bool false)).setAt [_, _, _] 4 (.int .i64 0)))
      clear SH
      go_wp2_with fail
      have e := HRES.out
      subst e
      refine bodyPost_ret (results_mt rfl _ _ (bm + 1 + 1) _ rfl SZ.out.tl.tl.tl.at.2 rfl) rfl ?_
      exact ⟨_, _, rfl, SZ.out.sub (List.Sublist.cons_cons _ (List.Sublist.cons_cons _ (.cons _ (.cons _ (.cons _ (.cons _ (.cons _ (.refl _)))))))) ⟩
    · have HRES : Hid (R = (⟨cq, o, 0, false, 0⟩, leadF ld (x :: r))) := Lib.hid (by rw [HRES1.out, show opnF 9 o = o from by unfold opnF; rw [if_pos rfl]; omega])
      clear a1
      have a1 : z9.cell? ⟨b8, 1, none⟩ = some (.int .i64 o) := SG.out.tl.tl.boxAt 1
      go_upto_region 33 with fail
      clear q0 a1
      have a0 : z9.cell? ⟨b8, 0, none⟩ = some (.slice p6 cq.length cp6) := SG.out.tl.tl.boxAt 0
      have a1 : z9.cell? ⟨b8, 1, none⟩ = some (.int .i64 o) := SG.out.tl.tl.boxAt 1
      have a2 : z9.cell? ⟨b8, 2, none⟩ = some (.int .i64 0) := SG.out.tl.tl.boxAt 2
      have a3 : z9.cell? ⟨b8, 3, none⟩ = some (.bool false) := SG.out.tl.tl.boxAt 3
      have a4 : z9.cell? ⟨b8, 4, none⟩ = some (.int .i64 0) := SG.out.tl.tl.boxAt 4
      have z0 : z9.cell? ⟨bm + 1 + 1, 0, none⟩ = some (.slice none 0 0) := SG.out.tl.tl.tl.boxAt 0
      have z1 : z9.cell? ⟨bm + 1 + 1, 1, none⟩ = some (.int .i64 0) := SG.out.tl.tl.tl.boxAt 1
      have z2 : z9.cell? ⟨bm + 1 + 1, 2, none⟩ = some (.int .i64 0) := SG.out.tl.tl.tl.boxAt 2
      have z3 : z9.cell? ⟨bm + 1 + 1, 3, none⟩ = some (.bool false) := SG.out.tl.tl.tl.boxAt 3
      have z4 : z9.cell? ⟨bm + 1 + 1, 4, none⟩ = some (.int .i64 0) := SG.out.tl.tl.tl.boxAt 4
      have zf0 : z9.frozen? ⟨bm + 1 + 1, 0, none⟩ = false := SG.out.tl.tl.tl.fz 0
      have zf1 : z9.frozen? ⟨bm + 1 + 1, 1, none⟩ = false := SG.out.tl.tl.tl.fz 1
      have zf2 : z9.frozen? ⟨bm + 1 + 1, 2, none⟩ = false := SG.out.tl.tl.tl.fz 2
      have zf3 : z9.frozen? ⟨bm + 1 + 1, 3, none⟩ = false := SG.out.tl.tl.tl.fz 3
      have zf4 : z9.frozen? ⟨bm + 1 + 1, 4, none⟩ = false := SG.out.tl.tl.tl.fz 4
      have SZ := Lib.hid ((((((SG.out.setAt [_, _, _] 0 (.slice p6 cq.length cp6)).setAt [_, _, _] 1 (.int .i64 o)).setAt [_, _, _] 2 (.int .i64 0)).setAt [_, _, _] 3 (.bool false)).setAt [_, _, _] 4 (.int .i64 0)))
      clear SG
      go_wp2_with fail
      have e := HRES.out
      subst e
      refine bodyPost_ret (results_mt rfl _ _ (bm + 1 + 1) _ rfl SZ.out.tl.tl.tl.at.2 rfl) rfl ?_
      exact ⟨_, _, rfl, SZ.out.sub (List.Sublist.cons_cons _ (List.Sublist.cons_cons _ (.cons _ (.cons _ (.cons _ (.cons _ (.cons _ (.refl _)))))))) ⟩
  have kk9 : (k == 9) = false := by simpa using h9
  by_cases h10 : k = 10
  · subst h10
    have q0 : z9.cell? ⟨bm + 1, 0, none⟩ = some (.int .i64 10) := SG.out.tl.tl.tl.tl.boxAt 0
    have a1 : z9.cell? ⟨b8, 1, none⟩ = some (.int .i64 o) := SG.out.tl.tl.boxAt 1
    have hwo : IntKind.i64.wrap (o - 1) = o - 1 := IntWalk.i64_in (o - 1) (by omega)
    by_cases hoc : 0 < o
    · have HRES : Hid (R = (⟨cq, o - 1, 0, false, 0⟩, leadF ld (x :: r))) := Lib.hid (by rw [HRES1.out, show opnF 10 o = o - 1 from by unfold opnF; rw [if_neg (by decide), if_pos rfl]; omega])
      go_upto_region 32 with fail
      clear q0 a1
      have s1 : z9.cell? ⟨b8, 1, none⟩ = some (.int .i64 o) := SG.out.tl.tl.boxAt 1
      have sf1 : z9.frozen? ⟨b8, 1, none⟩ = false := SG.out.tl.tl.fz 1
      go_upto_region 33 with fail
      refine at_world (fun y => Sep B w0 y (rT (.slice (some ⟨g2, 0, none⟩) (r.length + 1) cap2) (leadF ld (x :: r)) :: rI (.slice p6 cq.length cp6) cq :: bxM b8 #[.slice p6 cq.length cp6, .int .i64 (o - 1), .int .i64 0, .bool false, .int .i64 0] :: bxM (bm + 1 + 1) zA :: bxR (bm + 1) #[.int .i64 10, .int .i64 n, .int .i64 lk] :: bxM bm #[.slice p cols.length c, .int .i64 o, .int .i64 kk, .bool fr, .int .i64 ld] :: rI (.slice p2 cols.length cp2) cols :: X)) (SG.out.setAt [_, _] 1 (.int .i64 (o - 1))) fun za hza => ?_
      have SH := Lib.hid hza
      clear hza SG s1 sf1
      have a0 : za.cell? ⟨b8, 0, none⟩ = some (.slice p6 cq.length cp6) := SH.out.tl.tl.boxAt 0
      have a1 : za.cell? ⟨b8, 1, none⟩ = some (.int .i64 (o - 1)) := SH.out.tl.tl.boxAt 1
      have a2 : za.cell? ⟨b8, 2, none⟩ = some (.int .i64 0) := SH.out.tl.tl.boxAt 2
      have a3 : za.cell? ⟨b8, 3, none⟩ = some (.bool false) := SH.out.tl.tl.boxAt 3
      have a4 : za.cell? ⟨b8, 4, none⟩ = some (.int .i64 0) := SH.out.tl.tl.boxAt 4
      have z0 : za.cell? ⟨bm + 1 + 1, 0, none⟩ = some (.slice none 0 0) := SH.out.tl.tl.tl.boxAt 0
      have z1 : za.cell? ⟨bm + 1 + 1, 1, none⟩ = some (.int .i64 0) := SH.out.tl.tl.tl.boxAt 1
      have z2 : za.cell? ⟨bm + 1 + 1, 2, none⟩ = some (.int .i64 0) := SH.out.tl.tl.tl.boxAt 2
      have z3 : za.cell? ⟨bm + 1 + 1, 3, none⟩ = some (.bool false) := SH.out.tl.tl.tl.boxAt 3
      have z4 : za.cell? ⟨bm + 1 + 1, 4, none⟩ = some (.int .i64 0) := SH.out.tl.tl.tl.boxAt 4
      have zf0 : za.frozen? ⟨bm + 1 + 1, 0, none⟩ = false := SH.out.tl.tl.tl.fz 0
      have zf1 : za.frozen? ⟨bm + 1 + 1, 1, none⟩ = false := SH.out.tl.tl.tl.fz 1
      have zf2 : za.frozen? ⟨bm + 1 + 1, 2, none⟩ = false := SH.out.tl.tl.tl.fz 2
      have zf3 : za.frozen? ⟨bm + 1 + 1, 3, none⟩ = false := SH.out.tl.tl.tl.fz 3
      have zf4 : za.frozen? ⟨bm + 1 + 1, 4, none⟩ = false := SH.out.tl.tl.tl.fz 4
      have SZ := Lib.hid ((((((SH.out.setAt [_, _, _] 0 (.slice p6 cq.length cp6)).setAt [_, _, _] 1 (.int .i64 (o - 1))).setAt [_, _, _] 2 (.int .i64 0)).setAt [_, _, _] 3 (.bool false)).setAt [_, _, _] 4 (.int .i64 0)))
      clear SH
      go_wp2_with fail
      have e := HRES.out
      subst e
      refine bodyPost_ret (results_mt rfl _ _ (bm + 1 + 1) _ rfl SZ.out.tl.tl.tl.at.2 rfl) rfl ?_
      exact ⟨_, _, rfl, SZ.out.sub (List.Sublist.cons_cons _ (List.Sublist.cons_cons _ (.cons _ (.cons _ (.cons _ (.cons _ (.cons _ (.refl _)))))))) ⟩
    · have HRES : Hid (R = (⟨cq, o, 0, false, 0⟩, leadF ld (x :: r))) := Lib.hid (by rw [HRES1.out, show opnF 10 o = o from by unfold opnF; rw [if_neg (by decide), if_pos rfl]; omega])
      clear a1
      have a1 : z9.cell? ⟨b8, 1, none⟩ = some (.int .i64 o) := SG.out.tl.tl.boxAt 1
      go_upto_region 33 with fail
      clear q0 a1
      have a0 : z9.cell? ⟨b8, 0, none⟩ = some (.slice p6 cq.length cp6) := SG.out.tl.tl.boxAt 0
      have a1 : z9.cell? ⟨b8, 1, none⟩ = some (.int .i64 o) := SG.out.tl.tl.boxAt 1
      have a2 : z9.cell? ⟨b8, 2, none⟩ = some (.int .i64 0) := SG.out.tl.tl.boxAt 2
      have a3 : z9.cell? ⟨b8, 3, none⟩ = some (.bool false) := SG.out.tl.tl.boxAt 3
      have a4 : z9.cell? ⟨b8, 4, none⟩ = some (.int .i64 0) := SG.out.tl.tl.boxAt 4
      have z0 : z9.cell? ⟨bm + 1 + 1, 0, none⟩ = some (.slice none 0 0) := SG.out.tl.tl.tl.boxAt 0
      have z1 : z9.cell? ⟨bm + 1 + 1, 1, none⟩ = some (.int .i64 0) := SG.out.tl.tl.tl.boxAt 1
      have z2 : z9.cell? ⟨bm + 1 + 1, 2, none⟩ = some (.int .i64 0) := SG.out.tl.tl.tl.boxAt 2
      have z3 : z9.cell? ⟨bm + 1 + 1, 3, none⟩ = some (.bool false) := SG.out.tl.tl.tl.boxAt 3
      have z4 : z9.cell? ⟨bm + 1 + 1, 4, none⟩ = some (.int .i64 0) := SG.out.tl.tl.tl.boxAt 4
      have zf0 : z9.frozen? ⟨bm + 1 + 1, 0, none⟩ = false := SG.out.tl.tl.tl.fz 0
      have zf1 : z9.frozen? ⟨bm + 1 + 1, 1, none⟩ = false := SG.out.tl.tl.tl.fz 1
      have zf2 : z9.frozen? ⟨bm + 1 + 1, 2, none⟩ = false := SG.out.tl.tl.tl.fz 2
      have zf3 : z9.frozen? ⟨bm + 1 + 1, 3, none⟩ = false := SG.out.tl.tl.tl.fz 3
      have zf4 : z9.frozen? ⟨bm + 1 + 1, 4, none⟩ = false := SG.out.tl.tl.tl.fz 4
      have SZ := Lib.hid ((((((SG.out.setAt [_, _, _] 0 (.slice p6 cq.length cp6)).setAt [_, _, _] 1 (.int .i64 o)).setAt [_, _, _] 2 (.int .i64 0)).setAt [_, _, _] 3 (.bool false)).setAt [_, _, _] 4 (.int .i64 0)))
      clear SG
      go_wp2_with fail
      have e := HRES.out
      subst e
      refine bodyPost_ret (results_mt rfl _ _ (bm + 1 + 1) _ rfl SZ.out.tl.tl.tl.at.2 rfl) rfl ?_
      exact ⟨_, _, rfl, SZ.out.sub (List.Sublist.cons_cons _ (List.Sublist.cons_cons _ (.cons _ (.cons _ (.cons _ (.cons _ (.cons _ (.refl _)))))))) ⟩
  have kk10 : (k == 10) = false := by simpa using h10
  have HRES : Hid (R = (⟨cq, o, 0, false, 0⟩, leadF ld (x :: r))) := Lib.hid (by rw [HRES1.out, show opnF k o = o by unfold opnF; rw [if_neg h9, if_neg h10]])
  have q0 : z9.cell? ⟨bm + 1, 0, none⟩ = some (.int .i64 k) := SG.out.tl.tl.tl.tl.boxAt 0
  go_upto_region 33 with fail
  clear q0
  have a0 : z9.cell? ⟨b8, 0, none⟩ = some (.slice p6 cq.length cp6) := SG.out.tl.tl.boxAt 0
  have a1 : z9.cell? ⟨b8, 1, none⟩ = some (.int .i64 o) := SG.out.tl.tl.boxAt 1
  have a2 : z9.cell? ⟨b8, 2, none⟩ = some (.int .i64 0) := SG.out.tl.tl.boxAt 2
  have a3 : z9.cell? ⟨b8, 3, none⟩ = some (.bool false) := SG.out.tl.tl.boxAt 3
  have a4 : z9.cell? ⟨b8, 4, none⟩ = some (.int .i64 0) := SG.out.tl.tl.boxAt 4
  have z0 : z9.cell? ⟨bm + 1 + 1, 0, none⟩ = some (.slice none 0 0) := SG.out.tl.tl.tl.boxAt 0
  have z1 : z9.cell? ⟨bm + 1 + 1, 1, none⟩ = some (.int .i64 0) := SG.out.tl.tl.tl.boxAt 1
  have z2 : z9.cell? ⟨bm + 1 + 1, 2, none⟩ = some (.int .i64 0) := SG.out.tl.tl.tl.boxAt 2
  have z3 : z9.cell? ⟨bm + 1 + 1, 3, none⟩ = some (.bool false) := SG.out.tl.tl.tl.boxAt 3
  have z4 : z9.cell? ⟨bm + 1 + 1, 4, none⟩ = some (.int .i64 0) := SG.out.tl.tl.tl.boxAt 4
  have zf0 : z9.frozen? ⟨bm + 1 + 1, 0, none⟩ = false := SG.out.tl.tl.tl.fz 0
  have zf1 : z9.frozen? ⟨bm + 1 + 1, 1, none⟩ = false := SG.out.tl.tl.tl.fz 1
  have zf2 : z9.frozen? ⟨bm + 1 + 1, 2, none⟩ = false := SG.out.tl.tl.tl.fz 2
  have zf3 : z9.frozen? ⟨bm + 1 + 1, 3, none⟩ = false := SG.out.tl.tl.tl.fz 3
  have zf4 : z9.frozen? ⟨bm + 1 + 1, 4, none⟩ = false := SG.out.tl.tl.tl.fz 4
  have SZ := Lib.hid ((((((SG.out.setAt [_, _, _] 0 (.slice p6 cq.length cp6)).setAt [_, _, _] 1 (.int .i64 o)).setAt [_, _, _] 2 (.int .i64 0)).setAt [_, _, _] 3 (.bool false)).setAt [_, _, _] 4 (.int .i64 0)))
  clear SG
  go_wp2_with fail
  have e := HRES.out
  subst e
  refine bodyPost_ret (results_mt rfl _ _ (bm + 1 + 1) _ rfl SZ.out.tl.tl.tl.at.2 rfl) rfl ?_
  exact ⟨_, _, rfl, SZ.out.sub (List.Sublist.cons_cons _ (List.Sublist.cons_cons _ (.cons _ (.cons _ (.cons _ (.cons _ (.cons _ (.refl _)))))))) ⟩
end Go.Proofs.Ytemkppjdfjoipaa.I1
