/- Texts of package regs, one behind the other. -/
import Derived.Test.YtemkppjdfjoipaaProg
import Derived.Test.YtemkppjdfjoipaaIj
import Derived.Great.BuildSlice
import Derived.WalkKit
import Derived.Maps.OwnSet
import Derived.Maps.OwnOps
import Derived.Maps.Own
import Derived.DeepKeys5
import Derived.BigFrame
import Derived.WalkMore
import Derived.ScopeJumps
import Derived.StillTailTactics
import Derived.Stop.BytesEq
import Derived.WalkLawsBesides
import Derived.WalkSpells
import Derived.Outline
import Derived.Lib.Walk
import Derived.Lib.Hide
import Derived.Lib.Slices
import Derived.Lib.Strings
import Derived.RegionTactic
import Derived.LoopTactic
import Derived.Below
import Derived.IntWalk
import Derived.Deep.QuietTactic
import Derived.BigQuiet
import Derived.Deep.MidRow
import Derived.Maps.AppendAt
import Derived.Laws.Rows
import Derived.Laws.Tables
import Derived.Deep.WholeRow
import Derived.Deep.Cut
import Derived.Deep.CutRange
import Derived.Lib.SliceRun
import Derived.Laws.MakeOwn
import Derived.Deep.RegionLaw
import Derived.Deep.RegionLawGrows
import Derived.Deep.RegionHeld3
import Derived.RegionCalls
import Derived.Deep.RegionWith
import Derived.Deep.Light
import Derived.Laws.CopyOwn
import Derived.Laws.ResultCell
section
/- Package indent. -/
namespace Go.Proofs.Ytemkppjdfjoipaa.I1
set_option linter.unusedSimpArgs false
set_option linter.unusedVariables false
set_option maxRecDepth 100000
open Go.RowKit
/- Step, First, End. -/
noncomputable def stQ (m : Mk) (s : ByteArray) (k n : Int) : Mk × List Tk := if mayB m = true ∧ madeB m s n = true then stepF m (bl s) k n else (⟨[], 0, 0, false, 0⟩, [])
/-- The first mark. -/
def m0 : Mk := ⟨[0], 0, 0, true, 0⟩
theorem m0_may : May m0 := ⟨by decide, rfl, fun i hi => by simp [m0] at hi, by decide, by decide, by decide, by decide, by decide, by decide, by decide⟩
theorem Sep.oneI {B b : Nat} {w0 w : World} {L : List It} {x : Int} (h : Sep B w0 w (.box b (.cells #[.int .i64 x] 3) :: L)) : Sep B w0 w (rI (.slice (some ⟨b, 0, none⟩) 1 1) [x] :: L) := h.full rfl (by decide)
theorem Sep.allocAt {B b : Nat} {w0 w : World} {L : List It} (h : Sep B w0 w L) (hb : w.heap.size = b) (o : Obj) : Sep B w0 (w.alloc o) (.box b o :: L) := hb ▸ h.alloc o
def FirstP (B : Nat) (w0 : World) (X : List It) (e : Ending) (w' : World) : Prop := ∃ v, e = .returned (.agg (mkA v m0)) ∧ Sep B w0 w' (rI v [0] :: X)
theorem first_any {B : Nat} {w0 w : World} {X : List It} (hs : Sep B w0 w X) : Calls Try.prog 26 #[] w (FirstP B w0 X) := by
  have hz := zero24
  obtain ⟨bm, hbm⟩ : ∃ b, w.heap.size = b := ⟨_, rfl⟩
  have S1 : Hid (Sep B w0 (w.alloc (.cells zA 36)) (bxM bm zA :: X)) := Lib.hid (by rw [← hbm]; exact hs.alloc (.cells zA 36))
  clear hs
  go_enter Try.func26, Try.ntmps26
  go_upto_region 1 with fail
  refine at_world (fun y => Sep B w0 y (bxM bm zA :: X)) S1.out fun y hy => ?_
  have hlt : bm < y.heap.size := (It.lt hy.at rfl).2
  obtain ⟨b1, hb1⟩ : ∃ b, y.heap.size = b := ⟨_, rfl⟩
  have HB1 := Lib.hid hb1
  rw [hb1] at hlt
  have z0 : y.cell? ⟨bm, 0, none⟩ = some (.slice none 0 0) := hy.boxAt 0
  have z1 : y.cell? ⟨bm, 1, none⟩ = some (.int .i64 0) := hy.boxAt 1
  have z2 : y.cell? ⟨bm, 2, none⟩ = some (.int .i64 0) := hy.boxAt 2
  have z3 : y.cell? ⟨bm, 3, none⟩ = some (.bool false) := hy.boxAt 3
  have z4 : y.cell? ⟨bm, 4, none⟩ = some (.int .i64 0) := hy.boxAt 4
  have zf0 : y.frozen? ⟨bm, 0, none⟩ = false := hy.fz 0
  have zf1 : y.frozen? ⟨bm, 1, none⟩ = false := hy.fz 1
  have zf2 : y.frozen? ⟨bm, 2, none⟩ = false := hy.fz 2
  have zf3 : y.frozen? ⟨bm, 3, none⟩ = false := hy.fz 3
  have zf4 : y.frozen? ⟨bm, 4, none⟩ = false := hy.fz 4
  have SC := Lib.hid ((((((hy.setAt [] 0 (.slice (some ⟨b1, 0, none⟩) 1 1)).setAt [] 1 (.int .i64 0)).setAt [] 2 (.int .i64 0)).setAt [] 3 (.bool true)).setAt [] 4 (.int .i64 0)))
  have SZ := Lib.hid (SC.out.allocAt (b := b1) (by simp [HB1.out]) (.cells #[.int .i64 0] 3))
  clear hy S1 SC HB1
  go_wp2_with fail
  refine bodyPost_ret (results_cell_row rfl _ _ bm 36 _ (0, 0) _ rfl SZ.out.tl.at.2 Try.underlying36 rfl info24) rfl ?_
  exact ⟨_, rfl, SZ.out.oneI.sub (List.Sublist.cons_cons _ (.cons _ (.refl _)))⟩
end Go.Proofs.Ytemkppjdfjoipaa.I1
end
section
/- Package indent. -/
namespace Go.Proofs.Ytemkppjdfjoipaa.I1
set_option linter.unusedSimpArgs false
set_option linter.unusedVariables false
set_option maxRecDepth 100000
open Go.RowKit
/- End. -/
noncomputable def endQ (m : Mk) : List Tk := if mayB m = true then endF m else []
def EndP (B : Nat) (w0 : World) (X : List It) (r : List Tk) (e : Ending) (w' : World) : Prop := ∃ t, e = .returned t ∧ Sep B w0 w' (rT t r :: X)
set_option maxHeartbeats 32000000 in
theorem end_any {B : Nat} {D : Nat → Prop} {w0 w : World} {m : Mk} {p : Option Addr} {c : Nat} {X : List It} (hl : m.cols.length ≤ 9223372036854775806) (hD : ∀ b, D b → b < w.heap.size) (hiv : IV D w m.cols (.slice p m.cols.length c)) (hs : Sep B w0 w X) :
    Calls Try.prog 29 #[.agg (mkA (.slice p m.cols.length c) m)] w (EndP B w0 X (endQ m)) := by
  obtain ⟨R, hR⟩ : ∃ R, endQ m = R := ⟨_, rfl⟩
  rw [hR]
  have HR := Lib.hid hR
  clear hR
  have HMB := Lib.hid (fun (y : World) (h1 : ∀ b, D b → b < y.heap.size) (h2 : IV D y m.cols (.slice p m.cols.length c)) => maybe_any hl h1 h2)
  obtain ⟨bb, hbb⟩ : ∃ b, mayB m = b := ⟨_, rfl⟩
  rw [hbb] at HMB
  have HMAY := Lib.hid hbb
  clear hbb
  obtain ⟨cols, o, kk, fr, ld⟩ := m
  unfold mkA at HMB
  unfold mkA
  simp only [] at hiv HMB hl ⊢
  obtain ⟨bm, hbm⟩ : ∃ b, w.heap.size = b := ⟨_, rfl⟩
  have S3 := Lib.hid (hs.allocAt hbm (.cells #[.slice p cols.length c, .int .i64 o, .int .i64 kk, .bool fr, .int .i64 ld] 36))
  have hb3 : Below w.heap.size w (w.alloc (.cells #[.slice p cols.length c, .int .i64 o, .int .i64 kk, .bool fr, .int .i64 ld] 36)) := (Below.refl w.heap.size w).alloc (Nat.le_refl _) _
  have hiv3 := Lib.hid (hiv.mono (D := D) (E := D) (fun b h => h) (fun b hb _ => hb3.block b (hD b hb)))
  have hD3 : Hid (∀ b, D b → b < (w.alloc (.cells #[.slice p cols.length c, .int .i64 o, .int .i64 kk, .bool fr, .int .i64 ld] 36)).heap.size) := Lib.hid fun b hb => by have := hD b hb; have := hb3.size; omega
  clear hs hb3 hiv hD
  go_enter Try.func29, Try.ntmps29
  go_upto_region 1 with fail
  refine at_world (fun y => Sep B w0 y (bxM bm #[.slice p cols.length c, .int .i64 o, .int .i64 kk, .bool fr, .int .i64 ld] :: X) ∧ IV D y cols (.slice p cols.length c) ∧ ∀ b, D b → b < y.heap.size) ⟨S3.out, hiv3.out, hD3.out⟩ fun y hy => ?_
  have S4 := Lib.hid hy.1
  have HI := Lib.hid hy.2.1
  have HD := Lib.hid hy.2.2
  clear S3 hiv3 hD3 hy
  have c0 : y.cell? ⟨bm, 0, none⟩ = some (.slice p cols.length c) := S4.out.boxAt 0
  have c1 : y.cell? ⟨bm, 1, none⟩ = some (.int .i64 o) := S4.out.boxAt 1
  have c2 : y.cell? ⟨bm, 2, none⟩ = some (.int .i64 kk) := S4.out.boxAt 2
  have c3 : y.cell? ⟨bm, 3, none⟩ = some (.bool fr) := S4.out.boxAt 3
  have c4 : y.cell? ⟨bm, 4, none⟩ = some (.int .i64 ld) := S4.out.boxAt 4
  go_wp2_with fail
  refine (HMB.out _ HD.out HI.out).mono ?_
  rintro _ w1 ⟨rfl, hb⟩
  have S5 := Lib.hid (S4.out.up hb)
  clear hb S4 HI HD HMB c0 c1 c2 c3 c4
  cases bb with
  | false =>
    have HRES : Hid (R = []) := Lib.hid (by rw [← HR.out]; unfold endQ; rw [if_neg (by rw [HMAY.out]; simp)])
    clear HR
    go_wp2_with fail
    have e := HRES.out
    subst e
    go_ret
    exact ⟨_, rfl, S5.out.tl.none_ 40 3⟩
  | true =>
  have hm := mayB_may HMAY.out
  have hln := hm.len
  have hne := hm.ne
  simp only [] at hln hne
  clear hm
  obtain ⟨n, hn⟩ : ∃ n, cols.length = n + 1 := ⟨cols.length - 1, by omega⟩
  have HRES : Hid (R = ((if fr = true then [] else [(19, 0, 0)]) ++ List.replicate n (21, 0, 0)) ++ [(22, ld, 0)]) := Lib.hid (by
    rw [← HR.out]; unfold endQ; rw [if_pos HMAY.out]; unfold endF; simp only [hn, Nat.add_sub_cancel])
  have HN := Lib.hid hn
  have hnb : n ≤ 4096 := by omega
  clear HR HMAY
  rw [hn] at S5 ⊢
  have hp1 : ((n + 1 : Nat) : Int) - 1 = (n : Int) := by omega
  clear hn hne hl
  cases fr with
  | true =>
    rw [if_pos rfl] at HRES
    have c3 : w1.cell? ⟨bm, 3, none⟩ = some (.bool true) := S5.out.boxAt 3
    go_upto_region 6 with fail
    clear c3
    have S5n : Hid (Sep B w0 w1 (rT (.slice none 0 0) [] :: bxM bm #[.slice p (n + 1) c, .int .i64 o, .int .i64 kk, .bool true, .int .i64 ld] :: X)) := Lib.hid (S5.out.none_ 40 3)
    clear S5
    have c0 : w1.cell? ⟨bm, 0, none⟩ = some (.slice p (n + 1) c) := S5n.out.tl.boxAt 0
    go_upto_region 7 with fail
    clear c0
    have S6 : Hid (Sep B w0 w1 (rT (.slice none 0 0) (([] : List Tk) ++ List.replicate 0 (21, 0, 0)) :: bxM bm #[.slice p (n + 1) c, .int .i64 o, .int .i64 kk, .bool true, .int .i64 ld] :: X)) := Lib.hid (by rw [List.replicate_zero, List.append_nil]; exact S5n.out)
    clear S5n
    go_loopw [3, 18] (fun t i wr => ∃ j : Nat, j ≤ n ∧ i = .int .i64 (j : Nat) ∧ Hid (Sep B w0 wr (rT t (([] : List Tk) ++ List.replicate j (21, 0, 0)) :: bxM bm #[.slice p (n + 1) c, .int .i64 o, .int .i64 kk, .bool true, .int .i64 ld] :: X))) (fun _ i _ => n - (intOf i).toNat)
    case atStart => exact ⟨0, by omega, rfl, S6⟩
    case round =>
    clear S6
    obtain ⟨j, hj, rfl, HS⟩ := hrel
    by_cases hlt : j < n
    · have hltI : (j : Int) < (n : Int) := by omega
      obtain ⟨b0, hb0⟩ : ∃ b0, wr.heap.size = b0 := ⟨_, rfl⟩
      have S1 := Lib.hid (HS.out.alloc (.cells #[.int .i64 21, .int .i64 0, .int .i64 0] 40))
      rw [hb0] at S1
      clear HS
      go_upto_region 8 with fail
      go_wp2_with (at_builtin; refine wp_appT (B := B) (w0 := w0) (L := .box b0 (.cells #[.int .i64 21, .int .i64 0, .int .i64 0] 40) :: _) _ rfl (.tmp 20) (.tmp 22) rfl rfl S1.out.swap ⟨b0, 0, none⟩ 1 [(21, 0, 0)] rfl (newsT S1.out) (by simp only [List.length_append, List.length_replicate, List.length_cons, List.length_nil]; omega) ?_)
      intro v1 w1 hs1
      have S2 := Lib.hid hs1.swap.tl
      clear S1 hs1
      have S3 : Hid (Sep B w0 w1 (rT v1 (([] : List Tk) ++ List.replicate (j + 1) (21, 0, 0)) :: bxM bm #[.slice p (n + 1) c, .int .i64 o, .int .i64 kk, .bool true, .int .i64 ld] :: X)) := Lib.hid (by
        have h := S2.out
        rw [List.replicate_succ']
        simpa using h)
      clear S2
      go_wp2_with fail
      go_roundw
      case rel => exact ⟨j + 1, by omega, by go_num, S3⟩
      case measure => simp [intOf]; omega
    · obtain rfl : j = n := by omega
      have hltI : ¬ (j : Int) < (j : Int) := by omega
      obtain ⟨b0, hb0⟩ : ∃ b0, wr.heap.size = b0 := ⟨_, rfl⟩
      have c4 : wr.cell? ⟨bm, 4, none⟩ = some (.int .i64 ld) := HS.out.tl.boxAt 4
      have S1 := Lib.hid (HS.out.alloc (.cells #[.int .i64 22, .int .i64 ld, .int .i64 0] 40))
      rw [hb0] at S1
      clear HS
      go_upto_region 10 with fail
      go_wp2_with (at_builtin; refine wp_appT (B := B) (w0 := w0) (L := .box b0 (.cells #[.int .i64 22, .int .i64 ld, .int .i64 0] 40) :: _) _ rfl (.tmp 25) (.tmp 29) rfl rfl S1.out.swap ⟨b0, 0, none⟩ 1 [(22, ld, 0)] rfl (newsT S1.out) (by simp only [List.length_append, List.length_replicate, List.length_cons, List.length_nil]; omega) ?_)
      intro v1 w1 hs1
      have S2 := Lib.hid hs1.swap.tl
      clear S1 hs1
      go_wp2_with fail
      have e := HRES.out
      subst e
      go_ret
      exact ⟨_, rfl, S2.out.sub (List.Sublist.cons_cons _ (.cons _ (.refl _)))⟩
  | false =>
    rw [if_neg (by decide)] at HRES
    have c3 : w1.cell? ⟨bm, 3, none⟩ = some (.bool false) := S5.out.boxAt 3
    obtain ⟨b0, hb0⟩ : ∃ b0, w1.heap.size = b0 := ⟨_, rfl⟩
    have S6 := Lib.hid ((S5.out.none_ 40 3).alloc (.cells #[.int .i64 19, .int .i64 0, .int .i64 0] 40))
    rw [hb0] at S6
    clear S5
    go_upto_region 5 with fail
    clear c3
    go_wp2_with (at_builtin; refine wp_appT (B := B) (w0 := w0) (l := []) (L := .box b0 (.cells #[.int .i64 19, .int .i64 0, .int .i64 0] 40) :: _) _ rfl (.tmp 10) (.tmp 12) rfl rfl S6.out.swap ⟨b0, 0, none⟩ 1 [(19, 0, 0)] rfl (newsT S6.out) (by simp) ?_)
    intro v2 w2 hs2
    have S7 : Hid (Sep B w0 w2 (rT v2 [(19, 0, 0)] :: bxM bm #[.slice p (n + 1) c, .int .i64 o, .int .i64 kk, .bool false, .int .i64 ld] :: X)) := Lib.hid hs2.swap.tl
    clear hs2 S6 hb0
    have c0 : w2.cell? ⟨bm, 0, none⟩ = some (.slice p (n + 1) c) := S7.out.tl.boxAt 0
    go_upto_region 7 with fail
    clear c0
    have S6 : Hid (Sep B w0 w2 (rT (v2) ([(19, 0, 0)] ++ List.replicate 0 (21, 0, 0)) :: bxM bm #[.slice p (n + 1) c, .int .i64 o, .int .i64 kk, .bool false, .int .i64 ld] :: X)) := Lib.hid (by rw [List.replicate_zero, List.append_nil]; exact S7.out)
    clear S7
    go_loopw [3, 18] (fun t i wr => ∃ j : Nat, j ≤ n ∧ i = .int .i64 (j : Nat) ∧ Hid (Sep B w0 wr (rT t ([(19, 0, 0)] ++ List.replicate j (21, 0, 0)) :: bxM bm #[.slice p (n + 1) c, .int .i64 o, .int .i64 kk, .bool false, .int .i64 ld] :: X))) (fun _ i _ => n - (intOf i).toNat)
    case atStart => exact ⟨0, by omega, rfl, S6⟩
    case round =>
    clear S6
    obtain ⟨j, hj, rfl, HS⟩ := hrel
    by_cases hlt : j < n
    · have hltI : (j : Int) < (n : Int) := by omega
      obtain ⟨b0, hb0⟩ : ∃ b0, wr.heap.size = b0 := ⟨_, rfl⟩
      have S1 := Lib.hid (HS.out.alloc (.cells #[.int .i64 21, .int .i64 0, .int .i64 0] 40))
      rw [hb0] at S1
      clear HS
      go_upto_region 8 with fail
      go_wp2_with (at_builtin; refine wp_appT (B := B) (w0 := w0) (L := .box b0 (.cells #[.int .i64 21, .int .i64 0, .int .i64 0] 40) :: _) _ rfl (.tmp 20) (.tmp 22) rfl rfl S1.out.swap ⟨b0, 0, none⟩ 1 [(21, 0, 0)] rfl (newsT S1.out) (by simp only [List.length_append, List.length_replicate, List.length_cons, List.length_nil]; omega) ?_)
      intro v1 w1 hs1
      have S2 := Lib.hid hs1.swap.tl
      clear S1 hs1
      have S3 : Hid (Sep B w0 w1 (rT v1 ([(19, 0, 0)] ++ List.replicate (j + 1) (21, 0, 0)) :: bxM bm #[.slice p (n + 1) c, .int .i64 o, .int .i64 kk, .bool false, .int .i64 ld] :: X)) := Lib.hid (by
        have h := S2.out
        rw [List.replicate_succ']
        simpa using h)
      clear S2
      go_wp2_with fail
      go_roundw
      case rel => exact ⟨j + 1, by omega, by go_num, S3⟩
      case measure => simp [intOf]; omega
    · obtain rfl : j = n := by omega
      have hltI : ¬ (j : Int) < (j : Int) := by omega
      obtain ⟨b0, hb0⟩ : ∃ b0, wr.heap.size = b0 := ⟨_, rfl⟩
      have c4 : wr.cell? ⟨bm, 4, none⟩ = some (.int .i64 ld) := HS.out.tl.boxAt 4
      have S1 := Lib.hid (HS.out.alloc (.cells #[.int .i64 22, .int .i64 ld, .int .i64 0] 40))
      rw [hb0] at S1
      clear HS
      go_upto_region 10 with fail
      go_wp2_with (at_builtin; refine wp_appT (B := B) (w0 := w0) (L := .box b0 (.cells #[.int .i64 22, .int .i64 ld, .int .i64 0] 40) :: _) _ rfl (.tmp 25) (.tmp 29) rfl rfl S1.out.swap ⟨b0, 0, none⟩ 1 [(22, ld, 0)] rfl (newsT S1.out) (by simp only [List.length_append, List.length_replicate, List.length_cons, List.length_nil]; omega) ?_)
      intro v1 w1 hs1
      have S2 := Lib.hid hs1.swap.tl
      clear S1 hs1
      go_wp2_with fail
      have e := HRES.out
      subst e
      go_ret
      exact ⟨_, rfl, S2.out.sub (List.Sublist.cons_cons _ (.cons _ (.refl _)))⟩
end Go.Proofs.Ytemkppjdfjoipaa.I1
end
