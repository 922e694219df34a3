/- Package indent. -/
import Derived.Test.YtemkppjdfjoipaaProg
import Derived.Test.YtemkppjdfjoipaaJb
import Derived.Great.BuildSlice
import Derived.WalkKit
import Derived.Maps.OwnSet
import Derived.Maps.OwnOps
import Derived.Maps.Own
import Derived.DeepKeys5
import Derived.BigFrame
import Derived.WalkMore
import Derived.ScopeJumps
import Derived.StillTailTactics
import Derived.Stop.BytesEq
import Derived.WalkLawsBesides
import Derived.WalkSpells
import Derived.Outline
import Derived.Lib.Walk
import Derived.Lib.Hide
import Derived.Lib.Slices
import Derived.Lib.Strings
import Derived.RegionTactic
import Derived.LoopTactic
import Derived.Below
import Derived.IntWalk
import Derived.Deep.QuietTactic
import Derived.BigQuiet
import Derived.Deep.MidRow
import Derived.Maps.AppendAt
import Derived.Laws.Rows
import Derived.Laws.Tables
import Derived.Deep.WholeRow
import Derived.Deep.Cut
import Derived.Deep.CutRange
import Derived.Lib.SliceRun
import Derived.Laws.MakeOwn
import Derived.Deep.RegionLaw
import Derived.Deep.RegionLawGrows
import Derived.Deep.RegionHeld3
import Derived.RegionCalls
import Derived.Deep.RegionWith
import Derived.Deep.Light
import Derived.Laws.CopyOwn
import Derived.Laws.ResultCell
namespace Go.Proofs.Ytemkppjdfjoipaa.I1
set_option linter.unusedSimpArgs false
set_option linter.unusedVariables false
set_option maxRecDepth 100000
open Go.RowKit
/- The document's block. -/
noncomputable def blkQ (m : Mk) : List Int × List Tk := if begF m = true then blkF m.cols m.col else (m.cols, [])
theorem Sep.dn {B : Nat} {w0 w : World} {L : List It} (h : Sep B w0 w L) (n : Nat) : Sep B w0 (w.drewN n) L := h.up (below_drewN (Below.refl _ _) n)
theorem Sep.cutI {B g cap n j : Nat} {w0 w : World} {t : Value} {L : List Tk} {l : List Int} {Y : List It} (h : Sep B w0 w (rT t L :: rI (.slice (some ⟨g, 0, none⟩) (n + 1) cap) l :: Y)) (hn : l.length = n + 1) (hj : j ≤ n) : Sep B w0 w (rT t L :: rI (.slice (some ⟨g, 0, none⟩) (j + 1) cap) (l.take (j + 1)) :: Y) := by
  refine (Sep.same (x' := rI (.slice (some ⟨g, 0, none⟩) (j + 1) cap) (l.take (j + 1))) h.swap ?_ rfl).swap
  have h2 := h.swap.at
  rw [It.lies, ← hn] at h2
  exact row_take (by omega) h2
set_option maxHeartbeats 32000000 in
theorem block_any {B : Nat} {D : Nat → Prop} {w0 w : World} {m : Mk} {p : Option Addr} {c : Nat} {X : List It} (hr : Rise m.cols) (h0 : 0 ≤ m.col) (hl : m.cols.length ≤ 4097) (hD : ∀ b, D b → b < w.heap.size) (hiv : IV D w m.cols (.slice p m.cols.length c)) (hs : Sep B w0 w X) :
    Calls Try.prog 59 #[.agg (mkA (.slice p m.cols.length c) m)] w (BlkP B w0 X (blkQ m)) := by
  obtain ⟨R, hR⟩ : ∃ R, blkQ m = R := ⟨_, rfl⟩
  rw [hR]
  have HR0 := Lib.hid hR
  clear hR
  obtain ⟨l, o, col, fr, ld⟩ := m
  unfold mkA
  simp only [] at hiv hl hr h0 ⊢
  have HR := Lib.hid hr
  have hne := hr.ne
  obtain ⟨p', c', he, hh⟩ := hiv
  injection he with e1 e2 e3
  subst e1 e3
  obtain ⟨b, o', rfl, hDb, hc⟩ := hh (by intro e; rw [e] at hne; simp at hne)
  have hbw := hD b hDb
  obtain ⟨bm, hbm⟩ : ∃ b, w.heap.size = b := ⟨_, rfl⟩
  have h1 := hs.allocAt hbm (.cells #[.slice (some ⟨b, o', none⟩) l.length c, .int .i64 o, .int .i64 col, .bool fr, .int .i64 ld] 36)
  have HC0 : Hid (∀ j v, (zi l)[j]? = some v → (w.alloc (.cells #[.slice (some ⟨b, o', none⟩) l.length c, .int .i64 o, .int .i64 col, .bool fr, .int .i64 ld] 36)).cell? ⟨b, o' + j, none⟩ = some v) := Lib.hid fun j v hj => by
    obtain ⟨hj1, hj2⟩ := List.getElem?_eq_some_iff.1 hj
    have hj3 : j < l.length := by simpa [zi] using hj1
    rw [cell_same (((Below.refl w.heap.size w).alloc (Nat.le_refl _) _).block b hbw), hc j hj3, ← hj2]
    simp [zi]
  have S1 := Lib.hid h1
  clear hs h1 hh hc e2 hD hr
  go_enter Try.func59, Try.ntmps59
  go_upto_region 1 with fail
  refine at_world (fun y => Sep B w0 y (bxM bm #[.slice (some ⟨b, o', none⟩) l.length c, .int .i64 o, .int .i64 col, .bool fr, .int .i64 ld] :: X) ∧ ∀ j v, (zi l)[j]? = some v → y.cell? ⟨b, o' + j, none⟩ = some v) ⟨S1.out, HC0.out⟩ fun y hy => ?_
  obtain ⟨b3, hb3⟩ : ∃ b, y.heap.size = b := ⟨_, rfl⟩
  have S2 := Lib.hid (Sep.empty (size := 1) (hy.1.allocAt hb3 (.cells #[] 3)))
  have HC : Hid (∀ j v, (zi l)[j]? = some v → (y.alloc (.cells #[] 3)).cell? ((⟨b, o', none⟩ : Addr).add j) = some v) := Lib.hid fun j v hj => by
    have h := hy.2 j v hj
    rw [Addr.add_mid]
    exact (cell_same (((Below.refl y.heap.size y).alloc (Nat.le_refl _) _).block b (blk_lt h)) _).trans h
  have c0 : y.cell? ⟨bm, 0, none⟩ = some (.slice (some ⟨b, o', none⟩) l.length c) := hy.1.boxAt 0
  have hbl : bm < y.heap.size := (It.lt hy.1.at rfl).2
  rw [hb3] at hbl
  clear S1 HC0 hy
  go_upto_region 1 with fail
  go_wp2_with (at_builtin; refine wp_appI (B := B) (w0 := w0) (l := []) _ rfl (.tmp 6) (.tmp 8) rfl rfl S2.out ⟨b, o', none⟩ c l rfl HC.out (by simp only [List.length_nil]; omega) ?_)
  intro v1 w1 hs1
  obtain ⟨g, cap, rfl, hcap⟩ := row_own hs1.at (by simpa using hne)
  have S3' := Lib.hid hs1
  clear hs1 S2 HC c0 hbl hb3
  have S3 : Hid (Sep B w0 w1 (rI (.slice (some ⟨g, 0, none⟩) l.length cap) l :: bxM bm #[.slice (some ⟨b, o', none⟩) l.length c, .int .i64 o, .int .i64 col, .bool fr, .int .i64 ld] :: X)) := S3'
  clear S3'

  have c1 : w1.cell? ⟨bm, 1, none⟩ = some (.int .i64 o) := S3.out.tl.boxAt 1
  have c2 : w1.cell? ⟨bm, 2, none⟩ = some (.int .i64 col) := S3.out.tl.boxAt 2
  have c3 : w1.cell? ⟨bm, 3, none⟩ = some (.bool fr) := S3.out.tl.boxAt 3
  have hcap : l.length ≤ cap := hcap
  go_upto_region 2 with fail
  by_cases hf : fr = true
  case neg =>
    obtain rfl : fr = false := by simpa using hf
    have HRES : Hid (R = (l, [])) := Lib.hid (by rw [← HR0.out]; unfold blkQ begF; rw [if_neg (by simp)])
    clear HR0
    go_wp2_with fail
    go_ret2
    have e := HRES.out
    subst e
    exact ⟨_, _, rfl, (S3.out.sub (List.Sublist.cons_cons _ (.cons _ (.refl _)))).none_ 40 3⟩
  subst hf
  by_cases ho : o = 0
  case neg =>
    have hoI : (o != 0) = true := by simpa using ho
    have HRES : Hid (R = (l, [])) := Lib.hid (by rw [← HR0.out]; unfold blkQ begF; rw [if_neg (by simp [ho])])
    clear HR0
    go_wp2_with fail
    go_ret2
    have e := HRES.out
    subst e
    exact ⟨_, _, rfl, (S3.out.sub (List.Sublist.cons_cons _ (.cons _ (.refl _)))).none_ 40 3⟩
  have hoI : (o != 0) = false := by simpa using ho
  have HRB : Hid (R = blkF l col) := Lib.hid (by rw [← HR0.out]; unfold blkQ begF; rw [if_pos (by simp [ho])])
  clear HR0 ho
  obtain ⟨n, hn⟩ : ∃ n, l.length = n + 1 := ⟨l.length - 1, by omega⟩
  have HN := Lib.hid hn
  have HROW : Hid (∀ z L, Sep B w0 z L → rI (.slice (some ⟨g, 0, none⟩) (n + 1) cap) l ∈ L → ∀ i, i < n + 1 → z.cell? ⟨g, i, none⟩ = some (.int .i64 (l.getD i 0))) := Lib.hid fun z L h hin i hi => by
    have hr := h.li _ hin
    rw [← HN.out] at hr
    exact rI_cells (B := B) (cap := cap) hr (by rw [HN.out]; exact hi)
  have S4 : Hid (Sep B w0 w1 (rI (.slice (some ⟨g, 0, none⟩) (n + 1) cap) l :: bxM bm #[.slice (some ⟨b, o', none⟩) (n + 1) c, .int .i64 o, .int .i64 col, .bool true, .int .i64 ld] :: X)) := Lib.hid (by have h := S3.out; rw [hn] at h; exact h)
  clear S3
  rw [hn] at hcap hl ⊢
  obtain ⟨y0, hy0⟩ : ∃ q, l.getD n 0 = q := ⟨_, rfl⟩
  have d0 : w1.cell? ⟨g, n, none⟩ = some (.int .i64 y0) := by rw [← hy0]; exact HROW.out _ _ S4.out (by simp) n (by omega)
  have HY := Lib.hid hy0
  have hp1 : ((n + 1 : Nat) : Int) - 1 = (n : Int) := by omega
  have hk0 : ¬ (n : Int) < 0 := by omega
  have hkl : (n : Int) < ((n + 1 : Nat) : Int) := by omega
  have hnb : n ≤ 4096 := by omega
  clear hn hy0 hl hne
  go_upto_region 5 with fail
  go_quiet (fail)
  clear c1 c2 c3 d0
  refine at_worldQ (fun z => Sep B w0 z (rI (.slice (some ⟨g, 0, none⟩) (n + 1) cap) l :: bxM bm #[.slice (some ⟨b, o', none⟩) (n + 1) c, .int .i64 o, .int .i64 col, .bool true, .int .i64 ld] :: X)) (S4.out.dn _) fun z hz => ?_
  have S5 := Lib.hid hz
  clear hz S4
  by_cases hlt : y0 < col
  · have HRES : Hid (R = (l ++ [col], [(20, 0, 0)])) := Lib.hid (by
      rw [HRB.out]; unfold blkF
      rw [if_pos (by rw [HN.out, Nat.add_sub_cancel, HY.out]; exact hlt)])
    obtain ⟨b0, hb0⟩ : ∃ b0, z.heap.size = b0 := ⟨_, rfl⟩
    have S6 := Lib.hid (S5.out.allocAt hb0 (.cells #[.int .i64 col] 3))
    have c2 : z.cell? ⟨bm, 2, none⟩ = some (.int .i64 col) := S5.out.tl.boxAt 2
    clear HR HRB HY S5
    go_upto_region 6 with fail
    go_wp2_with (at_builtin; refine wp_appI (B := B) (w0 := w0) (l := l) _ rfl (.tmp 28) (.tmp 31) rfl rfl S6.out.swap ⟨b0, 0, none⟩ 1 [col] rfl (news1 S6.out) (by simp only [List.length_singleton]; have := HN.out; omega) ?_)
    intro v2 w2 hs2
    have S7 := Lib.hid hs2.swap.tl
    have S8 := Lib.hid (S7.out.alloc (.cells #[.int .i64 20, .int .i64 0, .int .i64 0] 40)).oneT
    clear S6 hs2 S7 c2
    go_wp2_with fail
    go_ret2
    have e := HRES.out
    subst e
    exact ⟨_, _, rfl, S8.out.sub (List.Sublist.cons_cons _ (List.Sublist.cons_cons _ (.cons _ (.refl _))))⟩
  have d0 : z.cell? ⟨g, n, none⟩ = some (.int .i64 y0) := by rw [← HY.out]; exact HROW.out _ _ S5.out (by simp) n (by omega)
  have c2 : z.cell? ⟨bm, 2, none⟩ = some (.int .i64 col) := S5.out.tl.boxAt 2
  have hRS : blkF l col = (l.take (keepN l col l.length), List.replicate (l.length - keepN l col l.length) (21, 0, 0) ++ (if l.getD (keepN l col l.length - 1) 0 < col then [(23, 0, 0)] else [])) := by
    unfold blkF
    rw [if_neg (by rw [HN.out, Nat.add_sub_cancel, HY.out]; exact hlt)]
  by_cases heq : col = y0
  · have heqI : (col == y0) = true := by simpa using heq
    have HRES : Hid (R = (l, [])) := Lib.hid (by
      rw [HRB.out, hRS]
      have hk : keepN l col l.length = l.length := by rw [HN.out, keepN.eq_def]; simp only []; rw [HY.out, if_neg (by omega)]
      rw [hk, List.take_length, Nat.sub_self, List.replicate_zero, List.nil_append, if_neg (by rw [HN.out, Nat.add_sub_cancel, HY.out]; exact hlt)])
    clear HRB hRS
    go_upto_region 7 with fail
    go_quiet (fail)
    clear c2 d0
    refine at_worldQ (fun z => Sep B w0 z (rI (.slice (some ⟨g, 0, none⟩) (n + 1) cap) l :: bxM bm #[.slice (some ⟨b, o', none⟩) (n + 1) c, .int .i64 o, .int .i64 col, .bool true, .int .i64 ld] :: X)) (S5.out.dn _) fun z2 hz2 => ?_
    have S6 := Lib.hid hz2
    clear hz2 S5
    go_wp2_with fail
    go_ret2
    have e := HRES.out
    subst e
    exact ⟨_, _, rfl, (S6.out.sub (List.Sublist.cons_cons _ (.cons _ (.refl _)))).none_ 40 3⟩
  have heqI : (col == y0) = false := by simpa using heq
  have hN0 : Hid (keepN l col (n + 1) = keepN l col l.length) := Lib.hid (by rw [HN.out])
  have hR2 := HRB.out.symm
  rw [hRS] at hR2
  clear HRB hRS
  obtain ⟨K, hK⟩ : ∃ K, keepN l col l.length = K := ⟨_, rfl⟩
  rw [hK] at hN0 hR2
  have HRS := Lib.hid hR2
  have HK := Lib.hid (And.intro (hK ▸ keepN_le l col l.length) (hK ▸ keepN_pos HR.out.h0 h0 HR.out.ne))
  clear hR2 hK
  go_upto_region 7 with fail
  go_quiet (fail)
  clear c2 d0
  refine at_worldQ (fun z => Sep B w0 z (rT (.slice none 0 0) [] :: rI (.slice (some ⟨g, 0, none⟩) (n + 1) cap) l :: bxM bm #[.slice (some ⟨b, o', none⟩) (n + 1) c, .int .i64 o, .int .i64 col, .bool true, .int .i64 ld] :: X)) ((S5.out.dn _).none_ 40 3) fun z2 hz2 => ?_
  have S6 := Lib.hid hz2
  clear hz2 S5
  go_upto_region 9 with fail
  go_loopw [4, 5] (fun q t wr => ∃ j : Nat, j ≤ n ∧ q = .slice (some ⟨g, 0, none⟩) (j + 1) cap ∧ Hid (keepN l col (j + 1) = K) ∧ Hid (Sep B w0 wr (rT t (List.replicate (n - j) (21, 0, 0)) :: rI (.slice (some ⟨g, 0, none⟩) (n + 1) cap) l :: bxM bm #[.slice (some ⟨b, o', none⟩) (n + 1) c, .int .i64 o, .int .i64 col, .bool true, .int .i64 ld] :: X))) (fun q _ _ => match q with | .slice _ k _ => k | _ => 0)
  case atStart => exact ⟨n, by omega, rfl, hN0, Lib.hid (by rw [Nat.sub_self]; exact S6.out)⟩
  case round =>
  clear hN0 S6
  obtain ⟨j, hj, rfl, HJ, HS⟩ := hrel
  have hjI : ¬ (j : Int) < 0 := by omega
  have hjl : (j : Int) < ((j + 1 : Nat) : Int) := by omega
  have hjp : ((j + 1 : Nat) : Int) - 1 = (j : Int) := by omega
  obtain ⟨x, hx⟩ : ∃ x, l.getD j 0 = x := ⟨_, rfl⟩
  have cj : wr.cell? ⟨g, j, none⟩ = some (.int .i64 x) := by rw [← hx]; exact HROW.out _ _ HS.out (by simp) j (by omega)
  have ck : wr.cell? ⟨bm, 2, none⟩ = some (.int .i64 col) := HS.out.tl.tl.boxAt 2
  by_cases hxc : col < x
  · have hj0 : 0 < j := by
      rcases Nat.eq_zero_or_pos j with rfl | h
      · rw [HR.out.h0] at hx; omega
      · exact h
    obtain ⟨i, rfl⟩ : ∃ i, j = i + 1 := ⟨j - 1, by omega⟩
    have HJ2 : Hid (keepN l col (i + 1) = K) := Lib.hid (by rw [← HJ.out, keepN.eq_def l col (i + 1 + 1)]; simp only []; rw [hx, if_pos hxc])
    have hi1 : ((i + 1 : Nat) : Int) - 1 = (i : Int) := by omega
    have hic : i + 1 ≤ cap := by omega
    have hicI : ((i + 1 : Nat) : Int) ≤ (cap : Int) := by omega
    have hicI2 : (i : Int) + 1 ≤ (cap : Int) := by omega
    clear HJ
    go_upto_region 9 with fail
    go_quiet (fail)
    clear cj ck
    refine at_worldQ (fun z => Sep B w0 z (rT u5 (List.replicate (n - (i + 1)) (21, 0, 0)) :: rI (.slice (some ⟨g, 0, none⟩) (n + 1) cap) l :: bxM bm #[.slice (some ⟨b, o', none⟩) (n + 1) c, .int .i64 o, .int .i64 col, .bool true, .int .i64 ld] :: X)) (HS.out.dn _) fun z3 hz3 => ?_
    obtain ⟨b0, hb0⟩ : ∃ b0, z3.heap.size = b0 := ⟨_, rfl⟩
    have S1 := Lib.hid (hz3.allocAt hb0 (.cells #[.int .i64 21, .int .i64 0, .int .i64 0] 40))
    clear HS hz3
    go_upto_region 11 with fail
    go_wp2_with (at_builtin; refine wp_appT (B := B) (w0 := w0) _ rfl (.tmp 59) (.tmp 61) rfl rfl S1.out.swap ⟨b0, 0, none⟩ 1 [(21, 0, 0)] rfl (newsT S1.out) (by simp only [List.length_singleton, List.length_replicate]; omega) ?_)
    intro v4 w4 hs4
    have S2 := Lib.hid hs4.swap.tl
    clear S1 hs4
    have S3 : Hid (Sep B w0 w4 (rT v4 (List.replicate (n - i) (21, 0, 0)) :: rI (.slice (some ⟨g, 0, none⟩) (n + 1) cap) l :: bxM bm #[.slice (some ⟨b, o', none⟩) (n + 1) c, .int .i64 o, .int .i64 col, .bool true, .int .i64 ld] :: X)) := Lib.hid (by
      have h := S2.out
      rw [← List.replicate_succ', show n - (i + 1) + 1 = n - i by omega] at h
      exact h)
    clear S2
    go_wp2_with fail
    go_roundw
    case rel => exact ⟨i, by omega, rfl, HJ2, S3⟩
    case measure => simp
  have hKJ : K = j + 1 := by rw [← HJ.out, keepN.eq_def]; simp only []; rw [hx, if_neg hxc]
  subst hKJ
  have HX : Hid (l.getD j 0 = x) := Lib.hid hx
  go_upto_region 9 with fail
  go_quiet (fail)
  clear cj ck
  refine at_worldQ (fun z => Sep B w0 z (rT u5 (List.replicate (n - j) (21, 0, 0)) :: rI (.slice (some ⟨g, 0, none⟩) (n + 1) cap) l :: bxM bm #[.slice (some ⟨b, o', none⟩) (n + 1) c, .int .i64 o, .int .i64 col, .bool true, .int .i64 ld] :: X)) (HS.out.dn _) fun z3 hz3 => ?_
  have S1 := Lib.hid hz3
  have cj : z3.cell? ⟨g, j, none⟩ = some (.int .i64 x) := by rw [← hx]; exact HROW.out _ _ hz3 (by simp) j (by omega)
  have ck : z3.cell? ⟨bm, 2, none⟩ = some (.int .i64 col) := hz3.tl.tl.boxAt 2
  clear HS hz3 hx
  by_cases hxl : x < col
  · have HRR : Hid (R = (l.take (j + 1), List.replicate (n - j) (21, 0, 0) ++ [(23, 0, 0)])) := Lib.hid (by
      rw [← HRS.out, Nat.add_sub_cancel, HX.out, if_pos hxl, show l.length - (j + 1) = n - j by have := HN.out; omega])
    go_upto_region 12 with fail
    go_quiet (fail)
    clear cj ck
    refine at_worldQ (fun z => Sep B w0 z (rT u5 (List.replicate (n - j) (21, 0, 0)) :: rI (.slice (some ⟨g, 0, none⟩) (j + 1) cap) (l.take (j + 1)) :: bxM bm #[.slice (some ⟨b, o', none⟩) (n + 1) c, .int .i64 o, .int .i64 col, .bool true, .int .i64 ld] :: X)) ((S1.out.dn _).cutI HN.out hj) fun z4 hz4 => ?_
    obtain ⟨b0, hb0⟩ : ∃ b0, z4.heap.size = b0 := ⟨_, rfl⟩
    have S2 := Lib.hid (hz4.allocAt hb0 (.cells #[.int .i64 23, .int .i64 0, .int .i64 0] 40))
    clear S1 hz4
    go_upto_region 13 with fail
    go_wp2_with (at_builtin; refine wp_appT (B := B) (w0 := w0) _ rfl (.tmp 72) (.tmp 74) rfl rfl S2.out.swap ⟨b0, 0, none⟩ 1 [(23, 0, 0)] rfl (newsT S2.out) (by simp only [List.length_singleton, List.length_replicate]; omega) ?_)
    intro v4 w4 hs4
    have S3 := Lib.hid hs4.swap.tl
    clear S2 hs4
    go_wp2_with fail
    go_ret2
    have e := HRR.out
    subst e
    exact ⟨_, _, rfl, S3.out.sub (List.Sublist.cons_cons _ (List.Sublist.cons_cons _ (.cons _ (.refl _))))⟩
  · have HRR : Hid (R = (l.take (j + 1), List.replicate (n - j) (21, 0, 0))) := Lib.hid (by
      rw [← HRS.out, Nat.add_sub_cancel, HX.out, if_neg hxl, List.append_nil, show l.length - (j + 1) = n - j by have := HN.out; omega])
    go_upto_region 12 with fail
    go_quiet (fail)
    clear cj ck
    refine at_worldQ (fun z => Sep B w0 z (rT u5 (List.replicate (n - j) (21, 0, 0)) :: rI (.slice (some ⟨g, 0, none⟩) (j + 1) cap) (l.take (j + 1)) :: bxM bm #[.slice (some ⟨b, o', none⟩) (n + 1) c, .int .i64 o, .int .i64 col, .bool true, .int .i64 ld] :: X)) ((S1.out.dn _).cutI HN.out hj) fun z4 hz4 => ?_
    have S2 := Lib.hid hz4
    clear S1 hz4
    go_wp2_with fail
    go_ret2
    have e := HRR.out
    subst e
    exact ⟨_, _, rfl, S2.out.sub (List.Sublist.cons_cons _ (List.Sublist.cons_cons _ (.cons _ (.refl _))))⟩
end Go.Proofs.Ytemkppjdfjoipaa.I1
